/-
  Records in memory: loads and stores of a whole record; contracts of few, mayBe and of the reference's May. No conditions.
-/
import Derived.Test.YtckjnplaceaalaaDoorRcNum
import Derived.Test.YtckjnplaceaalaaDoorRcTake
import Derived.Laws.Tables
import Derived.Laws.ResultCell
import Derived.Laws.Rows
namespace Go.Proofs.YtckjnplaceaalaaDoor.W
open Go.RowKit Oc
set_option linter.unusedVariables false

/-- a record as cells -/
def rc (p : Rc) : Array Value := #[.int .u64 (p.q : Int), .int .u64 (p.h : Int), .int .i64 p.x, .int .u64 (p.g : Int), .int .u8 (p.m.toNat : Int)]
theorem info_rc : (Tryd.prog.info? 24).map (·.size) = some 5 := by kernel_rfl
/-- a store of a whole struct -/
theorem L_storeRow {ops : Array Oper} {rest : List Oper} {a : Act} {w : World} {Q : Exit → Act → World → Prop} {dst : Option Tmp} {ty : TypeId} {pos : String} {af : Array Edge} {x y : Operand} {g N : Nat} {T t : TypeId} {cs old : Array Value}
    (hi : (Tryd.prog.info? T).map (·.size) = some N) (hx : a.eval x = .pointer (some ⟨g, 0, none⟩)) (hy : a.eval y = .agg cs) (hg : w.heap[g]? = some (.cells old t (0, 0))) (ho : old.size = N) (hc : cs.size = N) (h1 : cs.all (·.oneCell') = true)
    (hK : ∀ w', w'.heap[g]? = some (.cells cs t (0, 0)) → w.grownBy w' (some g) → wpList Tryd.prog ops Q rest (a.put dst undef) w') : wpList Tryd.prog ops Q (⟨dst, .store T x y, ty, pos, af, none⟩ :: rest) a w :=
  wpList_store_row rfl T x y rfl g cs hx hy t old hg (by rw [hi, hc]) (by omega) h1
    (hK _ (setRow_heap w g old _ t _ hg) ⟨rfl, rfl, rfl, by simp, fun k _ hk => setRow_other w g k _ (fun e => hk (by rw [e]))⟩)
/-- a load of a whole record -/
theorem L_loadRc {ops : Array Oper} {rest : List Oper} {a : Act} {w : World} {Q : Exit → Act → World → Prop} {dst : Option Tmp} {ty : TypeId} {pos : String} {af : Array Edge} {x : Operand} {g : Nat} {t : TypeId} {cs : Array Value}
    (hx : a.eval x = .pointer (some ⟨g, 0, none⟩)) (hg : w.heap[g]? = some (.cells cs t (0, 0))) (hc : cs.size = 5)
    (hK : wpList Tryd.prog ops Q rest (a.put dst (.agg cs)) w) : wpList Tryd.prog ops Q (⟨dst, .load 24 x, ty, pos, af, none⟩ :: rest) a w :=
  wpList_load_row rfl 24 x rfl g hx t cs (0, 0) _ hg Tryd.underlying24 rfl (by rw [hc]; exact info_rc) hK
theorem below_up {w0 w w' : World} {B : Nat} (h : Below w0.heap.size w0 w) (hg : w.grownBy w' (some B)) (hB : w0.heap.size ≤ B) : Below w0.heap.size w0 w' := h.grown hg h.size fun g e => by injection e with e; omega
/-- a block that another's change leaves -/
theorem kept_by {w w' : World} {R B : Nat} {o : Obj} (h : w.heap[B]? = some o) (hg : w.grownBy w' (some R)) (hne : B ≠ R) : w'.heap[B]? = some o :=
  (hg.block B (Array.getElem?_eq_some_iff.1 h).1 (fun e => by injection e with e; exact hne e)).trans h
theorem kept_below {w w' : World} {B : Nat} {o : Obj} (h : w.heap[B]? = some o) (hb : Below w.heap.size w w') : w'.heap[B]? = some o := (hb.block B (Array.getElem?_eq_some_iff.1 h).1).trans h
theorem rc_new (w : World) : (w.alloc (.cells #[.int .u64 0, .int .u64 0, .int .i64 0, .int .u64 0, .int .u8 0] 24)).heap[w.heap.size]? = some (.cells #[.int .u64 0, .int .u64 0, .int .i64 0, .int .u64 0, .int .u8 0] 24 (0, 0)) := heap_alloc_new w _
/-- a record's cells, one by one -/
theorem rc_cells {w : World} {B : Nat} {p : Rc} {T : TypeId} (h : w.heap[B]? = some (.cells #[.int .u64 (p.q : Int), .int .u64 (p.h : Int), .int .i64 p.x, .int .u64 (p.g : Int), .int .u8 (p.m.toNat : Int)] T (0, 0))) : w.cell? ⟨B, 0, none⟩ = some (.int .u64 (p.q : Int)) ∧ w.cell? ⟨B, 1, none⟩ = some (.int .u64 (p.h : Int)) ∧ w.cell? ⟨B, 2, none⟩ = some (.int .i64 p.x) ∧ w.cell? ⟨B, 3, none⟩ = some (.int .u64 (p.g : Int)) ∧ w.cell? ⟨B, 4, none⟩ = some (.int .u8 (p.m.toNat : Int)) := by
  refine ⟨?_, ?_, ?_, ?_, ?_⟩ <;> (rw [cell_of_row _ _ _ _ _ _ h]; rfl)
/-- a struct and a number come back -/
theorem results_cell_tmp_row {fn : Func} {p u : Tmp} {ty : TypeId} (h : fn.results = #[.cell p ty, .tmp u]) (tmps : Array Value) (w : World) (g : Nat) (cs : Array Value)
    (hp : tmps.getD p undef = .pointer (some ⟨g, 0, none⟩)) (hl : (loadVar ty ⟨g, 0, none⟩).run Tryd.prog w = .ok (.agg cs) w) :
    (results fn tmps).run Tryd.prog w = .ok (.tuple #[.agg cs, tmps.getD u undef]) w := by
  rw [results_cell_tmp h, hp]
  simp [asAddr, hl, Result.andThen]

theorem few_any (A : Option Addr) (n c m : Nat) (w : World) (hm : m = min n 70) (hc : n ≤ c) :
    Calls Tryd.prog 10 #[.slice A n c] w fun e w' => e = .returned (.slice A m c) ∧ w = w' := by
  by_cases h : n ≤ 70
  · have : m = n := by omega
    subst this
    clear hm
    go_enter Tryd.func10, Tryd.ntmps10
    go_wp2
    go_ret
    exact ⟨rfl, rfl⟩
  · have : m = 70 := by omega
    subst this
    clear hm
    go_enter Tryd.func10, Tryd.ntmps10
    go_wp2
    go_ret
    exact ⟨rfl, rfl⟩
theorem follows_any (p : Rc) (q h : Nat) (b : Bool) (w : World) (hb : b = (decide (p.q = q) && decide (h ≤ p.h))) :
    Calls Tryd.prog 13 #[(.agg #[.int .u64 (p.q : Int), .int .u64 (p.h : Int), .int .i64 p.x, .int .u64 (p.g : Int), .int .u8 (p.m.toNat : Int)]), .int .u64 (q : Int), .int .u64 (h : Int)] w fun e w' => e = .returned (.bool b) ∧ Below w.heap.size w w' := by
  obtain ⟨pq, ph, px, pg, pm⟩ := p
  dsimp only at hb ⊢
  by_cases h1 : pq = q
  · by_cases h2 : h ≤ ph
    · have hf : b = true := by rw [hb]; simp [h1, h2]
      subst hf h1
      have hd : decide ((ph : Int) ≥ (h : Int)) = true := by simp; omega
      clear hb
      go_enter Tryd.func13, Tryd.ntmps13
      go_wp2
      go_ret
      exact ⟨rfl, balloc _ _⟩
    · have hf : b = false := by rw [hb]; simp [h2]
      subst hf h1
      clear hb
      go_enter Tryd.func13, Tryd.ntmps13
      go_wp2
      go_ret
      exact ⟨rfl, balloc _ _⟩
  · have hf : b = false := by rw [hb]; simp [h1]
    subst hf
    clear hb
    go_enter Tryd.func13, Tryd.ntmps13
    go_wp2
    go_ret
    exact ⟨rfl, balloc _ _⟩
end Go.Proofs.YtckjnplaceaalaaDoor.W

/-
  Contracts of Fresh and read. No conditions.
-/
import Derived.Test.YthclgehifomkhaaDoorGpMay
import Derived.Test.YthclgehifomkhaaDoorOctReader
namespace Go.Proofs.YthclgehifomkhaaDoor.W
open Go.RowKit Oc
set_option linter.unusedVariables false

/-- six numbers as cells; a page as cells -/
def ga (g : Nat → Nat) : Array Value := #[.int .u64 (g 0 : Int), .int .u64 (g 1 : Int), .int .u64 (g 2 : Int), .int .u64 (g 3 : Int), .int .u64 (g 4 : Int), .int .u64 (g 5 : Int)]
def gc (no : Int) (v : Nat) (g : Nat → Nat) : Array Value := #[.int .i64 no, .int .u64 (v : Int), .int .u64 (g 0 : Int), .int .u64 (g 1 : Int), .int .u64 (g 2 : Int), .int .u64 (g 3 : Int), .int .u64 (g 4 : Int), .int .u64 (g 5 : Int)]
def up (g : Nat → Nat) (j x : Nat) : Nat → Nat := fun i => if i = j then x else g i
theorem ga_set {w : World} {B : Nat} {g : Nat → Nat} {T : TypeId} (h : w.heap[B]? = some (.cells (ga g) T (0, 0))) {j : Nat} (hj : j < 6) (x : Nat) : (w.setCell ⟨B, j, none⟩ (.int .u64 (x : Int))).heap[B]? = some (.cells (ga (up g j x)) T (0, 0)) := by
  rw [heap_setCell_same w B j _ T _ h]
  match j, hj with
  | 0, _ => rfl
  | 1, _ => rfl
  | 2, _ => rfl
  | 3, _ => rfl
  | 4, _ => rfl
  | 5, _ => rfl
theorem gc_set {w : World} {B : Nat} {no : Int} {v : Nat} {g : Nat → Nat} {T : TypeId} (h : w.heap[B]? = some (.cells (gc no v g) T (0, 0))) {j : Nat} (hj : j < 6) (x : Nat) : (w.setCell ⟨B, 2 + j, none⟩ (.int .u64 (x : Int))).heap[B]? = some (.cells (gc no v (up g j x)) T (0, 0)) := by
  rw [heap_setCell_same w B (2 + j) _ T _ h]
  match j, hj with
  | 0, _ => rfl
  | 1, _ => rfl
  | 2, _ => rfl
  | 3, _ => rfl
  | 4, _ => rfl
  | 5, _ => rfl
theorem ga_cell {w : World} {B : Nat} {g : Nat → Nat} {T : TypeId} (h : w.heap[B]? = some (.cells (ga g) T (0, 0))) {j : Nat} (hj : j < 6) : w.cell? ⟨B, j, none⟩ = some (.int .u64 (g j : Int)) ∧ w.frozen? ⟨B, j, none⟩ = false := by
  refine ⟨?_, frozen_of_row w B j _ T h⟩
  rw [cell_of_row _ _ _ _ _ _ h]
  match j, hj with
  | 0, _ => rfl
  | 1, _ => rfl
  | 2, _ => rfl
  | 3, _ => rfl
  | 4, _ => rfl
  | 5, _ => rfl
theorem gc_cell {w : World} {B : Nat} {no : Int} {v : Nat} {g : Nat → Nat} {T : TypeId} (h : w.heap[B]? = some (.cells (gc no v g) T (0, 0))) {j : Nat} (hj : j < 6) : w.cell? ⟨B, 2 + j, none⟩ = some (.int .u64 (g j : Int)) ∧ w.frozen? ⟨B, 2 + j, none⟩ = false := by
  refine ⟨?_, frozen_of_row w B (2 + j) _ T h⟩
  rw [cell_of_row _ _ _ _ _ _ h]
  match j, hj with
  | 0, _ => rfl
  | 1, _ => rfl
  | 2, _ => rfl
  | 3, _ => rfl
  | 4, _ => rfl
  | 5, _ => rfl
/-- a store of a whole struct -/
theorem L_storeRow {ops : Array Oper} {rest : List Oper} {a : Act} {w : World} {Q : Exit → Act → World → Prop} {dst : Option Tmp} {ty : TypeId} {pos : String} {af : Array Edge} {x y : Operand} {g N : Nat} {T t : TypeId} {cs old : Array Value}
    (hi : (Tryd.prog.info? T).map (·.size) = some N) (hx : a.eval x = .pointer (some ⟨g, 0, none⟩)) (hy : a.eval y = .agg cs) (hg : w.heap[g]? = some (.cells old t (0, 0))) (ho : old.size = N) (hc : cs.size = N) (h1 : cs.all (·.oneCell') = true)
    (hK : ∀ w', w'.heap[g]? = some (.cells cs t (0, 0)) → w.grownBy w' (some g) → wpList Tryd.prog ops Q rest (a.put dst undef) w') : wpList Tryd.prog ops Q (⟨dst, .store T x y, ty, pos, af, none⟩ :: rest) a w :=
  wpList_store_row rfl T x y rfl g cs hx hy t old hg (by rw [hi, hc]) (by omega) h1
    (hK _ (setRow_heap w g old _ t _ hg) ⟨rfl, rfl, rfl, by simp, fun k _ hk => setRow_other w g k _ (fun e => hk (by rw [e]))⟩)
/-- a load of a whole page -/
theorem L_loadGp {ops : Array Oper} {rest : List Oper} {a : Act} {w : World} {Q : Exit → Act → World → Prop} {dst : Option Tmp} {ty : TypeId} {pos : String} {af : Array Edge} {x : Operand} {g : Nat} {t : TypeId} {cs : Array Value}
    (hx : a.eval x = .pointer (some ⟨g, 0, none⟩)) (hg : w.heap[g]? = some (.cells cs t (0, 0))) (hc : cs.size = 8)
    (hK : wpList Tryd.prog ops Q rest (a.put dst (.agg cs)) w) : wpList Tryd.prog ops Q (⟨dst, .load 25 x, ty, pos, af, none⟩ :: rest) a w :=
  wpList_load_row rfl 25 x rfl g hx t cs (0, 0) _ hg Tryd.underlying25 rfl (by rw [hc]; exact info_gp) hK
theorem info_g6 : (Tryd.prog.info? 23).map (·.size) = some 6 := by kernel_rfl
theorem L_loadG6 {ops : Array Oper} {rest : List Oper} {a : Act} {w : World} {Q : Exit → Act → World → Prop} {dst : Option Tmp} {ty : TypeId} {pos : String} {af : Array Edge} {x : Operand} {g : Nat} {t : TypeId} {cs : Array Value}
    (hx : a.eval x = .pointer (some ⟨g, 0, none⟩)) (hg : w.heap[g]? = some (.cells cs t (0, 0))) (hc : cs.size = 6)
    (hK : wpList Tryd.prog ops Q rest (a.put dst (.agg cs)) w) : wpList Tryd.prog ops Q (⟨dst, .load 23 x, ty, pos, af, none⟩ :: rest) a w :=
  wpList_load_row rfl 23 x rfl g hx t cs (0, 0) _ hg Tryd.underlying23 rfl (by rw [hc]; exact info_g6) hK

theorem below_up {w0 w w' : World} {B : Nat} (h : Below w0.heap.size w0 w) (hg : w.grownBy w' (some B)) (hB : w0.heap.size ≤ B) : Below w0.heap.size w0 w' := h.grown hg h.size fun g e => by injection e with e; omega

theorem heap_at_next (w : World) (a b : Obj) : ((w.alloc a).alloc b).heap[w.heap.size + 1]? = some b := by
  have h := heap_alloc_new (w.alloc a) b
  rwa [show (w.alloc a).heap.size = w.heap.size + 1 by simp] at h
/-- the first j are 1 -/
def ones (j : Nat) : Nat → Nat := fun i => if i < j then 1 else 0
theorem ga_congr {f g : Nat → Nat} (h : ∀ i, i < 6 → f i = g i) : ga f = ga g := by
  unfold ga
  rw [h 0 (by omega), h 1 (by omega), h 2 (by omega), h 3 (by omega), h 4 (by omega), h 5 (by omega)]
theorem gc_congr {no : Int} {v : Nat} {f g : Nat → Nat} (h : ∀ i, i < 6 → f i = g i) : gc no v f = gc no v g := by
  unfold gc
  rw [h 0 (by omega), h 1 (by omega), h 2 (by omega), h 3 (by omega), h 4 (by omega), h 5 (by omega)]
theorem ga_ones (j : Nat) : ga (up (ones j) j 1) = ga (ones (j + 1)) := ga_congr fun i _ => by
  unfold up ones
  by_cases h : i = j
  · rw [if_pos h, if_pos (by omega)]
  · rw [if_neg h]
    by_cases h2 : i < j
    · rw [if_pos h2, if_pos (by omega)]
    · rw [if_neg h2, if_neg (by omega)]
set_option maxHeartbeats 1000000 in
theorem fresh_any (no : Int) (w : World) : Calls Tryd.prog 14 #[.int .i64 no] w fun e w' => e = .returned (.agg #[.int .i64 no, .int .u64 1, .int .u64 1, .int .u64 1, .int .u64 1, .int .u64 1, .int .u64 1, .int .u64 1]) ∧ Below w.heap.size w w' := by
  go_enter Tryd.func14, Tryd.ntmps14
  go_wp2
  go_loopw [4, 5] (fun _ q wr => ∃ j : Nat, j ≤ 6 ∧ q = .int .i64 j ∧ Hid (wr.heap[w.heap.size + 1]? = some (.cells (ga (ones j)) 23 (0, 0))) ∧ Hid (wr.heap[w.heap.size]? = some (.cells (gc 0 0 fun _ => 0) 25 (0, 0))) ∧ Hid (Below w.heap.size w wr)) (fun _ q _ => 6 - (intOf q).toNat)
  case atStart =>
    refine ⟨0, by omega, rfl, ?_, ?_, bthen (balloc _ _) (balloc _ _)⟩
    · exact heap_at_next w _ _
    · exact heap_alloc2_old _ _ _
  case round =>
    obtain ⟨j, hj, rfl, HG, HC, HB⟩ := hrel
    by_cases hlt : j < 6
    · obtain ⟨c1, f1⟩ := ga_cell HG.out hlt
      go_wp2
      go_roundw
      case rel =>
        refine ⟨j + 1, by omega, rfl, ?_, ?_, below_up HB.out (grown_set _ _ _ _) (by omega)⟩
        · show _ = _
          rw [← ga_ones]
          exact ga_set HG.out hlt 1
        · exact ((grown_set _ _ _ _).block _ (by have := (Array.getElem?_eq_some_iff.1 HC.out).1; omega) (fun e => by injection e with e; omega)).trans HC.out
      case measure => simp [intOf]; omega
    · have h6 : j = 6 := by omega
      have hg : wr.heap[w.heap.size + 1]? = some (.cells #[.int .u64 1, .int .u64 1, .int .u64 1, .int .u64 1, .int .u64 1, .int .u64 1] 23 (0, 0)) := by rw [HG.out, h6]; rfl
      have H1 := Lib.hid hg
      clear hg h6
      go_wp2_with (first
        | ((with_reducible apply L_loadG6); exact rfl; exact H1.out; exact rfl)
        | ((with_reducible apply L_storeRow (N := 8) info_gp); exact rfl; exact rfl; exact HC.out; exact rfl; exact rfl; (simp [Value.oneCell']); intro w1 h1 g1; have HH := Lib.hid h1; have GG := Lib.hid g1; clear h1 g1))
      refine bodyPost_ret (results_cell_row rfl _ _ _ _ _ _ _ rfl HH.out Tryd.underlying25 rfl info_gp) rfl ?_
      exact ⟨rfl, below_up HB.out GG.out (Nat.le_refl _)⟩
end Go.Proofs.YthclgehifomkhaaDoor.W

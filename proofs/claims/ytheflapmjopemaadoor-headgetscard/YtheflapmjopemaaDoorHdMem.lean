/-
  Heads of slots in memory: loads and stores of a whole head; the table of widths; contracts of few, Free, Of, Matches and of the reference's Of and Matches. No conditions.
-/
import Derived.Test.YtheflapmjopemaaDoorHdNum
import Derived.Test.YtheflapmjopemaaDoorKRow
import Derived.Deep.QuietTactic
import Derived.BigQuiet
import Derived.Laws.Tables
import Derived.Laws.ResultCell
import Derived.Laws.Rows
namespace Go.Proofs.YtheflapmjopemaaDoor.W.Hd
open Go.RowKit Oc Gt
set_option linter.unusedVariables false

theorem info_hd : (Tryd.prog.info? 25).map (·.size) = some 5 := by kernel_rfl
/-- a store of a whole struct -/
theorem L_storeRow {ops : Array Oper} {rest : List Oper} {a : Act} {w : World} {Q : Exit → Act → World → Prop} {dst : Option Tmp} {ty : TypeId} {pos : String} {af : Array Edge} {x y : Operand} {g N : Nat} {T t : TypeId} {cs old : Array Value}
    (hi : (Tryd.prog.info? T).map (·.size) = some N) (hx : a.eval x = .pointer (some ⟨g, 0, none⟩)) (hy : a.eval y = .agg cs) (hg : w.heap[g]? = some (.cells old t (0, 0))) (ho : old.size = N) (hc : cs.size = N) (h1 : cs.all (·.oneCell') = true)
    (hK : ∀ w', w'.heap[g]? = some (.cells cs t (0, 0)) → w.grownBy w' (some g) → wpList Tryd.prog ops Q rest (a.put dst undef) w') : wpList Tryd.prog ops Q (⟨dst, .store T x y, ty, pos, af, none⟩ :: rest) a w :=
  wpList_store_row rfl T x y rfl g cs hx hy t old hg (by rw [hi, hc]) (by omega) h1
    (hK _ (setRow_heap w g old _ t _ hg) ⟨rfl, rfl, rfl, by simp, fun k _ hk => setRow_other w g k _ (fun e => hk (by rw [e]))⟩)
/-- a load of a whole head -/
theorem L_loadHd {ops : Array Oper} {rest : List Oper} {a : Act} {w : World} {Q : Exit → Act → World → Prop} {dst : Option Tmp} {ty : TypeId} {pos : String} {af : Array Edge} {x : Operand} {g : Nat} {t : TypeId} {cs : Array Value}
    (hx : a.eval x = .pointer (some ⟨g, 0, none⟩)) (hg : w.heap[g]? = some (.cells cs t (0, 0))) (hc : cs.size = 5)
    (hK : wpList Tryd.prog ops Q rest (a.put dst (.agg cs)) w) : wpList Tryd.prog ops Q (⟨dst, .load 25 x, ty, pos, af, none⟩ :: rest) a w :=
  wpList_load_row rfl 25 x rfl g hx t cs (0, 0) _ hg Tryd.underlying25 rfl (by rw [hc]; exact info_hd) hK
theorem below_up {w0 w w' : World} {B : Nat} (h : Below w0.heap.size w0 w) (hg : w.grownBy w' (some B)) (hB : w0.heap.size ≤ B) : Below w0.heap.size w0 w' := h.grown hg h.size fun g e => by injection e with e; omega
/-- a block that another's change leaves -/
theorem kept_by {w w' : World} {R B : Nat} {o : Obj} (h : w.heap[B]? = some o) (hg : w.grownBy w' (some R)) (hne : B ≠ R) : w'.heap[B]? = some o :=
  (hg.block B (Array.getElem?_eq_some_iff.1 h).1 (fun e => by injection e with e; exact hne e)).trans h
theorem kept_below {w w' : World} {B : Nat} {o : Obj} (h : w.heap[B]? = some o) (hb : Below w.heap.size w w') : w'.heap[B]? = some o := (hb.block B (Array.getElem?_eq_some_iff.1 h).1).trans h
theorem hd_new (w : World) : (w.alloc (.cells #[.bool false, .int .i64 0, .int .u64 0, .int .u32 0, .int .u32 0] 25)).heap[w.heap.size]? = some (.cells #[.bool false, .int .i64 0, .int .u64 0, .int .u32 0, .int .u32 0] 25 (0, 0)) := heap_alloc_new w _
/-- a row's cells, one by one -/
theorem cells5 {w : World} {B : Nat} {T : TypeId} {v0 v1 v2 v3 v4 : Value} (h : w.heap[B]? = some (.cells #[v0, v1, v2, v3, v4] T (0, 0))) : w.cell? ⟨B, 0, none⟩ = some v0 ∧ w.cell? ⟨B, 1, none⟩ = some v1 ∧ w.cell? ⟨B, 2, none⟩ = some v2 ∧ w.cell? ⟨B, 3, none⟩ = some v3 ∧ w.cell? ⟨B, 4, none⟩ = some v4 := by
  refine ⟨?_, ?_, ?_, ?_, ?_⟩ <;> (rw [cell_of_row _ _ _ _ _ _ h]; rfl)
/-- a struct and a number come back -/
theorem results_cell_tmp_row {fn : Func} {p u : Tmp} {ty : TypeId} (h : fn.results = #[.cell p ty, .tmp u]) (tmps : Array Value) (w : World) (g : Nat) (cs : Array Value)
    (hp : tmps.getD p undef = .pointer (some ⟨g, 0, none⟩)) (hl : (loadVar ty ⟨g, 0, none⟩).run Tryd.prog w = .ok (.agg cs) w) :
    (results fn tmps).run Tryd.prog w = .ok (.tuple #[.agg cs, tmps.getD u undef]) w := by
  rw [results_cell_tmp h, hp]
  simp [asAddr, hl, Result.andThen]
theorem exec_ld {P : Program} {o : Oper} {ev : Operand → Value} {ty : TypeId} {x : Operand} {p r : Value} {w : World} (ho : o.op = .load ty x) (hx : ev x = p) (hrun : (Instr.loadAt ty p).run P w = .ok r w) : (execOp ev o).run P w = .ok (.value r) w := by
  unfold execOp
  simp only [ho, hx, Sem.run_bind, hrun, Result.andThen_ok, Sem.run_pure]
theorem run_load5 {w : World} {b : Nat} {T : TypeId} {cs : Array Value} (hc : cs.size = 5) (hg : w.heap[b]? = some (.cells cs T (0, 0))) : (Instr.loadAt 25 (.pointer (some ⟨b, 0, none⟩))).run Tryd.prog w = .ok (.agg cs) w := by
  simp only [Instr.loadAt, Instr.sureAddr, Sem.run_bind, Sem.run_pure, Result.andThen_ok, run_loadVar_row w b T 25 _ (0, 0) _ hg Tryd.underlying25 rfl (by rw [hc]; exact info_hd)]
theorem below_drew1 {B : Nat} {a w : World} (h : Below B a w) : Below B a w.drew := ⟨h.os, h.tape, h.output, h.size, h.block⟩
theorem below_drewN {B : Nat} {a w : World} (h : Below B a w) (n : Nat) : Below B a (w.drewN n) := ⟨h.os, h.tape, h.output, h.size, h.block⟩

/-- how many octets each number takes -/
def wd (k : Nat) : Nat := [1, 2, 8, 4, 4].getD k 0
theorem wd_lt {k : Nat} (h : k < 5) : 1 ≤ wd k ∧ wd k ≤ 8 := by
  match k, h with
  | 0, _ => decide
  | 1, _ => decide
  | 2, _ => decide
  | 3, _ => decide
  | 4, _ => decide
def widArr : Array Value := #[.int .i64 1, .int .i64 2, .int .i64 8, .int .i64 4, .int .i64 4]
theorem wid_at {k : Nat} (h : k < 5) : widArr[k]? = some (.int .i64 ((wd k : Nat) : Int)) := by
  match k, h with
  | 0, _ => rfl
  | 1, _ => rfl
  | 2, _ => rfl
  | 3, _ => rfl
  | 4, _ => rfl
/-- both tables hold what the text lays -/
def EnvH (w : World) : Prop := Env w ∧ ∃ t fr, w.heap[0]? = some (.cells widArr t fr)
theorem EnvH.cell {w : World} (h : EnvH w) {k : Nat} (hk : k < 5) : w.cell? ⟨0, k, none⟩ = some (.int .i64 ((wd k : Nat) : Int)) := by
  obtain ⟨_, t, fr, hh⟩ := h
  rw [cell_of_row w _ k _ _ _ hh]
  exact wid_at hk
theorem EnvH.below {w w' : World} (h : EnvH w) (hb : Below w.heap.size w w') : EnvH w' := by
  obtain ⟨h1, t, fr, hh⟩ := h
  exact ⟨h1.below hb, t, fr, (hb.block _ (Array.getElem?_eq_some_iff.1 hh).1).trans hh⟩
theorem EnvH.alloc {w : World} (h : EnvH w) (o : Obj) : EnvH (w.alloc o) := h.below (balloc _ _)

theorem few_any (A : Option Addr) (n c m : Nat) (w : World) (hm : m = min n 70) (hc : n ≤ c) :
    Calls Tryd.prog 10 #[.slice A n c] w fun e w' => e = .returned (.slice A m c) ∧ w = w' := by
  by_cases h : n ≤ 70
  · have : m = n := by omega
    subst this
    clear hm
    go_enter Tryd.func10, Tryd.ntmps10
    go_wp2
    go_ret
    exact ⟨rfl, rfl⟩
  · have : m = 70 := by omega
    subst this
    clear hm
    go_enter Tryd.func10, Tryd.ntmps10
    go_wp2
    go_ret
    exact ⟨rfl, rfl⟩

theorem free_any (r : Int) (w : World) : Calls Tryd.prog 15 #[.int .u32 r] w fun e w' => e = .returned (.agg #[.bool false, .int .i64 0, .int .u64 0, .int .u32 0, .int .u32 r]) ∧ Below w.heap.size w w' := by
  have X := Lib.hid (hd_new w)
  go_enter Tryd.func15, Tryd.ntmps15
  go_wp2_with ((with_reducible apply L_storeRow (N := 5) info_hd); exact rfl; exact rfl; exact X.out; exact rfl; exact rfl; (simp [Value.oneCell']); intro w4 h4 g4; have H4 := Lib.hid h4; have G4 := Lib.hid g4; clear h4 g4)
  refine bodyPost_ret (results_cell_row rfl _ _ _ _ _ _ _ rfl H4.out Tryd.underlying25 rfl info_hd) rfl ?_
  exact ⟨rfl, below_up (balloc _ _) G4.out (Nat.le_refl _)⟩
/-- a sum of octets in a row that is laid just so -/
theorem sum_at (A : Option Addr) (n c : Nat) (xs : List UInt8) (s b : Nat) (y : World) (hb : b = y.heap.size) (hn : n ≤ 1000000) (ho : Oct y A n xs) (he : Env y) (hs : sum xs = s) :
    Calls Tryd.prog 31 #[.slice (some ⟨b, 0, none⟩) 1 1] (y.alloc (.cells #[.slice A n c] 26)) fun e w' => e = .returned (.int .u32 (s : Int)) ∧ y.alloc (.cells #[.slice A n c] 26) = w' := by
  subst hb
  exact sum_new A n c xs s y (by omega) ho he hs
set_option maxHeartbeats 1000000 in
/-- what Of leaves -/
theorem of_any (A : Option Addr) (n c : Nat) (xs : List UInt8) (l g r : Int) (s : Nat) (w : World) (hn : n ≤ 1000000) (ho : Oct w A n xs) (he : Env w) (hs : sum xs = s) :
    Calls Tryd.prog 13 #[.int .i64 l, .int .u64 g, .slice A n c, .int .u32 r] w fun e w' => e = .returned (.agg #[.bool true, .int .i64 l, .int .u64 g, .int .u32 (s : Int), .int .u32 r]) ∧ Below w.heap.size w w' := by
  have HO := Lib.hid ho
  have HE := Lib.hid he
  have HS := Lib.hid hs
  have X := Lib.hid (kept_below (hd_new w) (balloc _ (.cells #[.slice A n c] 26)))
  clear ho he hs
  go_enter Tryd.func13, Tryd.ntmps13
  go_wp2_with fail
  refine (sum_at _ _ _ xs s _ _ (by simp) hn (HO.out.alloc _) (HE.out.alloc _) HS.out).mono ?_; rintro e w' ⟨rfl, rfl⟩
  go_wp2_with ((with_reducible apply L_storeRow (N := 5) info_hd); exact rfl; exact rfl; exact X.out; exact rfl; exact rfl; (simp [Value.oneCell']); intro w4 h4 g4; have H4 := Lib.hid h4; have G4 := Lib.hid g4; clear h4 g4)
  refine bodyPost_ret (results_cell_row rfl _ _ _ _ _ _ _ rfl H4.out Tryd.underlying25 rfl info_hd) rfl ?_
  exact ⟨rfl, below_up (bthen (balloc _ _) (balloc _ _)) G4.out (Nat.le_refl _)⟩
set_option maxHeartbeats 1000000 in
theorem rof_any (A : Option Addr) (n c : Nat) (xs : List UInt8) (l g r : Int) (s : Nat) (w : World) (hn : n ≤ 1000000) (ho : Oct w A n xs) (hs : sum xs = s) :
    Calls Tryd.prog 14 #[.int .i64 l, .int .u64 g, .slice A n c, .int .u32 r] w fun e w' => e = .returned (.agg #[.bool true, .int .i64 l, .int .u64 g, .int .u32 (s : Int), .int .u32 r]) ∧ Below w.heap.size w w' := by
  have HO := Lib.hid ho
  have HS := Lib.hid hs
  have X := Lib.hid (hd_new w)
  clear ho hs
  go_enter Tryd.func14, Tryd.ntmps14
  go_wp2_with fail
  refine (rsum_any _ _ _ xs s _ (by omega) (HO.out.alloc _) HS.out).mono ?_; rintro e w' ⟨rfl, rfl⟩
  go_wp2_with ((with_reducible apply L_storeRow (N := 5) info_hd); exact rfl; exact rfl; exact X.out; exact rfl; exact rfl; (simp [Value.oneCell']); intro w4 h4 g4; have H4 := Lib.hid h4; have G4 := Lib.hid g4; clear h4 g4)
  refine bodyPost_ret (results_cell_row rfl _ _ _ _ _ _ _ rfl H4.out Tryd.underlying25 rfl info_hd) rfl ?_
  exact ⟨rfl, below_up (balloc _ _) G4.out (Nat.le_refl _)⟩
end Go.Proofs.YtheflapmjopemaaDoor.W.Hd

/-
  The contract of Newer. No conditions.
-/
import Derived.Test.YthclgehifomkhaaDoorGpGet
import Derived.StillTailTactics
namespace Go.Proofs.YthclgehifomkhaaDoor.W
open Go.RowKit Oc
set_option linter.unusedVariables false

theorem cells_u64 : Tryd.prog.cellsOf 22 = 1 := by kernel_rfl
/-- six numbers compared -/
theorem eq_arr6 (w : World) (a b : Nat → Int) : (Op.equalIn 9999 23 (.agg #[.int .u64 (a 0), .int .u64 (a 1), .int .u64 (a 2), .int .u64 (a 3), .int .u64 (a 4), .int .u64 (a 5)]) (.agg #[.int .u64 (b 0), .int .u64 (b 1), .int .u64 (b 2), .int .u64 (b 3), .int .u64 (b 4), .int .u64 (b 5)])).run Tryd.prog w
    = .ok ((a 0 == b 0) && ((a 1 == b 1) && ((a 2 == b 2) && ((a 3 == b 3) && ((a 4 == b 4) && (a 5 == b 5)))))) w := by
  obtain ⟨i, hi, hz0, hz1, hz2⟩ := info_parts info_u64
  rw [run_equalIn_array w 9998 _ _ Tryd.underlying23 hi, cells_u64]
  have px : ∀ (w : World) (xs : Array Value) (k : Nat) (v : Value), xs[k]? = some v → (part 22 xs k).run Tryd.prog w = .ok v w := fun w xs k v hv => by
    simp [part, isAgg, run_underlying Tryd.underlying22, hv]
  have pe : ∀ (w : World) (x y : Int), (Op.equalIn 9998 22 (.int .u64 x) (.int .u64 y)).run Tryd.prog w = .ok (x == y) w := fun w x y => run_equalIn_int w 9997 22 .u64 .u64 x y Tryd.underlying22
  simp only [List.range_succ, List.range_zero, List.nil_append, List.cons_append, Op.eqItems, Sem.run_bind]
  rw [px w _ _ (.int .u64 (a 0)) rfl]
  simp only [Result.andThen_ok]
  rw [px w _ _ (.int .u64 (b 0)) rfl]
  simp only [Result.andThen_ok, pe]
  cases h0 : (a 0 == b 0)
  · simp
  simp only [Bool.not_true, Bool.false_eq_true, if_false, Sem.run_bind, Bool.true_and]
  rw [px w _ _ (.int .u64 (a 1)) rfl]
  simp only [Result.andThen_ok]
  rw [px w _ _ (.int .u64 (b 1)) rfl]
  simp only [Result.andThen_ok, pe]
  cases h1 : (a 1 == b 1)
  · simp
  simp only [Bool.not_true, Bool.false_eq_true, if_false, Sem.run_bind, Bool.true_and]
  rw [px w _ _ (.int .u64 (a 2)) rfl]
  simp only [Result.andThen_ok]
  rw [px w _ _ (.int .u64 (b 2)) rfl]
  simp only [Result.andThen_ok, pe]
  cases h2 : (a 2 == b 2)
  · simp
  simp only [Bool.not_true, Bool.false_eq_true, if_false, Sem.run_bind, Bool.true_and]
  rw [px w _ _ (.int .u64 (a 3)) rfl]
  simp only [Result.andThen_ok]
  rw [px w _ _ (.int .u64 (b 3)) rfl]
  simp only [Result.andThen_ok, pe]
  cases h3 : (a 3 == b 3)
  · simp
  simp only [Bool.not_true, Bool.false_eq_true, if_false, Sem.run_bind, Bool.true_and]
  rw [px w _ _ (.int .u64 (a 4)) rfl]
  simp only [Result.andThen_ok]
  rw [px w _ _ (.int .u64 (b 4)) rfl]
  simp only [Result.andThen_ok, pe]
  cases h4 : (a 4 == b 4)
  · simp
  simp only [Bool.not_true, Bool.false_eq_true, if_false, Sem.run_bind, Bool.true_and]
  rw [px w _ _ (.int .u64 (a 5)) rfl]
  simp only [Result.andThen_ok]
  rw [px w _ _ (.int .u64 (b 5)) rfl]
  simp only [Result.andThen_ok, pe]
  cases h5 : (a 5 == b 5) <;> simp
theorem eq6 (w : World) (a0 a1 a2 a3 a4 a5 b0 b1 b2 b3 b4 b5 : Int) : (Op.equalIn 9999 23 (.agg #[.int .u64 a0, .int .u64 a1, .int .u64 a2, .int .u64 a3, .int .u64 a4, .int .u64 a5]) (.agg #[.int .u64 b0, .int .u64 b1, .int .u64 b2, .int .u64 b3, .int .u64 b4, .int .u64 b5])).run Tryd.prog w
    = .ok ((a0 == b0) && ((a1 == b1) && ((a2 == b2) && ((a3 == b3) && ((a4 == b4) && (a5 == b5)))))) w :=
  eq_arr6 w (fun i => match i with | 0 => a0 | 1 => a1 | 2 => a2 | 3 => a3 | 4 => a4 | _ => a5) (fun i => match i with | 0 => b0 | 1 => b1 | 2 => b2 | 3 => b3 | 4 => b4 | _ => b5)
attribute [local go_sem] eq6

theorem gp_cells {w : World} {B : Nat} {p : Gp} {T : TypeId} (h : w.heap[B]? = some (.cells #[.int .i64 p.no, .int .u64 (p.v : Int), .int .u64 (p.g 0 : Int), .int .u64 (p.g 1 : Int), .int .u64 (p.g 2 : Int), .int .u64 (p.g 3 : Int), .int .u64 (p.g 4 : Int), .int .u64 (p.g 5 : Int)] T (0, 0))) : w.cell? ⟨B, 0, none⟩ = some (.int .i64 p.no) ∧ w.cell? ⟨B, 1, none⟩ = some (.int .u64 (p.v : Int)) ∧ w.cell? ⟨B, 2, none⟩ = some (.int .u64 (p.g 0 : Int)) ∧ w.cell? ⟨B, 3, none⟩ = some (.int .u64 (p.g 1 : Int)) ∧
    w.cell? ⟨B, 4, none⟩ = some (.int .u64 (p.g 2 : Int)) ∧ w.cell? ⟨B, 5, none⟩ = some (.int .u64 (p.g 3 : Int)) ∧ w.cell? ⟨B, 6, none⟩ = some (.int .u64 (p.g 4 : Int)) ∧ w.cell? ⟨B, 7, none⟩ = some (.int .u64 (p.g 5 : Int)) := by
  refine ⟨?_, ?_, ?_, ?_, ?_, ?_, ?_, ?_⟩ <;> (rw [cell_of_row _ _ _ _ _ _ h]; rfl)

theorem set8_0 {w : World} {B : Nat} {T : TypeId} {o0 o1 o2 o3 o4 o5 o6 o7 : Value} (h : w.heap[B]? = some (.cells #[o0, o1, o2, o3, o4, o5, o6, o7] T (0, 0))) (v : Value) : (w.setCell ⟨B, 0, none⟩ v).heap[B]? = some (.cells #[v, o1, o2, o3, o4, o5, o6, o7] T (0, 0)) := by
  rw [heap_setCell_same w B 0 _ T v h]; rfl
theorem set8_1 {w : World} {B : Nat} {T : TypeId} {o0 o1 o2 o3 o4 o5 o6 o7 : Value} (h : w.heap[B]? = some (.cells #[o0, o1, o2, o3, o4, o5, o6, o7] T (0, 0))) (v : Value) : (w.setCell ⟨B, 1, none⟩ v).heap[B]? = some (.cells #[o0, v, o2, o3, o4, o5, o6, o7] T (0, 0)) := by
  rw [heap_setCell_same w B 1 _ T v h]; rfl
theorem set8_2 {w : World} {B : Nat} {T : TypeId} {o0 o1 o2 o3 o4 o5 o6 o7 : Value} (h : w.heap[B]? = some (.cells #[o0, o1, o2, o3, o4, o5, o6, o7] T (0, 0))) (v : Value) : (w.setCell ⟨B, 2, none⟩ v).heap[B]? = some (.cells #[o0, o1, v, o3, o4, o5, o6, o7] T (0, 0)) := by
  rw [heap_setCell_same w B 2 _ T v h]; rfl
theorem set8_3 {w : World} {B : Nat} {T : TypeId} {o0 o1 o2 o3 o4 o5 o6 o7 : Value} (h : w.heap[B]? = some (.cells #[o0, o1, o2, o3, o4, o5, o6, o7] T (0, 0))) (v : Value) : (w.setCell ⟨B, 3, none⟩ v).heap[B]? = some (.cells #[o0, o1, o2, v, o4, o5, o6, o7] T (0, 0)) := by
  rw [heap_setCell_same w B 3 _ T v h]; rfl
theorem set8_4 {w : World} {B : Nat} {T : TypeId} {o0 o1 o2 o3 o4 o5 o6 o7 : Value} (h : w.heap[B]? = some (.cells #[o0, o1, o2, o3, o4, o5, o6, o7] T (0, 0))) (v : Value) : (w.setCell ⟨B, 4, none⟩ v).heap[B]? = some (.cells #[o0, o1, o2, o3, v, o5, o6, o7] T (0, 0)) := by
  rw [heap_setCell_same w B 4 _ T v h]; rfl
theorem set8_5 {w : World} {B : Nat} {T : TypeId} {o0 o1 o2 o3 o4 o5 o6 o7 : Value} (h : w.heap[B]? = some (.cells #[o0, o1, o2, o3, o4, o5, o6, o7] T (0, 0))) (v : Value) : (w.setCell ⟨B, 5, none⟩ v).heap[B]? = some (.cells #[o0, o1, o2, o3, o4, v, o6, o7] T (0, 0)) := by
  rw [heap_setCell_same w B 5 _ T v h]; rfl
theorem set8_6 {w : World} {B : Nat} {T : TypeId} {o0 o1 o2 o3 o4 o5 o6 o7 : Value} (h : w.heap[B]? = some (.cells #[o0, o1, o2, o3, o4, o5, o6, o7] T (0, 0))) (v : Value) : (w.setCell ⟨B, 6, none⟩ v).heap[B]? = some (.cells #[o0, o1, o2, o3, o4, o5, v, o7] T (0, 0)) := by
  rw [heap_setCell_same w B 6 _ T v h]; rfl
theorem set8_7 {w : World} {B : Nat} {T : TypeId} {o0 o1 o2 o3 o4 o5 o6 o7 : Value} (h : w.heap[B]? = some (.cells #[o0, o1, o2, o3, o4, o5, o6, o7] T (0, 0))) (v : Value) : (w.setCell ⟨B, 7, none⟩ v).heap[B]? = some (.cells #[o0, o1, o2, o3, o4, o5, o6, v] T (0, 0)) := by
  rw [heap_setCell_same w B 7 _ T v h]; rfl
/-- a whole page stored cell by cell -/
theorem set8 {w : World} {B : Nat} {T : TypeId} {o0 o1 o2 o3 o4 o5 o6 o7 : Value} (h : w.heap[B]? = some (.cells #[o0, o1, o2, o3, o4, o5, o6, o7] T (0, 0))) (v0 v1 v2 v3 v4 v5 v6 v7 : Value) :
    (((((((((w.setCell ⟨B, 0, none⟩ v0).setCell ⟨B, 1, none⟩ v1).setCell ⟨B, 2, none⟩ v2).setCell ⟨B, 3, none⟩ v3).setCell ⟨B, 4, none⟩ v4).setCell ⟨B, 5, none⟩ v5).setCell ⟨B, 6, none⟩ v6).setCell ⟨B, 7, none⟩ v7).drew).heap[B]? = some (.cells #[v0, v1, v2, v3, v4, v5, v6, v7] T (0, 0)) ∧
    w.grownBy (((((((((w.setCell ⟨B, 0, none⟩ v0).setCell ⟨B, 1, none⟩ v1).setCell ⟨B, 2, none⟩ v2).setCell ⟨B, 3, none⟩ v3).setCell ⟨B, 4, none⟩ v4).setCell ⟨B, 5, none⟩ v5).setCell ⟨B, 6, none⟩ v6).setCell ⟨B, 7, none⟩ v7).drew) (some B) := by
  have h7 := set8_7 (set8_6 (set8_5 (set8_4 (set8_3 (set8_2 (set8_1 (set8_0 h v0) v1) v2) v3) v4) v5) v6) v7
  have g := grown_trans (grown_trans (grown_trans (grown_trans (grown_trans (grown_trans (grown_trans (grown_set w B 0 v0) (grown_set _ B 1 v1)) (grown_set _ B 2 v2)) (grown_set _ B 3 v3)) (grown_set _ B 4 v4)) (grown_set _ B 5 v5)) (grown_set _ B 6 v6)) (grown_set _ B 7 v7)
  generalize ((((((((w.setCell ⟨B, 0, none⟩ v0).setCell ⟨B, 1, none⟩ v1).setCell ⟨B, 2, none⟩ v2).setCell ⟨B, 3, none⟩ v3).setCell ⟨B, 4, none⟩ v4).setCell ⟨B, 5, none⟩ v5).setCell ⟨B, 6, none⟩ v6).setCell ⟨B, 7, none⟩ v7) = w8 at h7 g ⊢
  exact ⟨h7, ⟨g.os, g.tape, g.output, g.size, g.block⟩⟩

set_option maxHeartbeats 2000000 in
theorem newer_b (A1 A2 : Option Addr) (n1 c1 n2 c2 : Nat) (ys zs : List UInt8) (no : Int) (p q : Gp) (E F : Int) (w : World) (hn1 : n1 ≤ 1000000) (hc1 : n1 ≤ c1) (hn2 : n2 ≤ 1000000) (hc2 : n2 ≤ c2) (ho1 : Oct w A1 n1 ys) (ho2 : Oct w A2 n2 zs) (he : Env w) (h1 : GWay ys no p E) (h2 : GWay zs no q F) (hlt : p.v < q.v) :
    Calls Tryd.prog 12 #[.slice A1 n1 c1, .slice A2 n2 c2, .int .i64 no] w fun e w' => e = .returned (.tuple #[(.agg #[.int .i64 q.no, .int .u64 (q.v : Int), .int .u64 (q.g 0 : Int), .int .u64 (q.g 1 : Int), .int .u64 (q.g 2 : Int), .int .u64 (q.g 3 : Int), .int .u64 (q.g 4 : Int), .int .u64 (q.g 5 : Int)]), .int .i64 1, .bool true]) ∧ Below w.heap.size w w' := by
  have O1 := Lib.hid ho1
  have O2 := Lib.hid ho2
  have HE := Lib.hid he
  have H1 := Lib.hid h1
  have H2 := Lib.hid h2
  clear ho1 ho2 he h1 h2
  go_enter Tryd.func12, Tryd.ntmps12
  go_wp2_with fail
  refine (gget_any _ _ _ ys _ p E _ hn1 hc1 (O1.out.alloc _) (HE.out.alloc _) H1.out).mono ?_; rintro e w1 ⟨rfl, b1⟩
  have Y1 := Lib.hid (kept_below (gp_new w) b1)
  have B1 : Hid (Below w.heap.size w w1) := bthen (balloc _ _) b1
  clear b1
  go_wp2_with fail
  refine (gget_any _ _ _ zs _ q F _ hn2 hc2 ((O2.out.below B1.out).alloc _) ((HE.out.below B1.out).alloc _) H2.out).mono ?_; rintro e w2 ⟨rfl, b2⟩
  have Y2 := Lib.hid (kept_below (kept_below Y1.out (balloc w1 (.cells #[.int .i64 p.no, .int .u64 (p.v : Int), .int .u64 (p.g 0 : Int), .int .u64 (p.g 1 : Int), .int .u64 (p.g 2 : Int), .int .u64 (p.g 3 : Int), .int .u64 (p.g 4 : Int), .int .u64 (p.g 5 : Int)] 25))) b2)
  have X2 := Lib.hid (kept_below (heap_alloc_new w1 (.cells #[.int .i64 p.no, .int .u64 (p.v : Int), .int .u64 (p.g 0 : Int), .int .u64 (p.g 1 : Int), .int .u64 (p.g 2 : Int), .int .u64 (p.g 3 : Int), .int .u64 (p.g 4 : Int), .int .u64 (p.g 5 : Int)] 25)) b2)
  have B2 : Hid (Below w.heap.size w w2) := bthen (bthen B1.out (balloc w1 (.cells #[.int .i64 p.no, .int .u64 (p.v : Int), .int .u64 (p.g 0 : Int), .int .u64 (p.g 1 : Int), .int .u64 (p.g 2 : Int), .int .u64 (p.g 3 : Int), .int .u64 (p.g 4 : Int), .int .u64 (p.g 5 : Int)] 25))) b2
  have hne : w1.heap.size ≠ w2.heap.size := by have := (Array.getElem?_eq_some_iff.1 X2.out).1; omega
  clear b2
  have Y3 := Lib.hid (kept_below Y2.out (balloc w2 (.cells #[.int .i64 q.no, .int .u64 (q.v : Int), .int .u64 (q.g 0 : Int), .int .u64 (q.g 1 : Int), .int .u64 (q.g 2 : Int), .int .u64 (q.g 3 : Int), .int .u64 (q.g 4 : Int), .int .u64 (q.g 5 : Int)] 25)))
  have B3 : Hid (Below w.heap.size w (w2.alloc (.cells #[.int .i64 q.no, .int .u64 (q.v : Int), .int .u64 (q.g 0 : Int), .int .u64 (q.g 1 : Int), .int .u64 (q.g 2 : Int), .int .u64 (q.g 3 : Int), .int .u64 (q.g 4 : Int), .int .u64 (q.g 5 : Int)] 25))) := bthen B2.out (balloc w2 (.cells #[.int .i64 q.no, .int .u64 (q.v : Int), .int .u64 (q.g 0 : Int), .int .u64 (q.g 1 : Int), .int .u64 (q.g 2 : Int), .int .u64 (q.g 3 : Int), .int .u64 (q.g 4 : Int), .int .u64 (q.g 5 : Int)] 25))
  have X3 := Lib.hid (kept_below X2.out (balloc w2 (.cells #[.int .i64 q.no, .int .u64 (q.v : Int), .int .u64 (q.g 0 : Int), .int .u64 (q.g 1 : Int), .int .u64 (q.g 2 : Int), .int .u64 (q.g 3 : Int), .int .u64 (q.g 4 : Int), .int .u64 (q.g 5 : Int)] 25)))
  obtain ⟨x0, x1, x2, x3, x4, x5, x6, x7⟩ := gp_cells X3.out
  go_wp2_with ((with_reducible apply L_storeRow (N := 8) info_gp); exact rfl; exact rfl; exact Y3.out; exact rfl; exact rfl; (simp [Value.oneCell']); intro w4 h4 g4; have H4 := Lib.hid h4; have G4 := Lib.hid g4; clear h4 g4)
  refine bodyPost_ret (results_cell_tmp2_row rfl _ _ _ _ rfl (run_loadVar_row _ _ _ _ _ _ _ H4.out Tryd.underlying25 rfl info_gp)) rfl ?_
  exact ⟨rfl, below_up B3.out G4.out (Nat.le_refl _)⟩

theorem zero_cells {w : World} {B : Nat} {T : TypeId} (h : w.heap[B]? = some (.cells #[.int .i64 0, .int .u64 0, .int .u64 0, .int .u64 0, .int .u64 0, .int .u64 0, .int .u64 0, .int .u64 0] T (0, 0))) : w.cell? ⟨B, 0, none⟩ = some (.int .i64 0) ∧ w.cell? ⟨B, 1, none⟩ = some (.int .u64 0) ∧ w.cell? ⟨B, 2, none⟩ = some (.int .u64 0) ∧ w.cell? ⟨B, 3, none⟩ = some (.int .u64 0) ∧
    w.cell? ⟨B, 4, none⟩ = some (.int .u64 0) ∧ w.cell? ⟨B, 5, none⟩ = some (.int .u64 0) ∧ w.cell? ⟨B, 6, none⟩ = some (.int .u64 0) ∧ w.cell? ⟨B, 7, none⟩ = some (.int .u64 0) := by
  refine ⟨?_, ?_, ?_, ?_, ?_, ?_, ?_, ?_⟩ <;> (rw [cell_of_row _ _ _ _ _ _ h]; rfl)

set_option maxHeartbeats 2000000 in
theorem newer_a (A1 A2 : Option Addr) (n1 c1 n2 c2 : Nat) (ys zs : List UInt8) (no : Int) (p q : Gp) (E F : Int) (w : World) (hn1 : n1 ≤ 1000000) (hc1 : n1 ≤ c1) (hn2 : n2 ≤ 1000000) (hc2 : n2 ≤ c2) (ho1 : Oct w A1 n1 ys) (ho2 : Oct w A2 n2 zs) (he : Env w) (h1 : GWay ys no p E) (h2 : GWay zs no q F) (hle : q.v ≤ p.v) (hp : 1 ≤ p.v) :
    Calls Tryd.prog 12 #[.slice A1 n1 c1, .slice A2 n2 c2, .int .i64 no] w fun e w' => e = .returned (.tuple #[(.agg #[.int .i64 p.no, .int .u64 (p.v : Int), .int .u64 (p.g 0 : Int), .int .u64 (p.g 1 : Int), .int .u64 (p.g 2 : Int), .int .u64 (p.g 3 : Int), .int .u64 (p.g 4 : Int), .int .u64 (p.g 5 : Int)]), .int .i64 0, .bool true]) ∧ Below w.heap.size w w' := by
  have O1 := Lib.hid ho1
  have O2 := Lib.hid ho2
  have HE := Lib.hid he
  have H1 := Lib.hid h1
  have H2 := Lib.hid h2
  have hv0 : ((p.v : Int) == 0) = false := by simp; omega
  clear ho1 ho2 he h1 h2
  go_enter Tryd.func12, Tryd.ntmps12
  go_wp2_with fail
  refine (gget_any _ _ _ ys _ p E _ hn1 hc1 (O1.out.alloc _) (HE.out.alloc _) H1.out).mono ?_; rintro e w1 ⟨rfl, b1⟩
  have Y1 := Lib.hid (kept_below (gp_new w) b1)
  have B1 : Hid (Below w.heap.size w w1) := bthen (balloc _ _) b1
  clear b1
  go_wp2_with fail
  refine (gget_any _ _ _ zs _ q F _ hn2 hc2 ((O2.out.below B1.out).alloc _) ((HE.out.below B1.out).alloc _) H2.out).mono ?_; rintro e w2 ⟨rfl, b2⟩
  have Y2 := Lib.hid (kept_below (kept_below Y1.out (balloc w1 (.cells #[.int .i64 p.no, .int .u64 (p.v : Int), .int .u64 (p.g 0 : Int), .int .u64 (p.g 1 : Int), .int .u64 (p.g 2 : Int), .int .u64 (p.g 3 : Int), .int .u64 (p.g 4 : Int), .int .u64 (p.g 5 : Int)] 25))) b2)
  have X2 := Lib.hid (kept_below (heap_alloc_new w1 (.cells #[.int .i64 p.no, .int .u64 (p.v : Int), .int .u64 (p.g 0 : Int), .int .u64 (p.g 1 : Int), .int .u64 (p.g 2 : Int), .int .u64 (p.g 3 : Int), .int .u64 (p.g 4 : Int), .int .u64 (p.g 5 : Int)] 25)) b2)
  have B2 : Hid (Below w.heap.size w w2) := bthen (bthen B1.out (balloc w1 (.cells #[.int .i64 p.no, .int .u64 (p.v : Int), .int .u64 (p.g 0 : Int), .int .u64 (p.g 1 : Int), .int .u64 (p.g 2 : Int), .int .u64 (p.g 3 : Int), .int .u64 (p.g 4 : Int), .int .u64 (p.g 5 : Int)] 25))) b2
  have hne : w1.heap.size ≠ w2.heap.size := by have := (Array.getElem?_eq_some_iff.1 X2.out).1; omega
  clear b2
  have Y3 := Lib.hid (kept_below Y2.out (balloc w2 (.cells #[.int .i64 q.no, .int .u64 (q.v : Int), .int .u64 (q.g 0 : Int), .int .u64 (q.g 1 : Int), .int .u64 (q.g 2 : Int), .int .u64 (q.g 3 : Int), .int .u64 (q.g 4 : Int), .int .u64 (q.g 5 : Int)] 25)))
  have B3 : Hid (Below w.heap.size w (w2.alloc (.cells #[.int .i64 q.no, .int .u64 (q.v : Int), .int .u64 (q.g 0 : Int), .int .u64 (q.g 1 : Int), .int .u64 (q.g 2 : Int), .int .u64 (q.g 3 : Int), .int .u64 (q.g 4 : Int), .int .u64 (q.g 5 : Int)] 25))) := bthen B2.out (balloc w2 (.cells #[.int .i64 q.no, .int .u64 (q.v : Int), .int .u64 (q.g 0 : Int), .int .u64 (q.g 1 : Int), .int .u64 (q.g 2 : Int), .int .u64 (q.g 3 : Int), .int .u64 (q.g 4 : Int), .int .u64 (q.g 5 : Int)] 25))
  have X3 := Lib.hid (kept_below X2.out (balloc w2 (.cells #[.int .i64 q.no, .int .u64 (q.v : Int), .int .u64 (q.g 0 : Int), .int .u64 (q.g 1 : Int), .int .u64 (q.g 2 : Int), .int .u64 (q.g 3 : Int), .int .u64 (q.g 4 : Int), .int .u64 (q.g 5 : Int)] 25)))
  obtain ⟨x0, x1, x2, x3, x4, x5, x6, x7⟩ := gp_cells X3.out
  have hne2 : w.heap.size ≠ w1.heap.size := by have := B1.out.size; have := (Array.getElem?_eq_some_iff.1 Y1.out).1; omega
  obtain ⟨y0, y1, y2, y3, y4, y5, y6, y7⟩ := zero_cells Y3.out
  have f0 := frozen_of_row _ w.heap.size 0 _ _ Y3.out
  have f1 := frozen_of_row _ w.heap.size 1 _ _ Y3.out
  have f2 := frozen_of_row _ w.heap.size 2 _ _ Y3.out
  have f3 := frozen_of_row _ w.heap.size 3 _ _ Y3.out
  have f4 := frozen_of_row _ w.heap.size 4 _ _ Y3.out
  have f5 := frozen_of_row _ w.heap.size 5 _ _ Y3.out
  have f6 := frozen_of_row _ w.heap.size 6 _ _ Y3.out
  have f7 := frozen_of_row _ w.heap.size 7 _ _ Y3.out
  go_wp2_with fail
  go_region
  all_goals go_wp2
  all_goals (
    refine bodyPost_ret (results_cell_tmp2_row rfl _ _ _ _ rfl (run_loadVar_row _ _ _ _ _ _ _ (set8 Y3.out _ _ _ _ _ _ _ _).1 Tryd.underlying25 rfl info_gp)) rfl ?_
    exact ⟨rfl, below_up B3.out (set8 Y3.out _ _ _ _ _ _ _ _).2 (Nat.le_refl _)⟩)
theorem zp_val : ((.agg #[.int .i64 zp.no, .int .u64 (zp.v : Int), .int .u64 (zp.g 0 : Int), .int .u64 (zp.g 1 : Int), .int .u64 (zp.g 2 : Int), .int .u64 (zp.g 3 : Int), .int .u64 (zp.g 4 : Int), .int .u64 (zp.g 5 : Int)]) : Value) = (.agg #[.int .i64 0, .int .u64 0, .int .u64 0, .int .u64 0, .int .u64 0, .int .u64 0, .int .u64 0, .int .u64 0]) := rfl
set_option maxHeartbeats 2000000 in
theorem newer_no (A1 A2 : Option Addr) (n1 c1 n2 c2 : Nat) (ys zs : List UInt8) (no : Int) (E F : Int) (w : World) (hn1 : n1 ≤ 1000000) (hc1 : n1 ≤ c1) (hn2 : n2 ≤ 1000000) (hc2 : n2 ≤ c2) (ho1 : Oct w A1 n1 ys) (ho2 : Oct w A2 n2 zs) (he : Env w) (h1 : GWay ys no zp E) (h2 : GWay zs no zp F) :
    Calls Tryd.prog 12 #[.slice A1 n1 c1, .slice A2 n2 c2, .int .i64 no] w fun e w' => e = .returned (.tuple #[(.agg #[.int .i64 zp.no, .int .u64 (zp.v : Int), .int .u64 (zp.g 0 : Int), .int .u64 (zp.g 1 : Int), .int .u64 (zp.g 2 : Int), .int .u64 (zp.g 3 : Int), .int .u64 (zp.g 4 : Int), .int .u64 (zp.g 5 : Int)]), .int .i64 0, .bool false]) ∧ Below w.heap.size w w' := by
  have O1 := Lib.hid ho1
  have O2 := Lib.hid ho2
  have HE := Lib.hid he
  have H1 := Lib.hid h1
  have H2 := Lib.hid h2
  clear ho1 ho2 he h1 h2
  go_enter Tryd.func12, Tryd.ntmps12
  go_wp2_with fail
  refine (gget_any _ _ _ ys _ zp E _ hn1 hc1 (O1.out.alloc _) (HE.out.alloc _) H1.out).mono ?_; rintro e w1 ⟨rfl, b1⟩
  rw [zp_val]
  have Y1 := Lib.hid (kept_below (gp_new w) b1)
  have B1 : Hid (Below w.heap.size w w1) := bthen (balloc _ _) b1
  clear b1
  go_wp2_with fail
  refine (gget_any _ _ _ zs _ zp F _ hn2 hc2 ((O2.out.below B1.out).alloc _) ((HE.out.below B1.out).alloc _) H2.out).mono ?_; rintro e w2 ⟨rfl, b2⟩
  rw [zp_val]
  have Y2 := Lib.hid (kept_below (kept_below Y1.out (balloc w1 (.cells #[.int .i64 0, .int .u64 0, .int .u64 0, .int .u64 0, .int .u64 0, .int .u64 0, .int .u64 0, .int .u64 0] 25))) b2)
  have X2 := Lib.hid (kept_below (heap_alloc_new w1 (.cells #[.int .i64 0, .int .u64 0, .int .u64 0, .int .u64 0, .int .u64 0, .int .u64 0, .int .u64 0, .int .u64 0] 25)) b2)
  have B2 : Hid (Below w.heap.size w w2) := bthen (bthen B1.out (balloc w1 (.cells #[.int .i64 0, .int .u64 0, .int .u64 0, .int .u64 0, .int .u64 0, .int .u64 0, .int .u64 0, .int .u64 0] 25))) b2
  have hne : w1.heap.size ≠ w2.heap.size := by have := (Array.getElem?_eq_some_iff.1 X2.out).1; omega
  clear b2
  have Y3 := Lib.hid (kept_below Y2.out (balloc w2 (.cells #[.int .i64 0, .int .u64 0, .int .u64 0, .int .u64 0, .int .u64 0, .int .u64 0, .int .u64 0, .int .u64 0] 25)))
  have B3 : Hid (Below w.heap.size w (w2.alloc (.cells #[.int .i64 0, .int .u64 0, .int .u64 0, .int .u64 0, .int .u64 0, .int .u64 0, .int .u64 0, .int .u64 0] 25))) := bthen B2.out (balloc w2 (.cells #[.int .i64 0, .int .u64 0, .int .u64 0, .int .u64 0, .int .u64 0, .int .u64 0, .int .u64 0, .int .u64 0] 25))
  have X3 := Lib.hid (kept_below X2.out (balloc w2 (.cells #[.int .i64 0, .int .u64 0, .int .u64 0, .int .u64 0, .int .u64 0, .int .u64 0, .int .u64 0, .int .u64 0] 25)))
  obtain ⟨x0, x1, x2, x3, x4, x5, x6, x7⟩ := zero_cells X3.out
  have hne2 : w.heap.size ≠ w1.heap.size := by have := B1.out.size; have := (Array.getElem?_eq_some_iff.1 Y1.out).1; omega
  obtain ⟨y0, y1, y2, y3, y4, y5, y6, y7⟩ := zero_cells Y3.out
  have f0 := frozen_of_row _ w.heap.size 0 _ _ Y3.out
  have f1 := frozen_of_row _ w.heap.size 1 _ _ Y3.out
  have f2 := frozen_of_row _ w.heap.size 2 _ _ Y3.out
  have f3 := frozen_of_row _ w.heap.size 3 _ _ Y3.out
  have f4 := frozen_of_row _ w.heap.size 4 _ _ Y3.out
  have f5 := frozen_of_row _ w.heap.size 5 _ _ Y3.out
  have f6 := frozen_of_row _ w.heap.size 6 _ _ Y3.out
  have f7 := frozen_of_row _ w.heap.size 7 _ _ Y3.out
  go_wp2_with fail
  go_region
  all_goals go_wp2
  all_goals (
    refine bodyPost_ret (results_cell_tmp2_row rfl _ _ _ _ rfl (run_loadVar_row _ _ _ _ _ _ _ (set8 Y3.out _ _ _ _ _ _ _ _).1 Tryd.underlying25 rfl info_gp)) rfl ?_
    exact ⟨rfl, below_up B3.out (set8 Y3.out _ _ _ _ _ _ _ _).2 (Nat.le_refl _)⟩)

theorem newer_any (A1 A2 : Option Addr) (n1 c1 n2 c2 : Nat) (ys zs : List UInt8) (no : Int) (p q : Gp) (E F : Int) (x : Gp) (k : Int) (ok : Bool) (w : World) (hn1 : n1 ≤ 1000000) (hc1 : n1 ≤ c1) (hn2 : n2 ≤ 1000000) (hc2 : n2 ≤ c2) (ho1 : Oct w A1 n1 ys) (ho2 : Oct w A2 n2 zs) (he : Env w) (h1 : GWay ys no p E) (h2 : GWay zs no q F) (hN : NWay p E q F x k ok) :
    Calls Tryd.prog 12 #[.slice A1 n1 c1, .slice A2 n2 c2, .int .i64 no] w fun e w' => e = .returned (.tuple #[(.agg #[.int .i64 x.no, .int .u64 (x.v : Int), .int .u64 (x.g 0 : Int), .int .u64 (x.g 1 : Int), .int .u64 (x.g 2 : Int), .int .u64 (x.g 3 : Int), .int .u64 (x.g 4 : Int), .int .u64 (x.g 5 : Int)]), .int .i64 k, .bool ok]) ∧ Below w.heap.size w w' := by
  rcases hN with ⟨_, _, h3, h4, rfl, rfl, rfl⟩ | ⟨_, _, h3, h4, rfl, rfl, rfl⟩ | ⟨_, _, h3, rfl, rfl, rfl⟩ | ⟨_, _, h3, h4, rfl, rfl, rfl⟩ | ⟨_, _, h3, h4, rfl, rfl, rfl⟩
  · exact newer_a A1 A2 n1 c1 n2 c2 ys zs no x q E F w hn1 hc1 hn2 hc2 ho1 ho2 he h1 h2 (by rw [h3]; exact Nat.zero_le _) h4.1
  · exact newer_a A1 A2 n1 c1 n2 c2 ys zs no x q E F w hn1 hc1 hn2 hc2 ho1 ho2 he h1 h2 h4 h3.1
  · exact newer_b A1 A2 n1 c1 n2 c2 ys zs no p x E F w hn1 hc1 hn2 hc2 ho1 ho2 he h1 h2 h3
  · exact newer_b A1 A2 n1 c1 n2 c2 ys zs no p x E F w hn1 hc1 hn2 hc2 ho1 ho2 he h1 h2 (by rw [h3]; exact h4.1)
  · subst h3 h4
    exact newer_no A1 A2 n1 c1 n2 c2 ys zs no E F w hn1 hc1 hn2 hc2 ho1 ho2 he h1 h2
end Go.Proofs.YthclgehifomkhaaDoor.W

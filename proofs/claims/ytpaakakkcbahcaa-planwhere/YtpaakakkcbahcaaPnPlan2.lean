/-
  Contracts of package plan, more: Leaf, Log, Where; of Check, and of the reference's May. No conditions but bounds of the numbers.
-/
import Derived.Test.YtpaakakkcbahcaaPnPlan
import Derived.BigQuiet
namespace Go.Proofs.Ytpaakakkcbahcaa.W
open Go.RowKit Num
set_option linter.unusedVariables false

/-- what lies in a box still lies there behind a call -/
theorem box_cell {w w' : World} {cs : Array Value} {T : TypeId} (b : Below (w.alloc (.cells cs T)).heap.size (w.alloc (.cells cs T)) w') {j : Nat} {v : Value} (h : cs[j]? = some v) : w'.cell? ⟨w.heap.size, j, none⟩ = some v := by
  have e : w'.heap[w.heap.size]? = some (.cells cs T) := (b.block _ (by simp)).trans (heap_alloc_new w _)
  rw [cell_of_row _ _ _ _ _ _ e]
  exact h

theorem leaf_0 (p : Pl) (n : Int) (w : World) (h0 : 0 < p.a12) (h1 : 0 ≤ n) (h2 : n < p.a5) (h3 : p.a5 ≤ 100000) (h4 : 0 ≤ p.a10) (h5 : p.a10 ≤ 100000) : Calls Try.prog 18 #[(.agg #[.int .i64 p.a0, .int .i64 p.a1, .int .i64 p.a2, .int .i64 p.a3, .int .i64 p.a4, .int .i64 p.a5, .int .i64 p.a6, .int .i64 p.a7, .int .i64 p.a8, .int .i64 p.a9, .int .i64 p.a10, .int .i64 p.a11, .int .i64 p.a12]), .int .i64 0, .int .i64 n] w fun e w' => e = .returned (.tuple #[.int .i64 (p.a10 + n), .bool true]) ∧ Below w.heap.size w w' := by
  go_enter Try.func18, Try.ntmps18
  go_wp2_with fail
  refine (region_yes _ _ _ h0 (by decide) (by decide)).mono ?_; rintro e w' ⟨rfl, b⟩
  have B := Lib.hid (bthen (balloc _ _) b)
  have b5 := box_cell b (j := 5) rfl
  have b10 := box_cell b (j := 10) rfl
  clear b
  go_wp2_with fail
  refine (one_yes _ _ _ h1 h2).mono ?_; rintro e w' ⟨rfl, rfl⟩
  go_wp2
  go_ret2
  exact ⟨rfl, B.out⟩
theorem leaf_1 (p : Pl) (n : Int) (w : World) (h0 : 0 < p.a12) (h1 : 0 ≤ n) (h2 : n < p.a5) (h3 : p.a5 ≤ 100000) (h4 : 0 ≤ p.a11) (h5 : p.a11 ≤ 100000) : Calls Try.prog 18 #[(.agg #[.int .i64 p.a0, .int .i64 p.a1, .int .i64 p.a2, .int .i64 p.a3, .int .i64 p.a4, .int .i64 p.a5, .int .i64 p.a6, .int .i64 p.a7, .int .i64 p.a8, .int .i64 p.a9, .int .i64 p.a10, .int .i64 p.a11, .int .i64 p.a12]), .int .i64 1, .int .i64 n] w fun e w' => e = .returned (.tuple #[.int .i64 (p.a11 + n), .bool true]) ∧ Below w.heap.size w w' := by
  go_enter Try.func18, Try.ntmps18
  go_wp2_with fail
  refine (region_yes _ _ _ h0 (by decide) (by decide)).mono ?_; rintro e w' ⟨rfl, b⟩
  have B := Lib.hid (bthen (balloc _ _) b)
  have b5 := box_cell b (j := 5) rfl
  have b11 := box_cell b (j := 11) rfl
  clear b
  go_wp2_with fail
  refine (one_yes _ _ _ h1 h2).mono ?_; rintro e w' ⟨rfl, rfl⟩
  go_wp2
  go_ret2
  exact ⟨rfl, B.out⟩
theorem leaf_no (p : Pl) (r n : Int) (w : World) (h : ¬ ((0 < p.a12 ∧ 0 ≤ r ∧ r < 2) ∧ 0 ≤ n ∧ n < p.a5)) : Calls Try.prog 18 #[(.agg #[.int .i64 p.a0, .int .i64 p.a1, .int .i64 p.a2, .int .i64 p.a3, .int .i64 p.a4, .int .i64 p.a5, .int .i64 p.a6, .int .i64 p.a7, .int .i64 p.a8, .int .i64 p.a9, .int .i64 p.a10, .int .i64 p.a11, .int .i64 p.a12]), .int .i64 r, .int .i64 n] w fun e w' => e = .returned (.tuple #[.int .i64 0, .bool false]) ∧ Below w.heap.size w w' := by
  by_cases hr : 0 < p.a12 ∧ 0 ≤ r ∧ r < 2
  · have H := Lib.hid (fun x => h ⟨hr, x⟩ : ¬ (0 ≤ n ∧ n < p.a5))
    have HR := Lib.hid hr
    clear h hr
    go_enter Try.func18, Try.ntmps18
    go_wp2_with fail
    refine (region_yes _ _ _ HR.out.1 HR.out.2.1 HR.out.2.2).mono ?_; rintro e w' ⟨rfl, b⟩
    have B := Lib.hid (bthen (balloc _ _) b)
    have b5 := box_cell b (j := 5) rfl
    clear b
    go_wp2_with fail
    refine (one_no _ _ _ H.out).mono ?_; rintro e w' ⟨rfl, rfl⟩
    go_wp2
    go_ret2
    exact ⟨rfl, B.out⟩
  · have HR := Lib.hid hr
    clear h hr
    go_enter Try.func18, Try.ntmps18
    go_wp2_with fail
    refine (region_no _ _ _ HR.out).mono ?_; rintro e w' ⟨rfl, b⟩
    have B := Lib.hid (bthen (balloc _ _) b)
    clear b
    go_wp2
    go_ret2
    exact ⟨rfl, B.out⟩

theorem below_drewN {B : Nat} {a b : World} (h : Below B a b) (n : Nat) : Below B a (b.drewN n) := ⟨h.os, h.tape, h.output, h.size, h.block⟩
theorem log_no (p : Pl) (n : Int) (w : World) (h : p.a7 = 0) : Calls Try.prog 19 #[(.agg #[.int .i64 p.a0, .int .i64 p.a1, .int .i64 p.a2, .int .i64 p.a3, .int .i64 p.a4, .int .i64 p.a5, .int .i64 p.a6, .int .i64 p.a7, .int .i64 p.a8, .int .i64 p.a9, .int .i64 p.a10, .int .i64 p.a11, .int .i64 p.a12]), .int .u64 n] w fun e w' => e = .returned (.tuple #[.int .i64 0, .bool false]) ∧ Below w.heap.size w w' := by
  go_enter Try.func19, Try.ntmps19
  go_wp2
  go_ret2
  exact ⟨rfl, balloc _ _⟩
theorem log_yes (p : Pl) (n : Int) (w : World) (h0 : 0 ≤ n) (hn : n ≤ 18446744073709551615) (h1 : 0 < p.a7) (h2 : p.a7 ≤ 100000) (h3 : 0 ≤ p.a6) (h4 : p.a6 ≤ 100000) : Calls Try.prog 19 #[(.agg #[.int .i64 p.a0, .int .i64 p.a1, .int .i64 p.a2, .int .i64 p.a3, .int .i64 p.a4, .int .i64 p.a5, .int .i64 p.a6, .int .i64 p.a7, .int .i64 p.a8, .int .i64 p.a9, .int .i64 p.a10, .int .i64 p.a11, .int .i64 p.a12]), .int .u64 n] w fun e w' => e = .returned (.tuple #[.int .i64 (p.a6 + n % p.a7), .bool true]) ∧ Below w.heap.size w w' := by
  have h5 : ¬ p.a7 = 0 := by omega
  have m1 := Int.emod_nonneg n (b := p.a7) (by omega)
  have m2 := Int.emod_lt_of_pos n (b := p.a7) (by omega)
  go_enter Try.func19, Try.ntmps19
  go_wp2
  go_quiet (fail)
  go_wp2
  go_ret2
  exact ⟨rfl, below_drewN (balloc _ _) nq⟩

theorem back_no (p : Pl) (n : Int) (w : World) (h : ¬ (0 ≤ n ∧ n < p.a4)) : Calls Try.prog 37 #[(.agg #[.int .i64 p.a0, .int .i64 p.a1, .int .i64 p.a2, .int .i64 p.a3, .int .i64 p.a4, .int .i64 p.a5, .int .i64 p.a6, .int .i64 p.a7, .int .i64 p.a8, .int .i64 p.a9, .int .i64 p.a10, .int .i64 p.a11, .int .i64 p.a12]), .int .i64 n] w fun e w' => e = .returned (.int .i64 0) ∧ Below w.heap.size w w' := by
  have H := Lib.hid h
  clear h
  go_enter Try.func37, Try.ntmps37
  go_wp2_with fail
  refine (one_no _ _ _ H.out).mono ?_; rintro e w' ⟨rfl, rfl⟩
  go_wp2
  go_ret
  exact ⟨rfl, balloc _ _⟩
/-- what stands in a sector of the backing device -/
def kindB (p : Pl) (n : Int) : Int := if n < p.a3 then 1 else 2
theorem back_yes (p : Pl) (n : Int) (w : World) (h1 : 0 ≤ n) (h2 : n < p.a4) : Calls Try.prog 37 #[(.agg #[.int .i64 p.a0, .int .i64 p.a1, .int .i64 p.a2, .int .i64 p.a3, .int .i64 p.a4, .int .i64 p.a5, .int .i64 p.a6, .int .i64 p.a7, .int .i64 p.a8, .int .i64 p.a9, .int .i64 p.a10, .int .i64 p.a11, .int .i64 p.a12]), .int .i64 n] w fun e w' => e = .returned (.int .i64 (kindB p n)) ∧ Below w.heap.size w w' := by
  by_cases c : n < p.a3
  · have H := Lib.hid (show (1 : Int) = kindB p n by unfold kindB; rw [if_pos c])
    go_enter Try.func37, Try.ntmps37
    go_wp2_with fail
    refine (one_yes _ _ _ h1 h2).mono ?_; rintro e w' ⟨rfl, rfl⟩
    go_wp2
    go_ret
    exact ⟨ret_int H.out, balloc _ _⟩
  · have H := Lib.hid (show (2 : Int) = kindB p n by unfold kindB; rw [if_neg c])
    go_enter Try.func37, Try.ntmps37
    go_wp2_with fail
    refine (one_yes _ _ _ h1 h2).mono ?_; rintro e w' ⟨rfl, rfl⟩
    go_wp2
    go_ret
    exact ⟨ret_int H.out, balloc _ _⟩
/-- what stands in a sector of the cache device -/
def kindC (p : Pl) (n : Int) : Int := if n < p.a10 then 3 else if n < p.a6 then 4 else if n < p.a8 then 5 else if (n - p.a8) % 2 = 0 then 6 else 7
theorem cache_no (p : Pl) (n : Int) (w : World) (h : ¬ (0 ≤ n ∧ n < p.a12)) : Calls Try.prog 36 #[(.agg #[.int .i64 p.a0, .int .i64 p.a1, .int .i64 p.a2, .int .i64 p.a3, .int .i64 p.a4, .int .i64 p.a5, .int .i64 p.a6, .int .i64 p.a7, .int .i64 p.a8, .int .i64 p.a9, .int .i64 p.a10, .int .i64 p.a11, .int .i64 p.a12]), .int .i64 n] w fun e w' => e = .returned (.int .i64 0) ∧ Below w.heap.size w w' := by
  have H := Lib.hid h
  clear h
  go_enter Try.func36, Try.ntmps36
  go_wp2_with fail
  refine (one_no _ _ _ H.out).mono ?_; rintro e w' ⟨rfl, rfl⟩
  go_wp2
  go_ret
  exact ⟨rfl, balloc _ _⟩
set_option maxHeartbeats 2000000 in
theorem cache_yes (p : Pl) (n : Int) (w : World) (h1 : 0 ≤ n) (h2 : n < p.a12) (h3 : p.a12 ≤ 100000) (h4 : 0 ≤ p.a8) (h5 : p.a8 ≤ 100000) : Calls Try.prog 36 #[(.agg #[.int .i64 p.a0, .int .i64 p.a1, .int .i64 p.a2, .int .i64 p.a3, .int .i64 p.a4, .int .i64 p.a5, .int .i64 p.a6, .int .i64 p.a7, .int .i64 p.a8, .int .i64 p.a9, .int .i64 p.a10, .int .i64 p.a11, .int .i64 p.a12]), .int .i64 n] w fun e w' => e = .returned (.int .i64 (kindC p n)) ∧ Below w.heap.size w w' := by
  by_cases c1 : n < p.a10
  case pos =>
    have H := Lib.hid (show (3 : Int) = kindC p n by unfold kindC; rw [if_pos c1])
    go_enter Try.func36, Try.ntmps36
    go_wp2_with fail
    refine (one_yes _ _ _ h1 h2).mono ?_; rintro e w' ⟨rfl, rfl⟩
    go_wp2
    go_ret
    exact ⟨ret_int H.out, balloc _ _⟩
  by_cases c2 : n < p.a6
  case pos =>
    have H := Lib.hid (show (4 : Int) = kindC p n by unfold kindC; rw [if_neg c1, if_pos c2])
    go_enter Try.func36, Try.ntmps36
    go_wp2_with fail
    refine (one_yes _ _ _ h1 h2).mono ?_; rintro e w' ⟨rfl, rfl⟩
    go_wp2
    go_ret
    exact ⟨ret_int H.out, balloc _ _⟩
  by_cases c3 : n < p.a8
  case pos =>
    have H := Lib.hid (show (5 : Int) = kindC p n by unfold kindC; rw [if_neg c1, if_neg c2, if_pos c3])
    go_enter Try.func36, Try.ntmps36
    go_wp2_with fail
    refine (one_yes _ _ _ h1 h2).mono ?_; rintro e w' ⟨rfl, rfl⟩
    go_wp2
    go_ret
    exact ⟨ret_int H.out, balloc _ _⟩
  by_cases c4 : (n - p.a8) % 2 = 0
  case pos =>
    have H := Lib.hid (show (6 : Int) = kindC p n by unfold kindC; rw [if_neg c1, if_neg c2, if_neg c3, if_pos c4])
    go_enter Try.func36, Try.ntmps36
    go_wp2_with fail
    refine (one_yes _ _ _ h1 h2).mono ?_; rintro e w' ⟨rfl, rfl⟩
    go_wp2
    go_ret
    exact ⟨ret_int H.out, balloc _ _⟩
  have H := Lib.hid (show (7 : Int) = kindC p n by unfold kindC; rw [if_neg c1, if_neg c2, if_neg c3, if_neg c4])
  go_enter Try.func36, Try.ntmps36
  go_wp2_with fail
  refine (one_yes _ _ _ h1 h2).mono ?_; rintro e w' ⟨rfl, rfl⟩
  go_wp2
  go_ret
  exact ⟨ret_int H.out, balloc _ _⟩
theorem where_f (p : Pl) (n v : Int) (w : World) (h : ∀ w, Calls Try.prog 37 #[(.agg #[.int .i64 p.a0, .int .i64 p.a1, .int .i64 p.a2, .int .i64 p.a3, .int .i64 p.a4, .int .i64 p.a5, .int .i64 p.a6, .int .i64 p.a7, .int .i64 p.a8, .int .i64 p.a9, .int .i64 p.a10, .int .i64 p.a11, .int .i64 p.a12]), .int .i64 n] w fun e w' => e = .returned (.int .i64 v) ∧ Below w.heap.size w w') : Calls Try.prog 27 #[(.agg #[.int .i64 p.a0, .int .i64 p.a1, .int .i64 p.a2, .int .i64 p.a3, .int .i64 p.a4, .int .i64 p.a5, .int .i64 p.a6, .int .i64 p.a7, .int .i64 p.a8, .int .i64 p.a9, .int .i64 p.a10, .int .i64 p.a11, .int .i64 p.a12]), .bool false, .int .i64 n] w fun e w' => e = .returned (.int .i64 v) ∧ Below w.heap.size w w' := by
  have H := Lib.hid h
  clear h
  go_enter Try.func27, Try.ntmps27
  go_wp2_with fail
  refine (H.out _).mono ?_; rintro e w' ⟨rfl, b⟩
  have B := Lib.hid (bthen (balloc _ _) b)
  clear b
  go_wp2
  go_ret
  exact ⟨rfl, B.out⟩
theorem where_t (p : Pl) (n v : Int) (w : World) (h : ∀ w, Calls Try.prog 36 #[(.agg #[.int .i64 p.a0, .int .i64 p.a1, .int .i64 p.a2, .int .i64 p.a3, .int .i64 p.a4, .int .i64 p.a5, .int .i64 p.a6, .int .i64 p.a7, .int .i64 p.a8, .int .i64 p.a9, .int .i64 p.a10, .int .i64 p.a11, .int .i64 p.a12]), .int .i64 n] w fun e w' => e = .returned (.int .i64 v) ∧ Below w.heap.size w w') : Calls Try.prog 27 #[(.agg #[.int .i64 p.a0, .int .i64 p.a1, .int .i64 p.a2, .int .i64 p.a3, .int .i64 p.a4, .int .i64 p.a5, .int .i64 p.a6, .int .i64 p.a7, .int .i64 p.a8, .int .i64 p.a9, .int .i64 p.a10, .int .i64 p.a11, .int .i64 p.a12]), .bool true, .int .i64 n] w fun e w' => e = .returned (.int .i64 v) ∧ Below w.heap.size w w' := by
  have H := Lib.hid h
  clear h
  go_enter Try.func27, Try.ntmps27
  go_wp2_with fail
  refine (H.out _).mono ?_; rintro e w' ⟨rfl, b⟩
  have B := Lib.hid (bthen (balloc _ _) b)
  clear b
  go_wp2
  go_ret
  exact ⟨rfl, B.out⟩
theorem check_no (c : Cf) (w : World) (h : ¬ May c) : Calls Try.prog 9 #[(.agg #[.int .i64 c.c0, .int .i64 c.c1, .int .i64 c.c2, .int .i64 c.c3, .int .i64 c.c4, c.c5, c.c6, c.c7, c.c8, .int .i64 c.c9])] w fun e w' => e = .returned (.int .i64 100) ∧ Below w.heap.size w w' := by
  by_cases d0 : 1 ≤ c.c0 ∧ c.c0 ≤ 512
  case neg =>
    clear h
    have D := Lib.hid d0
    clear d0
    go_enter Try.func9, Try.ntmps9
    go_wp2_with fail
    refine (within_no _ _ _ _ D.out).mono ?_; rintro e w' ⟨rfl, rfl⟩
    go_wp2
    go_ret
    exact ⟨rfl, balloc _ _⟩
  by_cases d1 : 1 ≤ c.c1 ∧ c.c1 ≤ 192
  case neg =>
    clear h
    have D := Lib.hid d1
    clear d1
    obtain ⟨x0, y0⟩ := d0
    go_enter Try.func9, Try.ntmps9
    go_wp2_with fail
    refine (within_yes _ _ _ _ x0 y0).mono ?_; rintro e w' ⟨rfl, rfl⟩
    go_wp2_with fail
    refine (within_no _ _ _ _ D.out).mono ?_; rintro e w' ⟨rfl, rfl⟩
    go_wp2
    go_ret
    exact ⟨rfl, balloc _ _⟩
  by_cases d2 : 1 ≤ c.c2 ∧ c.c2 ≤ 256
  case neg =>
    clear h
    have D := Lib.hid d2
    clear d2
    obtain ⟨x0, y0⟩ := d0
    obtain ⟨x1, y1⟩ := d1
    go_enter Try.func9, Try.ntmps9
    go_wp2_with fail
    refine (within_yes _ _ _ _ x0 y0).mono ?_; rintro e w' ⟨rfl, rfl⟩
    go_wp2_with fail
    refine (within_yes _ _ _ _ x1 y1).mono ?_; rintro e w' ⟨rfl, rfl⟩
    go_wp2_with fail
    refine (within_no _ _ _ _ D.out).mono ?_; rintro e w' ⟨rfl, rfl⟩
    go_wp2
    go_ret
    exact ⟨rfl, balloc _ _⟩
  by_cases d3 : 1 ≤ c.c3 ∧ c.c3 ≤ 4096
  case neg =>
    clear h
    have D := Lib.hid d3
    clear d3
    obtain ⟨x0, y0⟩ := d0
    obtain ⟨x1, y1⟩ := d1
    obtain ⟨x2, y2⟩ := d2
    go_enter Try.func9, Try.ntmps9
    go_wp2_with fail
    refine (within_yes _ _ _ _ x0 y0).mono ?_; rintro e w' ⟨rfl, rfl⟩
    go_wp2_with fail
    refine (within_yes _ _ _ _ x1 y1).mono ?_; rintro e w' ⟨rfl, rfl⟩
    go_wp2_with fail
    refine (within_yes _ _ _ _ x2 y2).mono ?_; rintro e w' ⟨rfl, rfl⟩
    go_wp2_with fail
    refine (within_no _ _ _ _ D.out).mono ?_; rintro e w' ⟨rfl, rfl⟩
    go_wp2
    go_ret
    exact ⟨rfl, balloc _ _⟩
  by_cases d4 : 0 ≤ c.c4 ∧ c.c4 ≤ 1048576
  case neg =>
    clear h
    have D := Lib.hid d4
    clear d4
    obtain ⟨x0, y0⟩ := d0
    obtain ⟨x1, y1⟩ := d1
    obtain ⟨x2, y2⟩ := d2
    obtain ⟨x3, y3⟩ := d3
    go_enter Try.func9, Try.ntmps9
    go_wp2_with fail
    refine (within_yes _ _ _ _ x0 y0).mono ?_; rintro e w' ⟨rfl, rfl⟩
    go_wp2_with fail
    refine (within_yes _ _ _ _ x1 y1).mono ?_; rintro e w' ⟨rfl, rfl⟩
    go_wp2_with fail
    refine (within_yes _ _ _ _ x2 y2).mono ?_; rintro e w' ⟨rfl, rfl⟩
    go_wp2_with fail
    refine (within_yes _ _ _ _ x3 y3).mono ?_; rintro e w' ⟨rfl, rfl⟩
    go_wp2_with fail
    refine (within_no _ _ _ _ D.out).mono ?_; rintro e w' ⟨rfl, rfl⟩
    go_wp2
    go_ret
    exact ⟨rfl, balloc _ _⟩
  by_cases d5 : 0 ≤ c.c9 ∧ c.c9 ≤ 1048576
  case neg =>
    clear h
    have D := Lib.hid d5
    clear d5
    obtain ⟨x0, y0⟩ := d0
    obtain ⟨x1, y1⟩ := d1
    obtain ⟨x2, y2⟩ := d2
    obtain ⟨x3, y3⟩ := d3
    obtain ⟨x4, y4⟩ := d4
    go_enter Try.func9, Try.ntmps9
    go_wp2_with fail
    refine (within_yes _ _ _ _ x0 y0).mono ?_; rintro e w' ⟨rfl, rfl⟩
    go_wp2_with fail
    refine (within_yes _ _ _ _ x1 y1).mono ?_; rintro e w' ⟨rfl, rfl⟩
    go_wp2_with fail
    refine (within_yes _ _ _ _ x2 y2).mono ?_; rintro e w' ⟨rfl, rfl⟩
    go_wp2_with fail
    refine (within_yes _ _ _ _ x3 y3).mono ?_; rintro e w' ⟨rfl, rfl⟩
    go_wp2_with fail
    refine (within_yes _ _ _ _ x4 y4).mono ?_; rintro e w' ⟨rfl, rfl⟩
    go_wp2_with fail
    refine (within_no _ _ _ _ D.out).mono ?_; rintro e w' ⟨rfl, rfl⟩
    go_wp2
    go_ret
    exact ⟨rfl, balloc _ _⟩
  exact absurd ⟨d0, d1, d2, d3, d4, d5⟩ h
theorem check_yes (c : Cf) (w : World) (h : May c) : Calls Try.prog 9 #[(.agg #[.int .i64 c.c0, .int .i64 c.c1, .int .i64 c.c2, .int .i64 c.c3, .int .i64 c.c4, c.c5, c.c6, c.c7, c.c8, .int .i64 c.c9])] w fun e w' => e = .returned (.int .i64 0) ∧ Below w.heap.size w w' := by
  obtain ⟨⟨x0, y0⟩, ⟨x1, y1⟩, ⟨x2, y2⟩, ⟨x3, y3⟩, ⟨x4, y4⟩, ⟨x5, y5⟩⟩ := h
  go_enter Try.func9, Try.ntmps9
  go_wp2_with fail
  refine (within_yes _ _ _ _ x0 y0).mono ?_; rintro e w' ⟨rfl, rfl⟩
  go_wp2_with fail
  refine (within_yes _ _ _ _ x1 y1).mono ?_; rintro e w' ⟨rfl, rfl⟩
  go_wp2_with fail
  refine (within_yes _ _ _ _ x2 y2).mono ?_; rintro e w' ⟨rfl, rfl⟩
  go_wp2_with fail
  refine (within_yes _ _ _ _ x3 y3).mono ?_; rintro e w' ⟨rfl, rfl⟩
  go_wp2_with fail
  refine (within_yes _ _ _ _ x4 y4).mono ?_; rintro e w' ⟨rfl, rfl⟩
  go_wp2_with fail
  refine (within_yes _ _ _ _ x5 y5).mono ?_; rintro e w' ⟨rfl, rfl⟩
  go_wp2
  go_ret
  exact ⟨rfl, balloc _ _⟩
theorem may_no (c : Cf) (w : World) (h : ¬ May c) : Calls Try.prog 8 #[(.agg #[.int .i64 c.c0, .int .i64 c.c1, .int .i64 c.c2, .int .i64 c.c3, .int .i64 c.c4, c.c5, c.c6, c.c7, c.c8, .int .i64 c.c9])] w fun e w' => e = .returned (.bool false) ∧ Below w.heap.size w w' := by
  by_cases d0 : 1 ≤ c.c0 ∧ c.c0 ≤ 512
  case neg =>
    clear h
    have D := Lib.hid d0
    clear d0
    go_enter Try.func8, Try.ntmps8
    go_wp2_with fail
    refine (from_no _ _ _ _ D.out).mono ?_; rintro e w' ⟨rfl, rfl⟩
    go_wp2
    go_ret
    exact ⟨rfl, balloc _ _⟩
  by_cases d1 : 1 ≤ c.c1 ∧ c.c1 ≤ 192
  case neg =>
    clear h
    have D := Lib.hid d1
    clear d1
    obtain ⟨x0, y0⟩ := d0
    go_enter Try.func8, Try.ntmps8
    go_wp2_with fail
    refine (from_yes _ _ _ _ x0 y0).mono ?_; rintro e w' ⟨rfl, rfl⟩
    go_wp2_with fail
    refine (from_no _ _ _ _ D.out).mono ?_; rintro e w' ⟨rfl, rfl⟩
    go_wp2
    go_ret
    exact ⟨rfl, balloc _ _⟩
  by_cases d2 : 1 ≤ c.c2 ∧ c.c2 ≤ 256
  case neg =>
    clear h
    have D := Lib.hid d2
    clear d2
    obtain ⟨x0, y0⟩ := d0
    obtain ⟨x1, y1⟩ := d1
    go_enter Try.func8, Try.ntmps8
    go_wp2_with fail
    refine (from_yes _ _ _ _ x0 y0).mono ?_; rintro e w' ⟨rfl, rfl⟩
    go_wp2_with fail
    refine (from_yes _ _ _ _ x1 y1).mono ?_; rintro e w' ⟨rfl, rfl⟩
    go_wp2_with fail
    refine (from_no _ _ _ _ D.out).mono ?_; rintro e w' ⟨rfl, rfl⟩
    go_wp2
    go_ret
    exact ⟨rfl, balloc _ _⟩
  by_cases d3 : 1 ≤ c.c3 ∧ c.c3 ≤ 4096
  case neg =>
    clear h
    have D := Lib.hid d3
    clear d3
    obtain ⟨x0, y0⟩ := d0
    obtain ⟨x1, y1⟩ := d1
    obtain ⟨x2, y2⟩ := d2
    go_enter Try.func8, Try.ntmps8
    go_wp2_with fail
    refine (from_yes _ _ _ _ x0 y0).mono ?_; rintro e w' ⟨rfl, rfl⟩
    go_wp2_with fail
    refine (from_yes _ _ _ _ x1 y1).mono ?_; rintro e w' ⟨rfl, rfl⟩
    go_wp2_with fail
    refine (from_yes _ _ _ _ x2 y2).mono ?_; rintro e w' ⟨rfl, rfl⟩
    go_wp2_with fail
    refine (from_no _ _ _ _ D.out).mono ?_; rintro e w' ⟨rfl, rfl⟩
    go_wp2
    go_ret
    exact ⟨rfl, balloc _ _⟩
  by_cases d4 : 0 ≤ c.c4 ∧ c.c4 ≤ 1048576
  case neg =>
    clear h
    have D := Lib.hid d4
    clear d4
    obtain ⟨x0, y0⟩ := d0
    obtain ⟨x1, y1⟩ := d1
    obtain ⟨x2, y2⟩ := d2
    obtain ⟨x3, y3⟩ := d3
    go_enter Try.func8, Try.ntmps8
    go_wp2_with fail
    refine (from_yes _ _ _ _ x0 y0).mono ?_; rintro e w' ⟨rfl, rfl⟩
    go_wp2_with fail
    refine (from_yes _ _ _ _ x1 y1).mono ?_; rintro e w' ⟨rfl, rfl⟩
    go_wp2_with fail
    refine (from_yes _ _ _ _ x2 y2).mono ?_; rintro e w' ⟨rfl, rfl⟩
    go_wp2_with fail
    refine (from_yes _ _ _ _ x3 y3).mono ?_; rintro e w' ⟨rfl, rfl⟩
    go_wp2_with fail
    refine (from_no _ _ _ _ D.out).mono ?_; rintro e w' ⟨rfl, rfl⟩
    go_wp2
    go_ret
    exact ⟨rfl, balloc _ _⟩
  by_cases d5 : 0 ≤ c.c9 ∧ c.c9 ≤ 1048576
  case neg =>
    clear h
    have D := Lib.hid d5
    clear d5
    obtain ⟨x0, y0⟩ := d0
    obtain ⟨x1, y1⟩ := d1
    obtain ⟨x2, y2⟩ := d2
    obtain ⟨x3, y3⟩ := d3
    obtain ⟨x4, y4⟩ := d4
    go_enter Try.func8, Try.ntmps8
    go_wp2_with fail
    refine (from_yes _ _ _ _ x0 y0).mono ?_; rintro e w' ⟨rfl, rfl⟩
    go_wp2_with fail
    refine (from_yes _ _ _ _ x1 y1).mono ?_; rintro e w' ⟨rfl, rfl⟩
    go_wp2_with fail
    refine (from_yes _ _ _ _ x2 y2).mono ?_; rintro e w' ⟨rfl, rfl⟩
    go_wp2_with fail
    refine (from_yes _ _ _ _ x3 y3).mono ?_; rintro e w' ⟨rfl, rfl⟩
    go_wp2_with fail
    refine (from_yes _ _ _ _ x4 y4).mono ?_; rintro e w' ⟨rfl, rfl⟩
    go_wp2_with fail
    refine (from_no _ _ _ _ D.out).mono ?_; rintro e w' ⟨rfl, rfl⟩
    go_wp2
    go_ret
    exact ⟨rfl, balloc _ _⟩
  exact absurd ⟨d0, d1, d2, d3, d4, d5⟩ h
theorem may_yes (c : Cf) (w : World) (h : May c) : Calls Try.prog 8 #[(.agg #[.int .i64 c.c0, .int .i64 c.c1, .int .i64 c.c2, .int .i64 c.c3, .int .i64 c.c4, c.c5, c.c6, c.c7, c.c8, .int .i64 c.c9])] w fun e w' => e = .returned (.bool true) ∧ Below w.heap.size w w' := by
  obtain ⟨⟨x0, y0⟩, ⟨x1, y1⟩, ⟨x2, y2⟩, ⟨x3, y3⟩, ⟨x4, y4⟩, ⟨x5, y5⟩⟩ := h
  go_enter Try.func8, Try.ntmps8
  go_wp2_with fail
  refine (from_yes _ _ _ _ x0 y0).mono ?_; rintro e w' ⟨rfl, rfl⟩
  go_wp2_with fail
  refine (from_yes _ _ _ _ x1 y1).mono ?_; rintro e w' ⟨rfl, rfl⟩
  go_wp2_with fail
  refine (from_yes _ _ _ _ x2 y2).mono ?_; rintro e w' ⟨rfl, rfl⟩
  go_wp2_with fail
  refine (from_yes _ _ _ _ x3 y3).mono ?_; rintro e w' ⟨rfl, rfl⟩
  go_wp2_with fail
  refine (from_yes _ _ _ _ x4 y4).mono ?_; rintro e w' ⟨rfl, rfl⟩
  go_wp2_with fail
  refine (from_yes _ _ _ _ x5 y5).mono ?_; rintro e w' ⟨rfl, rfl⟩
  go_wp2
  go_ret
  exact ⟨rfl, balloc _ _⟩
end Go.Proofs.Ytpaakakkcbahcaa.W

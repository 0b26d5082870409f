/-
  The law's own examples ('awake'): true, whatever the world; nothing that was there turns. Bounds of arguments.
-/
import Derived.Test.YtioimgjdjgeepaaMixAll
namespace Go.Proofs.Ytioimgjdjgeepaa.W
open Go.RowKit Mx Rw
set_option linter.unusedVariables false

theorem bounds_u64 {n : Int} (h : (Lit.int .u64 n).wf = true) : 0 ≤ n ∧ n ≤ 18446744073709551615 := by
  have h1 : IntKind.u64.min = 0 := by decide
  have h2 : IntKind.u64.max = 18446744073709551615 := by decide
  simpa [Lit.wf, h1, h2] using h
theorem nat_u64 {n : Int} (h : (Lit.int .u64 n).wf = true) : ∃ x : Nat, n = (x : Int) ∧ x < 18446744073709551616 := by
  obtain ⟨h1, h2⟩ := bounds_u64 h
  exact ⟨n.toNat, by omega, by omega⟩
theorem bounds_i64 {n : Int} (h : (Lit.int .i64 n).wf = true) : -9223372036854775808 ≤ n ∧ n ≤ 9223372036854775807 := by
  have h1 : IntKind.i64.min = -9223372036854775808 := by decide
  have h2 : IntKind.i64.max = 9223372036854775807 := by decide
  simpa [Lit.wf, h1, h2] using h

theorem ex_of (w : World) : Calls Try.prog 6 #[.int .u64 0, .int .u64 0] w fun e w' => e = .returned (.int .u64 0) ∧ w = w' := of_any 0 0 0 w (by decide +kernel)
theorem ex_one (x : Nat) (w : World) (h : of 0 1 = x) : Calls Try.prog 6 #[.int .u64 0, .int .u64 1] w fun e w' => e = .returned (.int .u64 (x : Int)) ∧ w = w' := of_any 0 1 x w h
theorem ex_rone (x : Nat) (w : World) (h : of 0 1 = x) : Calls Try.prog 7 #[.int .u64 0, .int .u64 1] w fun e w' => e = .returned (.int .u64 (x : Int)) ∧ w = w' := rof_any 0 1 x w h
theorem ex_rof (x : Nat) (w : World) (h : of 7 99 = x) : Calls Try.prog 7 #[.int .u64 7, .int .u64 99] w fun e w' => e = .returned (.int .u64 (x : Int)) ∧ w = w' := rof_any 7 99 x w h
theorem ex_back (x : Nat) (w : World) (h : of 7 99 = x) : Calls Try.prog 9 #[.int .u64 7, .int .u64 (x : Int)] w fun e w' => e = .returned (.int .u64 99) ∧ Below w.heap.size w w' :=
  back_any 7 x 99 w (by rw [← h]; exact of_lt 7 99) (by rw [← h]; exact back_of (by decide))
theorem ex_all (w : World) : Calls Try.prog 13 #[.int .u64 1, .int .u64 2, .int .i64 3, .int .i64 4] w (MadeV w (picks 1 2 4 3)) := all_any 1 2 3 4 3 w (by decide) (by decide)

set_option maxHeartbeats 1000000 in
theorem awake_any (w : World) : Calls Try.prog 8 #[] w fun e w' => e = .returned (.bool true) ∧ Below w.heap.size w w' := by
  obtain ⟨x, hx⟩ : ∃ x, of 0 1 = x := ⟨_, rfl⟩
  obtain ⟨y, hy⟩ : ∃ y, of 7 99 = y := ⟨_, rfl⟩
  have HX := Lib.hid hx
  have HY := Lib.hid hy
  clear hx hy
  go_enter Try.func8, Try.ntmps8
  go_wp2_with fail
  refine (ex_of _).mono ?_; rintro e w' ⟨rfl, rfl⟩
  go_wp2_with fail
  refine (ex_one x _ HX.out).mono ?_; rintro e w' ⟨rfl, rfl⟩
  go_wp2_with fail
  refine (ex_rone x _ HX.out).mono ?_; rintro e w' ⟨rfl, rfl⟩
  go_wp2_with fail
  refine (ex_rof y _ HY.out).mono ?_; rintro e w' ⟨rfl, rfl⟩
  go_wp2_with fail
  refine (ex_back y _ HY.out).mono ?_; rintro e w1 ⟨rfl, b1⟩
  have B1 := Lib.hid b1
  clear b1
  go_wp2_with fail
  refine (ex_all _).mono ?_; rintro e w2 ⟨v, rfl, o2, b2⟩
  obtain ⟨A, c, rfl, _, _, _⟩ := o2.form (picks_len _ _ _ _)
  have B2 := Lib.hid b2
  clear b2 o2
  go_wp2
  go_ret
  exact ⟨rfl, B1.out.trans (B2.out.mono B1.out.size)⟩
end Go.Proofs.Ytioimgjdjgeepaa.W

/-
  The law's own examples ('awake'): true, whatever the world; nothing that was there turns.
-/
import Derived.Test.YtmfljibmnplkiaaDoorCountMore
import Derived.Below
namespace Go.Proofs.YtmfljibmnplkiaaDoor.W
open Go.RowKit Num

theorem ex_add (w : World) : Calls Tryd.prog 13 #[.int .i64 9223372036854775807, .int .i64 1] w fun e w' => e = .returned (.int .i64 9223372036854775807) ∧ w = w' := by
  have h := add_any 9223372036854775807 1 w (by omega) (by omega) (by omega) (by omega)
  rwa [sat_hi _ (by omega)] at h
theorem ex_up (w : World) : Calls Tryd.prog 14 #[.int .i64 9, .int .i64 8] w fun e w' => e = .returned (.int .i64 2) ∧ w = w' := by
  have h := up_any 9 8 w (by omega) (by omega) (by omega)
  rwa [show upN 9 8 = 2 by decide] at h
theorem ex_rest (w : World) : Calls Tryd.prog 15 #[.int .i64 (-1), .int .i64 8] w fun e w' => e = .returned (.int .i64 7) ∧ w = w' := by
  have h := rest_any (-1) 8 w (by omega) (by omega) (by omega)
  rwa [show restN (-1) 8 = 7 by decide] at h
theorem ex_clamp (w : World) : Calls Tryd.prog 16 #[.int .i64 5, .int .i64 1, .int .i64 3] w fun e w' => e = .returned (.int .i64 3) ∧ w = w' := by
  have h := clamp_any 5 1 3 w
  rwa [show clampI 5 1 3 = 3 by decide] at h
theorem ex_mul (w : World) : Calls Tryd.prog 17 #[.int .i64 3, .int .i64 4] w fun e w' => e = .returned (.int .i64 12) ∧ w = w' := by
  have h := mul_any 3 4 w (by omega) (by omega) (by omega) (by omega)
  rwa [sat_in _ (by omega) (by omega)] at h
theorem ex_sum (b cap : Nat) (w : World) (c0 : w.cell? ⟨b, 0, none⟩ = some (.int .i64 1)) (c1 : w.cell? ⟨b, 1, none⟩ = some (.int .i64 2)) :
    Calls Tryd.prog 18 #[.slice (some ⟨b, 0, none⟩) 2 cap] w fun e w' => e = .returned (.int .i64 3) ∧ w = w' := by
  have h := sum_any (some ⟨b, 0, none⟩) 2 cap [1, 2] w (by omega)
    (by
      intro i hi
      match i, hi with
      | 0, _ => exact ⟨b, 0, rfl, c0⟩
      | 1, _ => exact ⟨b, 0, rfl, c1⟩)
    (by
      intro i
      match i with
      | 0 => decide
      | 1 => decide
      | k + 2 => exact ⟨by show _ ≤ (0 : Int); omega, by show (0 : Int) ≤ _; omega⟩)
  rwa [show sumTo [1, 2] 2 = 3 by decide] at h

set_option maxHeartbeats 1000000 in
theorem awake_any (w : World) : Calls Tryd.prog 8 #[] w fun e w' => e = .returned (.bool true) ∧ Below w.heap.size w w' := by
  go_enter Tryd.func8, Tryd.ntmps8
  go_wp2_with fail
  refine (ex_add _).mono ?_; rintro e w' ⟨rfl, rfl⟩
  go_wp2_with fail
  refine (ex_up _).mono ?_; rintro e w' ⟨rfl, rfl⟩
  go_wp2_with fail
  refine (ex_rest _).mono ?_; rintro e w' ⟨rfl, rfl⟩
  go_wp2_with fail
  refine (ex_clamp _).mono ?_; rintro e w' ⟨rfl, rfl⟩
  go_wp2_with fail
  refine (ex_mul _).mono ?_; rintro e w' ⟨rfl, rfl⟩
  go_wp2_with fail
  refine (ex_sum _ _ _ ?_ ?_).mono ?_
  · simp [go_sem]
  · simp [go_sem]
  rintro e w' ⟨rfl, rfl⟩
  go_wp2
  go_ret
  exact ⟨rfl, (Below.refl _ _).alloc (Nat.le_refl _) _⟩
end Go.Proofs.YtmfljibmnplkiaaDoor.W

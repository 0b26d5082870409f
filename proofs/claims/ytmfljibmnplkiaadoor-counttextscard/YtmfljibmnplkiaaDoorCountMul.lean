/-
  The contract of count.Mul: the product, ending at the bounds.
-/
import Derived.Test.YtmfljibmnplkiaaDoorCountWalks
namespace Go.Proofs.YtmfljibmnplkiaaDoor.W
open Go.RowKit Num

theorem below_eq {a b : Int} (ha : a ≠ 0) (hb : b ≠ 0) : (decide (a < 0) != decide (b < 0)) = decide (a * b < 0) := by
  have h := mul_lt_zero ha hb
  by_cases h1 : a < 0 <;> by_cases h2 : b < 0 <;> simp [h1, h2] at h <;> simp [h1, h2] <;> omega

set_option maxHeartbeats 400000 in
theorem mul_any (a b : Int) (w : World) (ha1 : -9223372036854775808 ≤ a) (ha2 : a ≤ 9223372036854775807) (hb1 : -9223372036854775808 ≤ b) (hb2 : b ≤ 9223372036854775807) :
    Calls Tryd.prog 17 #[.int .i64 a, .int .i64 b] w fun e w' => e = .returned (.int .i64 (sat (a * b))) ∧ w = w' := by
  by_cases a0 : (a == 0) = true
  · have H := Lib.hid (show sat (a * b) = 0 by have : a = 0 := by simpa using a0
                                               rw [this, Int.zero_mul, sat_in _ (by omega) (by omega)])
    go_enter Tryd.func17, Tryd.ntmps17
    go_wp2
    go_ret
    exact ⟨ret_int (by rw [H.out]), rfl⟩
  · have a0' : (a == 0) = false := by simpa using a0
    have a1 : a ≠ 0 := by simpa using a0
    clear a0
    by_cases b0 : (b == 0) = true
    · have H := Lib.hid (show sat (a * b) = 0 by have : b = 0 := by simpa using b0
                                                 rw [this, Int.mul_zero, sat_in _ (by omega) (by omega)])
      go_enter Tryd.func17, Tryd.ntmps17
      go_wp2
      go_ret
      exact ⟨ret_int (by rw [H.out]), rfl⟩
    · have b0' : (b == 0) = false := by simpa using b0
      have b1 : b ≠ 0 := by simpa using b0
      clear b0
      have B := below_eq a1 b1
      have Sg : ∀ x y : Bool, decide (a < 0) = x → decide (b < 0) = y → decide (a * b < 0) = (x != y) := by
        intro x y h1 h2; rw [← B, h1, h2]
      clear B
      have Z := mul_ne_zero a1 b1
      by_cases c : -9223372036854775808 ≤ a * b ∧ a * b ≤ 9223372036854775807
      · obtain ⟨c1, c2⟩ := c
        have H := Lib.hid (sat_in _ c1 c2)
        by_cases sa : a < 0 <;> by_cases sb : b < 0
        · have da : decide (a < 0) = true := by simpa using sa
          have db : decide (b < 0) = true := by simpa using sb
          have dm : decide (a * b < 0) = false := Sg _ _ da db
          clear Sg Z
          go_enter Tryd.func17, Tryd.ntmps17
          go_wp2
          go_ret
          exact ⟨ret_int (by rw [H.out]), rfl⟩
        · have da : decide (a < 0) = true := by simpa using sa
          have db : decide (b < 0) = false := by simpa using sb
          have dm : decide (a * b < 0) = true := Sg _ _ da db
          clear Sg Z
          go_enter Tryd.func17, Tryd.ntmps17
          go_wp2
          go_ret
          exact ⟨ret_int (by rw [H.out]), rfl⟩
        · have da : decide (a < 0) = false := by simpa using sa
          have db : decide (b < 0) = true := by simpa using sb
          have dm : decide (a * b < 0) = true := Sg _ _ da db
          clear Sg Z
          go_enter Tryd.func17, Tryd.ntmps17
          go_wp2
          go_ret
          exact ⟨ret_int (by rw [H.out]), rfl⟩
        · have da : decide (a < 0) = false := by simpa using sa
          have db : decide (b < 0) = false := by simpa using sb
          have dm : decide (a * b < 0) = false := Sg _ _ da db
          clear Sg Z
          go_enter Tryd.func17, Tryd.ntmps17
          go_wp2
          go_ret
          exact ⟨ret_int (by rw [H.out]), rfl⟩
      · have Q : wrap64 ((wrap64 (a * b)).tdiv b) = a → (a = -9223372036854775808 ∧ b = -1) := by
          intro hq
          have hnq : wrap64 (a * b) ≠ a * b := fun h => c (by unfold wrap64 at h; omega)
          by_cases hb : b = -1
          · subst hb
            refine ⟨?_, rfl⟩
            unfold wrap64 at hnq
            omega
          · exfalso
            have hw : -9223372036854775808 ≤ wrap64 (a * b) ∧ wrap64 (a * b) ≤ 9223372036854775807 := by unfold wrap64; omega
            have hd := tdiv_bd (wrap64 (a * b)) b hw.1 hw.2 b1 hb
            rw [IntWalk.wrap64_in _ hd] at hq
            exact hnq (mul_quot a b _ _ b1 hb1 hb2 rfl rfl hq)
        by_cases sa : a < 0 <;> by_cases sb : b < 0
        · have da : decide (a < 0) = true := by simpa using sa
          have db : decide (b < 0) = true := by simpa using sb
          have dm : decide (a * b < 0) = false := Sg _ _ da db
          have H := Lib.hid (show sat (a * b) = 9223372036854775807 from sat_hi _ (by simp at dm; omega))
          by_cases hb : b = -1 ∧ a = -9223372036854775808
          · obtain ⟨rfl, rfl⟩ := hb
            clear c Sg Z Q dm
            have t1 : decide (wrap64 9223372036854775808 < 0) = true := by decide +kernel
            have t2 : (wrap64 (-wrap64 9223372036854775808) == -9223372036854775808) = true := by decide +kernel
            go_enter Tryd.func17, Tryd.ntmps17
            go_wp2
            go_ret
            exact ⟨ret_int (by rw [H.out]), rfl⟩
          · have T : (wrap64 ((wrap64 (a * b)).tdiv b) == a) = false := by
              rw [beq_eq_false_iff_ne]; intro h; have := Q h; omega
            clear c Sg Z Q dm hb
            go_enter Tryd.func17, Tryd.ntmps17
            go_wp2
            go_ret
            exact ⟨ret_int (by rw [H.out]), rfl⟩
        · have da : decide (a < 0) = true := by simpa using sa
          have db : decide (b < 0) = false := by simpa using sb
          have dm : decide (a * b < 0) = true := Sg _ _ da db
          have H := Lib.hid (show sat (a * b) = -9223372036854775808 from sat_lo _ (by simp at dm; omega))
          have T : (wrap64 ((wrap64 (a * b)).tdiv b) == a) = false := by
            rw [beq_eq_false_iff_ne]; intro h; have := Q h; omega
          clear c Sg Z Q dm
          go_enter Tryd.func17, Tryd.ntmps17
          go_wp2
          go_ret
          exact ⟨ret_int (by rw [H.out]), rfl⟩
        · have da : decide (a < 0) = false := by simpa using sa
          have db : decide (b < 0) = true := by simpa using sb
          have dm : decide (a * b < 0) = true := Sg _ _ da db
          have H := Lib.hid (show sat (a * b) = -9223372036854775808 from sat_lo _ (by simp at dm; omega))
          have T : (wrap64 ((wrap64 (a * b)).tdiv b) == a) = false := by
            rw [beq_eq_false_iff_ne]; intro h; have := Q h; omega
          clear c Sg Z Q dm
          go_enter Tryd.func17, Tryd.ntmps17
          go_wp2
          go_ret
          exact ⟨ret_int (by rw [H.out]), rfl⟩
        · have da : decide (a < 0) = false := by simpa using sa
          have db : decide (b < 0) = false := by simpa using sb
          have dm : decide (a * b < 0) = false := Sg _ _ da db
          have H := Lib.hid (show sat (a * b) = 9223372036854775807 from sat_hi _ (by simp at dm; omega))
          have T : (wrap64 ((wrap64 (a * b)).tdiv b) == a) = false := by
            rw [beq_eq_false_iff_ne]; intro h; have := Q h; omega
          clear c Sg Z Q dm
          go_enter Tryd.func17, Tryd.ntmps17
          go_wp2
          go_ret
          exact ⟨ret_int (by rw [H.out]), rfl⟩
end Go.Proofs.YtmfljibmnplkiaaDoor.W

/-
  Contracts of package count's and of the reference's functions: what each call returns, and that nothing turns.
-/
import Derived.Test.YtmfljibmnplkiaaDoorCountNum
import Derived.Test.YtmfljibmnplkiaaDoorChecked
import Derived.WalkKit
import Derived.WalkLawsBesides
import Derived.Lib.Hide
namespace Go.Proofs.YtmfljibmnplkiaaDoor.W
open Go.RowKit Num

theorem ret_int {k : IntKind} {a b : Int} (h : a = b) : Ending.returned (.int k a) = .returned (.int k b) := by rw [h]

set_option maxHeartbeats 400000 in
theorem clamp_any (n lo hi : Int) (w : World) :
    Calls Tryd.prog 16 #[.int .i64 n, .int .i64 lo, .int .i64 hi] w fun e w' => e = .returned (.int .i64 (clampI n lo hi)) ∧ w = w' := by
  by_cases h1 : n < lo
  · have H := Lib.hid (clampI_lo (hi := hi) h1)
    go_enter Tryd.func16, Tryd.ntmps16
    go_wp2
    go_ret
    exact ⟨ret_int (by rw [H.out]), rfl⟩
  · by_cases h2 : hi < n
    · have H := Lib.hid (clampI_hi h1 h2)
      go_enter Tryd.func16, Tryd.ntmps16
      go_wp2
      go_ret
      exact ⟨ret_int (by rw [H.out]), rfl⟩
    · have H := Lib.hid (clampI_in h1 h2)
      go_enter Tryd.func16, Tryd.ntmps16
      go_wp2
      go_ret
      exact ⟨ret_int (by rw [H.out]), rfl⟩

set_option maxHeartbeats 400000 in
theorem add_any (a b : Int) (w : World) (ha1 : -9223372036854775808 ≤ a) (ha2 : a ≤ 9223372036854775807) (hb1 : -9223372036854775808 ≤ b) (hb2 : b ≤ 9223372036854775807) :
    Calls Tryd.prog 13 #[.int .i64 a, .int .i64 b] w fun e w' => e = .returned (.int .i64 (sat (a + b))) ∧ w = w' := by
  by_cases h1 : 9223372036854775807 < a + b
  · have e1 : wrap64 (a + b) < a := by unfold wrap64; omega
    have e2 : 0 < b := by omega
    have H := Lib.hid (sat_hi _ h1)
    go_enter Tryd.func13, Tryd.ntmps13
    go_wp2
    go_ret
    exact ⟨ret_int (by rw [H.out]), rfl⟩
  · by_cases h2 : a + b < -9223372036854775808
    · have e1 : a < wrap64 (a + b) := by unfold wrap64; omega
      have e2 : b < 0 := by omega
      have H := Lib.hid (sat_lo _ h2)
      go_enter Tryd.func13, Tryd.ntmps13
      go_wp2
      go_ret
      exact ⟨ret_int (by rw [H.out]), rfl⟩
    · have H := Lib.hid (sat_in (a + b) (by omega) (by omega))
      by_cases h3 : 0 < b
      · go_enter Tryd.func13, Tryd.ntmps13
        go_wp2
        go_ret
        exact ⟨ret_int (by rw [H.out]), rfl⟩
      · by_cases h4 : b < 0
        · go_enter Tryd.func13, Tryd.ntmps13
          go_wp2
          go_ret
          exact ⟨ret_int (by rw [H.out]), rfl⟩
        · go_enter Tryd.func13, Tryd.ntmps13
          go_wp2
          go_ret
          exact ⟨ret_int (by rw [H.out]), rfl⟩

set_option maxHeartbeats 400000 in
theorem rsize_any (n : Int) (w : World) (h1 : -9223372036854775808 ≤ n) (h2 : n ≤ 9223372036854775807) :
    Calls Tryd.prog 22 #[.int .i64 n] w fun e w' => e = .returned (.int .u64 (siz n)) ∧ w = w' := by
  by_cases h : n < 0
  · have H := Lib.hid (siz_neg h)
    go_enter Tryd.func22, Tryd.ntmps22
    go_wp2
    go_ret
    exact ⟨ret_int (by rw [H.out]; clear H; simp [IntKind.wrap, IntKind.bits, IntKind.signed]; omega), rfl⟩
  · have H := Lib.hid (siz_pos h)
    go_enter Tryd.func22, Tryd.ntmps22
    go_wp2
    go_ret
    exact ⟨ret_int (by rw [H.out]), rfl⟩


set_option maxHeartbeats 400000 in
theorem rsigned_any (high low : Int) (minus : Bool) (w : World) (h1 : 0 ≤ high) (h2 : 0 ≤ low) (h3 : low ≤ 18446744073709551615) :
    Calls Tryd.prog 23 #[.int .u64 high, .int .u64 low, .bool minus] w fun e w' => e = .returned (.int .i64 (sgn high low minus)) ∧ w = w' := by
  cases minus
  · by_cases c : 0 < high ∨ 9223372036854775807 < low
    · have H : Hid (sgn high low false = 9223372036854775807) := by
        show sgn high low false = 9223372036854775807
        unfold sgn; rw [if_neg (by simp)]; exact sat_hi _ (by omega)
      by_cases c1 : 0 < high
      · go_enter Tryd.func23, Tryd.ntmps23
        go_wp2
        go_ret
        exact ⟨ret_int (by rw [H.out]), rfl⟩
      · have c2 : 9223372036854775807 < low := by omega
        go_enter Tryd.func23, Tryd.ntmps23
        go_wp2
        go_ret
        exact ⟨ret_int (by rw [H.out]), rfl⟩
    · have c1 : ¬ 0 < high := by omega
      have c2 : ¬ 9223372036854775807 < low := by omega
      have H : Hid (sgn high low false = low) := by
        show sgn high low false = low
        unfold sgn; rw [if_neg (by simp), sat_in _ (by omega) (by omega)]; omega
      clear c
      go_enter Tryd.func23, Tryd.ntmps23
      go_wp2
      go_ret
      exact ⟨ret_int (by rw [H.out]), rfl⟩
  · by_cases c : 0 < high ∨ 9223372036854775808 < low
    · have H : Hid (sgn high low true = -9223372036854775808) := by
        show sgn high low true = -9223372036854775808
        unfold sgn; rw [if_pos (by simp)]; exact sat_lo _ (by omega)
      by_cases c1 : 0 < high
      · go_enter Tryd.func23, Tryd.ntmps23
        go_wp2
        go_ret
        exact ⟨ret_int (by rw [H.out]), rfl⟩
      · have c2 : 9223372036854775808 < low := by omega
        go_enter Tryd.func23, Tryd.ntmps23
        go_wp2
        go_ret
        exact ⟨ret_int (by rw [H.out]), rfl⟩
    · have c1 : ¬ 0 < high := by omega
      have c2 : ¬ 9223372036854775808 < low := by omega
      have H : Hid (sgn high low true = -low) := by
        show sgn high low true = -low
        unfold sgn; rw [if_pos (by simp), sat_in _ (by omega) (by omega)]; omega
      clear c
      go_enter Tryd.func23, Tryd.ntmps23
      go_wp2
      go_ret
      exact ⟨ret_int (by rw [H.out]; clear H; simp only [IntKind.wrap, IntKind.bits, IntKind.signed, wrap64]; simp; omega), rfl⟩


set_option maxHeartbeats 1000000 in
theorem radd_any (a b : Int) (w : World) (ha1 : -9223372036854775808 ≤ a) (ha2 : a ≤ 9223372036854775807) (hb1 : -9223372036854775808 ≤ b) (hb2 : b ≤ 9223372036854775807) :
    Calls Tryd.prog 11 #[.int .i64 a, .int .i64 b] w fun e w' => e = .returned (.int .i64 (sat (a + b))) ∧ w = w' := by
  have xa := siz_bd ha1 ha2
  have xb := siz_bd hb1 hb2
  have key : ∀ (high low : Int) (minus : Bool), 0 ≤ high → 0 ≤ low → low ≤ 18446744073709551615 → sgn high low minus = sat (a + b) →
      ∀ w, Calls Tryd.prog 23 #[.int .u64 high, .int .u64 low, .bool minus] w fun e w' => e = .returned (.int .i64 (sat (a + b))) ∧ w = w' := by
    intro high low minus h1 h2 h3 h4 w
    rw [← h4]; exact rsigned_any high low minus w h1 h2 h3
  have K := Lib.hid key
  clear key
  by_cases sa : a < 0
  · by_cases sb : b < 0
    · have da : decide (a < 0) = true := by simpa using sa
      have db : decide (b < 0) = true := by simpa using sb
      have ya := siz_neg sa
      have yb := siz_neg sb
      by_cases c : siz a + siz b ≤ 18446744073709551615
      · have H1 := Lib.hid (show sgn 0 (siz a + siz b) true = sat (a + b) by rw [sgn_t]; exact sat_congr (by omega))
        have c' : ¬ (siz a + siz b < siz a) := by omega
        clear ya yb
        go_enter Tryd.func11, Tryd.ntmps11
        go_wp2_with fail
        refine (rsize_any _ _ ha1 ha2).mono ?_; rintro e w' ⟨rfl, rfl⟩
        go_wp2_with fail
        refine (rsize_any _ _ hb1 hb2).mono ?_; rintro e w' ⟨rfl, rfl⟩
        go_wp2_with fail
        refine (K.out _ _ _ (by omega) (by omega) (by omega) H1.out _).mono ?_; rintro e w' ⟨rfl, rfl⟩
        go_wp2
        go_ret
        exact ⟨rfl, rfl⟩
      · have H1 := Lib.hid (show sgn 1 (IntKind.u64.wrap (siz a + siz b)) true = sat (a + b) by
          rw [sgn_t]; exact sat_congr (by simp only [IntKind.wrap, IntKind.bits, IntKind.signed]; simp; omega))
        have c' : IntKind.u64.wrap (siz a + siz b) < siz a := by simp only [IntKind.wrap, IntKind.bits, IntKind.signed]; simp; omega
        have c1 : 0 ≤ IntKind.u64.wrap (siz a + siz b) := by simp only [IntKind.wrap, IntKind.bits, IntKind.signed]; simp; omega
        clear ya yb
        go_enter Tryd.func11, Tryd.ntmps11
        go_wp2_with fail
        refine (rsize_any _ _ ha1 ha2).mono ?_; rintro e w' ⟨rfl, rfl⟩
        go_wp2_with fail
        refine (rsize_any _ _ hb1 hb2).mono ?_; rintro e w' ⟨rfl, rfl⟩
        go_wp2_with fail
        refine (K.out _ _ _ (by omega) (by omega) (by omega) H1.out _).mono ?_; rintro e w' ⟨rfl, rfl⟩
        go_wp2
        go_ret
        exact ⟨rfl, rfl⟩
    · have da : decide (a < 0) = true := by simpa using sa
      have db : decide (b < 0) = false := by simpa using sb
      have ya := siz_neg sa
      have yb := siz_pos sb
      by_cases c : siz b ≤ siz a
      · have H1 := Lib.hid (show sgn 0 (siz a - siz b) true = sat (a + b) by rw [sgn_t]; exact sat_congr (by omega))
        clear ya yb
        go_enter Tryd.func11, Tryd.ntmps11
        go_wp2_with fail
        refine (rsize_any _ _ ha1 ha2).mono ?_; rintro e w' ⟨rfl, rfl⟩
        go_wp2_with fail
        refine (rsize_any _ _ hb1 hb2).mono ?_; rintro e w' ⟨rfl, rfl⟩
        go_wp2_with fail
        refine (K.out _ _ _ (by omega) (by omega) (by omega) H1.out _).mono ?_; rintro e w' ⟨rfl, rfl⟩
        go_wp2
        go_ret
        exact ⟨rfl, rfl⟩
      · have H1 := Lib.hid (show sgn 0 (siz b - siz a) false = sat (a + b) by rw [sgn_f]; exact sat_congr (by omega))
        clear ya yb
        go_enter Tryd.func11, Tryd.ntmps11
        go_wp2_with fail
        refine (rsize_any _ _ ha1 ha2).mono ?_; rintro e w' ⟨rfl, rfl⟩
        go_wp2_with fail
        refine (rsize_any _ _ hb1 hb2).mono ?_; rintro e w' ⟨rfl, rfl⟩
        go_wp2_with fail
        refine (K.out _ _ _ (by omega) (by omega) (by omega) H1.out _).mono ?_; rintro e w' ⟨rfl, rfl⟩
        go_wp2
        go_ret
        exact ⟨rfl, rfl⟩
  · by_cases sb : b < 0
    · have da : decide (a < 0) = false := by simpa using sa
      have db : decide (b < 0) = true := by simpa using sb
      have ya := siz_pos sa
      have yb := siz_neg sb
      by_cases c : siz b ≤ siz a
      · have H1 := Lib.hid (show sgn 0 (siz a - siz b) false = sat (a + b) by rw [sgn_f]; exact sat_congr (by omega))
        clear ya yb
        go_enter Tryd.func11, Tryd.ntmps11
        go_wp2_with fail
        refine (rsize_any _ _ ha1 ha2).mono ?_; rintro e w' ⟨rfl, rfl⟩
        go_wp2_with fail
        refine (rsize_any _ _ hb1 hb2).mono ?_; rintro e w' ⟨rfl, rfl⟩
        go_wp2_with fail
        refine (K.out _ _ _ (by omega) (by omega) (by omega) H1.out _).mono ?_; rintro e w' ⟨rfl, rfl⟩
        go_wp2
        go_ret
        exact ⟨rfl, rfl⟩
      · have H1 := Lib.hid (show sgn 0 (siz b - siz a) true = sat (a + b) by rw [sgn_t]; exact sat_congr (by omega))
        clear ya yb
        go_enter Tryd.func11, Tryd.ntmps11
        go_wp2_with fail
        refine (rsize_any _ _ ha1 ha2).mono ?_; rintro e w' ⟨rfl, rfl⟩
        go_wp2_with fail
        refine (rsize_any _ _ hb1 hb2).mono ?_; rintro e w' ⟨rfl, rfl⟩
        go_wp2_with fail
        refine (K.out _ _ _ (by omega) (by omega) (by omega) H1.out _).mono ?_; rintro e w' ⟨rfl, rfl⟩
        go_wp2
        go_ret
        exact ⟨rfl, rfl⟩
    · have da : decide (a < 0) = false := by simpa using sa
      have db : decide (b < 0) = false := by simpa using sb
      have ya := siz_pos sa
      have yb := siz_pos sb
      have c : siz a + siz b ≤ 18446744073709551615 := by omega
      · have H1 := Lib.hid (show sgn 0 (siz a + siz b) false = sat (a + b) by rw [sgn_f]; exact sat_congr (by omega))
        have c' : ¬ (siz a + siz b < siz a) := by omega
        clear ya yb
        go_enter Tryd.func11, Tryd.ntmps11
        go_wp2_with fail
        refine (rsize_any _ _ ha1 ha2).mono ?_; rintro e w' ⟨rfl, rfl⟩
        go_wp2_with fail
        refine (rsize_any _ _ hb1 hb2).mono ?_; rintro e w' ⟨rfl, rfl⟩
        go_wp2_with fail
        refine (K.out _ _ _ (by omega) (by omega) (by omega) H1.out _).mono ?_; rintro e w' ⟨rfl, rfl⟩
        go_wp2
        go_ret
        exact ⟨rfl, rfl⟩

end Go.Proofs.YtmfljibmnplkiaaDoor.W

/-
  The contract of the reference's Mul (bit by bit): the product, ending at the bounds.
-/
import Derived.Test.YtmfljibmnplkiaaDoorCountMul
namespace Go.Proofs.YtmfljibmnplkiaaDoor.W
open Go.RowKit Num

def Half (x y : Int) (k : Nat) (h l : Int) : Prop :=
  0 ≤ h ∧ 0 ≤ l ∧ l ≤ 18446744073709551615 ∧ h ≤ 4611686018427387904 ∧ h * 18446744073709551616 + l = x * (y / 2 ^ k)

theorem wrap_u64 (n : Int) : IntKind.u64.wrap n = n % 18446744073709551616 := by
  simp [IntKind.wrap, IntKind.bits, IntKind.signed]

theorem half_step {x y : Int} {k : Nat} {h l : Int} (hx0 : 0 ≤ x) (hx : x ≤ 9223372036854775808) (hy0 : 0 ≤ y) (hy : y ≤ 9223372036854775808) (H : Half x y (k + 1) h l) :
    (((y / 2 ^ k).tmod 2 == 1) = true → IntKind.u64.wrap (IntKind.u64.wrap (2 * l) + x) < IntKind.u64.wrap (2 * l) → Half x y k (2 * h + l / 9223372036854775808 + 1) (IntKind.u64.wrap (IntKind.u64.wrap (2 * l) + x))) ∧
    (((y / 2 ^ k).tmod 2 == 1) = true → IntKind.u64.wrap (2 * l) ≤ IntKind.u64.wrap (IntKind.u64.wrap (2 * l) + x) → Half x y k (2 * h + l / 9223372036854775808) (IntKind.u64.wrap (IntKind.u64.wrap (2 * l) + x))) ∧
    (((y / 2 ^ k).tmod 2 == 1) = false → Half x y k (2 * h + l / 9223372036854775808) (IntKind.u64.wrap (2 * l))) := by
  obtain ⟨q1, q2, q3, q4, q5⟩ := H
  have p0 : 0 ≤ y / 2 ^ k := Int.ediv_nonneg hy0 (Int.pow_nonneg (by omega))
  have p1 : y / 2 ^ k ≤ 9223372036854775808 := Int.le_trans (Int.ediv_le_self _ hy0) hy
  have e : y / 2 ^ (k + 1) = y / 2 ^ k / 2 := by
    have : (0 : Int) ≤ 2 ^ k := Int.pow_nonneg (by omega)
    rw [Int.pow_succ, Int.ediv_ediv, if_neg (by omega), Int.sub_zero]
  rw [e] at q5
  rw [Int.tmod_eq_emod_of_nonneg p0]
  unfold Half
  generalize y / 2 ^ k = p at *
  have top : x * p ≤ 9223372036854775808 * 9223372036854775808 := Int.mul_le_mul hx p1 p0 (by omega)
  have split : p = 2 * (p / 2) + p % 2 := (Int.mul_ediv_add_emod p 2).symm
  have dist : x * p = 2 * (x * (p / 2)) + x * (p % 2) := by
    conv => lhs; rw [split]
    rw [Int.mul_add, ← Int.mul_assoc, Int.mul_comm x 2, Int.mul_assoc]
  have r := Int.emod_two_eq p
  simp only [wrap_u64, beq_iff_eq, beq_eq_false_iff_ne]
  generalize x * (p / 2) = X at *
  generalize hP : x * p = P at *
  refine ⟨fun hb hlt => ?_, fun hb hge => ?_, fun hb => ?_⟩
  · rw [hb, Int.mul_one] at dist
    omega
  · rw [hb, Int.mul_one] at dist
    omega
  · rw [show p % 2 = 0 by omega, Int.mul_zero] at dist
    omega

theorem half_start {x y : Int} (hy0 : 0 ≤ y) (hy : y ≤ 9223372036854775808) : Half x y 64 0 0 := by
  refine ⟨by omega, by omega, by omega, by omega, ?_⟩
  rw [show y / 2 ^ 64 = 0 from Int.ediv_eq_zero_of_lt hy0 (by simp; omega)]; simp

theorem half_end {a b h l : Int} (H : Half (siz a) (siz b) 0 h l) : sgn h l (decide (a < 0) != decide (b < 0)) = sat (a * b) := by
  obtain ⟨-, -, -, -, e⟩ := H
  simp only [Int.pow_zero, Int.ediv_one] at e
  by_cases sa : a < 0 <;> by_cases sb : b < 0
  · rw [siz_neg sa, siz_neg sb, Int.neg_mul_neg] at e
    simp only [sa, sb, decide_true, bne_self_eq_false, sgn_f]; rw [e]
  · rw [siz_neg sa, siz_pos sb, Int.neg_mul] at e
    simp only [sa, sb, decide_true, decide_false, Bool.bne_false, sgn_t]; rw [e, Int.neg_neg]
  · rw [siz_pos sa, siz_neg sb, Int.mul_neg] at e
    simp only [sa, sb, decide_true, decide_false, Bool.bne_true, Bool.not_false, sgn_t]; rw [e, Int.neg_neg]
  · rw [siz_pos sa, siz_pos sb] at e
    simp only [sa, sb, decide_false, bne_self_eq_false, sgn_f]; rw [e]

set_option maxHeartbeats 1000000 in
theorem rmul_any (a b : Int) (w : World) (ha1 : -9223372036854775808 ≤ a) (ha2 : a ≤ 9223372036854775807) (hb1 : -9223372036854775808 ≤ b) (hb2 : b ≤ 9223372036854775807) :
    Calls Tryd.prog 12 #[.int .i64 a, .int .i64 b] w fun e w' => e = .returned (.int .i64 (sat (a * b))) ∧ w = w' := by
  have xa := siz_bd ha1 ha2
  have xb := siz_bd hb1 hb2
  go_enter Tryd.func12, Tryd.ntmps12
  go_wp2_with fail
  refine (rsize_any _ _ ha1 ha2).mono ?_; rintro e w' ⟨rfl, rfl⟩
  go_wp2_with fail
  refine (rsize_any _ _ hb1 hb2).mono ?_; rintro e w' ⟨rfl, rfl⟩
  go_wp2_with fail
  go_loop [7, 8, 9] (fun h l i => ∃ (k : Nat) (hn ln : Int), k ≤ 64 ∧ i = .int .i64 ((k : Int) - 1) ∧ h = .int .u64 hn ∧ l = .int .u64 ln ∧ Half (siz a) (siz b) k hn ln) (fun _ _ i => (intOf i + 1).toNat)
  case atStart => exact ⟨64, 0, 0, Nat.le_refl _, rfl, rfl, rfl, half_start xb.1 xb.2⟩
  case round =>
    obtain ⟨k, hn, ln, hk, rfl, rfl, rfl, hh⟩ := hrel
    have HH := Lib.hid hh
    obtain ⟨q1, q2, q3, q4, q5⟩ := hh
    clear q5
    cases k with
    | zero =>
      rw [show (((0 : Nat) : Int) - 1) = -1 by omega]
      cases da : decide (a < 0) <;> cases db : decide (b < 0)
      all_goals
        have E := half_end HH.out
        rw [da, db] at E
        have HE := Lib.hid E
        clear E HH
        go_wp2_with fail
        refine (rsigned_any _ _ _ _ q1 q2 q3).mono ?_; rintro e w' ⟨rfl, rfl⟩
        go_wp2
        go_ret
        exact ⟨ret_int HE.out, rfl⟩
    | succ k =>
      rw [show (((k + 1 : Nat) : Int) - 1) = (k : Int) by omega]
      have ST := Lib.hid (half_step xa.1 xa.2 xb.1 xb.2 HH.out)
      clear HH
      go_wp2
      · go_round
        case rel => exact ⟨k, _, _, by omega, rfl, rfl, rfl, ST.out.1 ‹_› ‹_›⟩
        case measure => simp [intOf]
      · go_round
        case rel => exact ⟨k, _, _, by omega, rfl, rfl, rfl, ST.out.2.1 ‹_› ‹_›⟩
        case measure => simp [intOf]
      · go_round
        case rel => exact ⟨k, _, _, by omega, rfl, rfl, rfl, ST.out.2.2 ‹_›⟩
        case measure => simp [intOf]
end Go.Proofs.YtmfljibmnplkiaaDoor.W

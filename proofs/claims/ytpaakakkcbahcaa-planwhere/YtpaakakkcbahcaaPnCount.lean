/-
  Contracts of count.Add, count.Up and of the reference's up: what each call returns, and that nothing turns. No conditions but that the numbers are ints.
-/
import Derived.Test.YtpaakakkcbahcaaCountNum
import Derived.Test.YtpaakakkcbahcaaChecked
import Derived.WalkKit
import Derived.WalkLawsBesides
import Derived.Lib.Hide
namespace Go.Proofs.Ytpaakakkcbahcaa.W
open Go.RowKit Num

theorem ret_int {k : IntKind} {a b : Int} (h : a = b) : Ending.returned (.int k a) = .returned (.int k b) := by rw [h]
theorem ret_bool {a b : Bool} (h : a = b) : Ending.returned (.bool a) = .returned (.bool b) := by rw [h]

set_option maxHeartbeats 400000 in
theorem add_any (a b : Int) (w : World) (ha1 : -9223372036854775808 ≤ a) (ha2 : a ≤ 9223372036854775807) (hb1 : -9223372036854775808 ≤ b) (hb2 : b ≤ 9223372036854775807) :
    Calls Try.prog 35 #[.int .i64 a, .int .i64 b] w fun e w' => e = .returned (.int .i64 (sat (a + b))) ∧ w = w' := by
  by_cases h1 : 9223372036854775807 < a + b
  · have e1 : wrap64 (a + b) < a := by unfold wrap64; omega
    have e2 : 0 < b := by omega
    have H := Lib.hid (sat_hi _ h1)
    go_enter Try.func35, Try.ntmps35
    go_wp2
    go_ret
    exact ⟨ret_int (by rw [H.out]), rfl⟩
  · by_cases h2 : a + b < -9223372036854775808
    · have e1 : a < wrap64 (a + b) := by unfold wrap64; omega
      have e2 : b < 0 := by omega
      have H := Lib.hid (sat_lo _ h2)
      go_enter Try.func35, Try.ntmps35
      go_wp2
      go_ret
      exact ⟨ret_int (by rw [H.out]), rfl⟩
    · have H := Lib.hid (sat_in (a + b) (by omega) (by omega))
      by_cases h3 : 0 < b
      · go_enter Try.func35, Try.ntmps35
        go_wp2
        go_ret
        exact ⟨ret_int (by rw [H.out]), rfl⟩
      · by_cases h4 : b < 0
        · go_enter Try.func35, Try.ntmps35
          go_wp2
          go_ret
          exact ⟨ret_int (by rw [H.out]), rfl⟩
        · go_enter Try.func35, Try.ntmps35
          go_wp2
          go_ret
          exact ⟨ret_int (by rw [H.out]), rfl⟩

/-- how many groups of d, of n things from 1 on -/
def ups (n d : Int) : Int := (n - 1) / d + 1

set_option maxHeartbeats 400000 in
theorem up_any (n d : Int) (w : World) (h1 : 1 ≤ n) (h2 : n ≤ 9223372036854775807) (h0 : 1 ≤ d) (h3 : d ≤ 9223372036854775807) :
    Calls Try.prog 38 #[.int .i64 n, .int .i64 d] w fun e w' => e = .returned (.int .i64 (ups n d)) ∧ w = w' := by
  have q1 : 0 ≤ (n - 1) / d := Int.ediv_nonneg (by omega) (by omega)
  have q2 : (n - 1) / d ≤ n - 1 := Int.ediv_le_self _ (by omega)
  have c1 : ¬ n < 1 := by omega
  have c2 : ¬ d < 1 := by omega
  have H := Lib.hid (show ups n d = (n - 1) / d + 1 from rfl)
  go_enter Try.func38, Try.ntmps38
  go_wp2
  go_ret
  exact ⟨ret_int (by rw [H.out]), rfl⟩

/-- the reference's: counted -/
theorem ups_round {n d : Int} {k : Nat} (h1 : 1 ≤ n) (h0 : 1 ≤ d) (hk : (k : Int) ≤ ups n d) : ((k : Int) * d < n ↔ (k : Int) < ups n d) ∧ 0 ≤ (k : Int) * d ∧ (k : Int) * d < n + d := by
  unfold ups at *
  have q1 : 0 ≤ (n - 1) / d := Int.ediv_nonneg (by omega) (by omega)
  have q3 : (n - 1) / d * d ≤ n - 1 := Int.ediv_mul_le (n - 1) (by omega)
  have q4 := Int.lt_ediv_add_one_mul_self (n - 1) (b := d) (by omega)
  refine ⟨⟨fun h => ?_, fun h => ?_⟩, Int.mul_nonneg (by omega) (by omega), ?_⟩
  · by_cases h' : (k : Int) < (n - 1) / d + 1
    · exact h'
    · exact absurd (Int.mul_le_mul_of_nonneg_right (show (n - 1) / d + 1 ≤ (k : Int) by omega) (show 0 ≤ d by omega)) (by omega)
  · have := Int.mul_le_mul_of_nonneg_right (show (k : Int) ≤ (n - 1) / d by omega) (show 0 ≤ d by omega)
    omega
  · have := Int.mul_le_mul_of_nonneg_right hk (show 0 ≤ d by omega)
    rw [Int.add_mul] at this
    omega
set_option maxHeartbeats 400000 in
theorem rup_any (n d : Int) (w : World) (h1 : 1 ≤ n) (h2 : n ≤ 1000000) (h0 : 1 ≤ d) (h3 : d ≤ 1000000) :
    Calls Try.prog 31 #[.int .i64 n, .int .i64 d] w fun e w' => e = .returned (.int .i64 (ups n d)) ∧ w = w' := by
  have q1 : 0 ≤ (n - 1) / d := Int.ediv_nonneg (by omega) (by omega)
  have q2 : (n - 1) / d ≤ n - 1 := Int.ediv_le_self _ (by omega)
  have hu : 1 ≤ ups n d := by unfold ups; omega
  have hu2 : ups n d ≤ n := by unfold ups; omega
  have HR := Lib.hid (fun (k : Nat) hk => ups_round (n := n) (d := d) (k := k) h1 h0 hk)
  go_enter Try.func31, Try.ntmps31
  go_wp2
  go_loop [5] (fun i => ∃ k : Nat, (k : Int) ≤ ups n d ∧ i = .int .i64 k) (fun i => (ups n d).toNat - (intOf i).toNat)
  case atStart => exact ⟨0, by omega, rfl⟩
  case round =>
    obtain ⟨k, hk, rfl⟩ := hrel
    obtain ⟨r1, r2, r3⟩ := HR.out k hk
    by_cases hlt : (k : Int) < ups n d
    · have hlt2 := r1.2 hlt
      clear r1
      go_wp2
      go_round
      case rel => exact ⟨k + 1, by omega, by go_num⟩
      case measure => simp [intOf]; omega
    · have hlt2 : ¬ (k : Int) * d < n := fun h => hlt (r1.1 h)
      have this := Lib.hid (show (k : Int) = ups n d by omega)
      clear r1
      go_wp2
      go_ret
      exact ⟨ret_int this.out, rfl⟩
end Go.Proofs.Ytpaakakkcbahcaa.W

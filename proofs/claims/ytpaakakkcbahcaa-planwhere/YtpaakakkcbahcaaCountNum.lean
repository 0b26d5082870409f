/-
  Plain facts on whole numbers that end at their bounds (no program in sight): 'sat n' is n, kept between the least and the greatest int.
-/
import Derived.WalkKit
namespace Go.Proofs.Ytpaakakkcbahcaa.Num
open Go.RowKit

def hiI : Int := 9223372036854775807
def loI : Int := -9223372036854775808
/-- what ends at the bounds -/
def sat (n : Int) : Int := if hiI < n then hiI else if n < loI then loI else n

theorem sat_in (n : Int) (h1 : -9223372036854775808 ≤ n) (h2 : n ≤ 9223372036854775807) : sat n = n := by
  unfold sat hiI loI; split
  · omega
  · split
    · omega
    · rfl
theorem sat_hi (n : Int) (h : 9223372036854775807 < n) : sat n = 9223372036854775807 := by
  unfold sat hiI; rw [if_pos h]
theorem sat_lo (n : Int) (h : n < -9223372036854775808) : sat n = -9223372036854775808 := by
  unfold sat hiI loI; rw [if_neg (by omega), if_pos h]
theorem sat_bd (n : Int) : -9223372036854775808 ≤ sat n ∧ sat n ≤ 9223372036854775807 := by
  unfold sat hiI loI; split
  · omega
  · split <;> omega

/-- a product of two ints, wrapped: the quotient by the second tells whether it was wrapped -/
theorem mul_quot (a b p q : Int) (hb : b ≠ 0) (hb1 : -9223372036854775808 ≤ b) (hb2 : b ≤ 9223372036854775807)
    (hp : p = wrap64 (a * b)) (hq : q = p.tdiv b) (hqa : q = a) : p = a * b := by
  have e := Int.mul_tdiv_add_tmod p b
  rw [← hq, hqa] at e
  have hr : (p.tmod b).natAbs < b.natAbs := by
    rw [Int.natAbs_tmod]; exact Nat.mod_lt _ (by omega)
  have hm : b * a = a * b := Int.mul_comm _ _
  rw [hm] at e
  unfold wrap64 at hp
  generalize a * b = x at *
  generalize p.tmod b = r at *
  omega

theorem mul_lt_zero {a b : Int} (ha : a ≠ 0) (hb : b ≠ 0) : (a * b < 0) ↔ ¬((a < 0) ↔ (b < 0)) := by
  rcases Int.lt_or_gt_of_ne ha with h1 | h1 <;> rcases Int.lt_or_gt_of_ne hb with h2 | h2
  · have := Int.mul_pos_of_neg_of_neg h1 h2
    constructor
    · intro h; omega
    · intro h; exact absurd ⟨fun _ => h2, fun _ => h1⟩ h
  · have := Int.mul_neg_of_neg_of_pos h1 h2
    constructor
    · intro _ h; have := h.1 h1; omega
    · intro _; exact this
  · have := Int.mul_neg_of_pos_of_neg h1 h2
    constructor
    · intro _ h; have := h.2 h2; omega
    · intro _; exact this
  · have := Int.mul_pos h1 h2
    constructor
    · intro h; omega
    · intro h; exact absurd ⟨fun h => by omega, fun h => by omega⟩ h
theorem mul_ne_zero {a b : Int} (ha : a ≠ 0) (hb : b ≠ 0) : a * b ≠ 0 := fun h => (Int.mul_eq_zero.1 h).elim ha hb

def clampI (n lo hi : Int) : Int := if n < lo then lo else if hi < n then hi else n
theorem clampI_lo {n lo hi : Int} (h : n < lo) : clampI n lo hi = lo := by unfold clampI; rw [if_pos h]
theorem clampI_hi {n lo hi : Int} (h1 : ¬ n < lo) (h2 : hi < n) : clampI n lo hi = hi := by unfold clampI; rw [if_neg h1, if_pos h2]
theorem clampI_in {n lo hi : Int} (h1 : ¬ n < lo) (h2 : ¬ hi < n) : clampI n lo hi = n := by unfold clampI; rw [if_neg h1, if_neg h2]
/-- how great a number is, without its sign -/
def siz (n : Int) : Int := if n < 0 then -n else n
theorem siz_neg {n : Int} (h : n < 0) : siz n = -n := by unfold siz; rw [if_pos h]
theorem siz_pos {n : Int} (h : ¬ n < 0) : siz n = n := by unfold siz; rw [if_neg h]
theorem siz_bd {n : Int} (h1 : -9223372036854775808 ≤ n) (h2 : n ≤ 9223372036854775807) : 0 ≤ siz n ∧ siz n ≤ 9223372036854775808 := by
  unfold siz; split <;> omega
/-- two halves, with a sign -/
def sgn (high low : Int) (minus : Bool) : Int := if minus then sat (-(high * 18446744073709551616 + low)) else sat (high * 18446744073709551616 + low)


theorem sgn_f (high low : Int) : sgn high low false = sat (high * 18446744073709551616 + low) := by unfold sgn; rw [if_neg (by simp)]
theorem sgn_t (high low : Int) : sgn high low true = sat (-(high * 18446744073709551616 + low)) := by unfold sgn; rw [if_pos rfl]
theorem sat_congr {a b : Int} (h : a = b) : sat a = sat b := by rw [h]

theorem tdiv_bd (p b : Int) (h1 : -9223372036854775808 ≤ p) (h2 : p ≤ 9223372036854775807) (b1 : b ≠ 0) (hb : b ≠ -1) :
    -9223372036854775808 ≤ p.tdiv b ∧ p.tdiv b ≤ 9223372036854775807 := by
  have e := Int.mul_tdiv_add_tmod p b
  have hn : (p.tdiv b).natAbs = p.natAbs / b.natAbs := Int.natAbs_tdiv p b
  by_cases hb1 : b = 1
  · subst hb1; rw [Int.tdiv_one]; omega
  · have : p.natAbs / b.natAbs ≤ p.natAbs / 2 := Nat.div_le_div_left (by omega) (by omega)
    omega

/-- how many times, at least -/
def upN (n d : Int) : Int := if n < 1 ∨ d < 1 then 0 else (n - 1) / d + 1
theorem upN_0 {n d : Int} (h : n < 1 ∨ d < 1) : upN n d = 0 := by unfold upN; rw [if_pos h]
theorem upN_1 {n d : Int} (h1 : ¬ n < 1) (h2 : ¬ d < 1) : upN n d = (n - 1) / d + 1 := by unfold upN; rw [if_neg (by omega)]
theorem up_ex {n d : Int} (h2 : 1 ≤ d) (h : ¬ n / d * d < n) : (n - 1) / d + 1 = n / d := by
  have e1 := Int.ediv_mul_le n (b := d) (by omega)
  have e : n = n / d * d := by omega
  have : (n - 1) / d = n / d - 1 := by
    rw [Int.ediv_eq_iff_of_pos (by omega)]
    rw [Int.sub_mul]; omega
  omega
theorem up_more {n d : Int} (h2 : 1 ≤ d) (h : n / d * d < n) : (n - 1) / d = n / d := by
  have h3 := Int.lt_ediv_add_one_mul_self n (b := d) (by omega)
  rw [Int.ediv_eq_iff_of_pos (by omega)]
  rw [Int.add_mul] at h3
  omega
/-- what is left -/
def restN (n d : Int) : Int := if d < 1 then 0 else n % d
theorem restN_0 {n d : Int} (h : d < 1) : restN n d = 0 := by unfold restN; rw [if_pos h]
theorem restN_1 {n d : Int} (h : ¬ d < 1) : restN n d = n % d := by unfold restN; rw [if_neg h]
theorem tmod_neg {n d : Int} (h : 1 ≤ d) (hn : n < 0) : (n.tmod d ≤ 0 ∧ -d < n.tmod d) ∧ (n.tmod d < 0 → n.tmod d + d = n % d) ∧ (¬ n.tmod d < 0 → n.tmod d = n % d) := by
  have e1 := Int.mul_tdiv_add_tmod n d
  have e2 := Int.mul_ediv_add_emod n d
  have h1 := Int.emod_nonneg n (b := d) (by omega)
  have h2 := Int.emod_lt_of_pos n (b := d) (by omega)
  have h3 : (n.tmod d).natAbs < d.natAbs := by rw [Int.natAbs_tmod]; exact Nat.mod_lt _ (by omega)
  have h4 : n.tmod d ≤ 0 := by
    have : (-n).tmod d = - n.tmod d := Int.neg_tmod n d
    have := Int.tmod_nonneg (a := -n) d (by omega)
    omega
  by_cases hd : d ∣ n
  · have z1 := Int.tmod_eq_zero_of_dvd hd
    have z2 := Int.emod_eq_zero_of_dvd hd
    exact ⟨⟨h4, by omega⟩, fun h => by omega, fun _ => by omega⟩
  · have h5 := Int.tmod_eq_emod (a := n) (b := d)
    rw [if_neg (by simp [hd]; omega)] at h5
    exact ⟨⟨h4, by omega⟩, fun _ => by omega, fun h => by omega⟩
def nth (zs : List Int) (i : Nat) : Int := zs.getD i 0
/-- the sum of the first ones, one by one, each ending at the bounds -/
def sumTo (zs : List Int) : Nat → Int
  | 0 => 0
  | k + 1 => sat (sumTo zs k + nth zs k)
theorem sumTo_bd (zs : List Int) (k : Nat) : -9223372036854775808 ≤ sumTo zs k ∧ sumTo zs k ≤ 9223372036854775807 := by
  cases k with
  | zero => unfold sumTo; omega
  | succ k => unfold sumTo; exact sat_bd _
end Go.Proofs.Ytpaakakkcbahcaa.Num

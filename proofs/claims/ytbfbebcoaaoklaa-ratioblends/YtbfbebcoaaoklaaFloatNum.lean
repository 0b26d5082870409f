/-
  Plain facts on floats of 64 bits (the words of Ieee.double): what a word is worth, in units of the least place; the order of words is the order of ranks. No program in it.
-/
import Derived.Laws.FloatArith
namespace Go.Proofs.Ytbfbebcoaaoklaa.Flt
open Ieee

/-- what a rung is worth, in units of the least place -/
def mv (r : Nat) : Nat := if r < 4503599627370496 then r else (4503599627370496 + r % 4503599627370496) * 2 ^ (r / 4503599627370496 - 1)

theorem mv_small {r : Nat} (h : r < 4503599627370496) : mv r = r := by unfold mv; rw [if_pos h]
theorem mv_big {r : Nat} (h : ¬ r < 4503599627370496) : mv r = (4503599627370496 + r % 4503599627370496) * 2 ^ (r / 4503599627370496 - 1) := by unfold mv; rw [if_neg h]
theorem mv_zero : mv 0 = 0 := mv_small (by omega)

/-- a rung by its place and what is kept there -/
theorem mv_rung (s kept : Nat) (h : (s = 0 ∧ kept ≤ 9007199254740992) ∨ (4503599627370496 ≤ kept ∧ kept ≤ 9007199254740992)) : mv (s * 4503599627370496 + kept) = kept * 2 ^ s := by
  by_cases h0 : s * 4503599627370496 + kept < 4503599627370496
  · have : s = 0 := by omega
    subst this
    rw [mv_small h0]; simp
  · rw [mv_big h0]
    by_cases h1 : kept = 9007199254740992
    · subst h1
      have e1 : (s * 4503599627370496 + 9007199254740992) % 4503599627370496 = 0 := by omega
      have e2 : (s * 4503599627370496 + 9007199254740992) / 4503599627370496 - 1 = s + 1 := by omega
      rw [e1, e2, Nat.pow_succ]; omega
    · by_cases h2 : kept < 4503599627370496
      · omega
      · have e1 : 4503599627370496 + (s * 4503599627370496 + kept) % 4503599627370496 = kept := by omega
        have e2 : (s * 4503599627370496 + kept) / 4503599627370496 - 1 = s := by omega
        rw [e1, e2]

theorem mv_step (r : Nat) : mv r < mv (r + 1) := by
  by_cases h : r < 4503599627370496
  · rw [mv_small h]
    have := mv_rung 0 (r + 1) (.inl ⟨rfl, by omega⟩)
    simp at this
    omega
  · have hq : 1 ≤ r / 4503599627370496 := by omega
    obtain ⟨q, hq⟩ : ∃ q, r / 4503599627370496 = q + 1 := ⟨r / 4503599627370496 - 1, by omega⟩
    have hp : 0 < 2 ^ q := Nat.two_pow_pos q
    have e : r + 1 = q * 4503599627370496 + (4503599627370496 + r % 4503599627370496 + 1) := by omega
    rw [mv_big h, e, mv_rung q _ (.inr (by omega)), hq, Nat.add_sub_cancel]
    exact Nat.mul_lt_mul_of_pos_right (by omega) hp

theorem mv_lt {a b : Nat} (h : a < b) : mv a < mv b := by
  induction b with
  | zero => omega
  | succ b ih =>
    have := mv_step b
    by_cases e : a = b
    · subst e; exact this
    · have := ih (by omega); omega
theorem mv_lt_iff {a b : Nat} : mv a < mv b ↔ a < b := by
  constructor
  · intro h
    by_cases c : a < b
    · exact c
    · by_cases e : a = b
      · subst e; omega
      · have := mv_lt (show b < a by omega); omega
  · exact mv_lt
theorem mv_le {a b : Nat} (h : a ≤ b) : mv a ≤ mv b := by
  by_cases e : a = b
  · subst e; omega
  · have := mv_lt (show a < b by omega); omega
theorem mv_inj {a b : Nat} (h : mv a = mv b) : a = b := by
  by_cases c : a < b
  · have := mv_lt c; omega
  · by_cases c : b < a
    · have := mv_lt c; omega
    · omega

/-- is it NaN? -/
def nan (b : Nat) : Prop := 9218868437227405312 < b % 9223372036854775808
instance (b : Nat) : Decidable (nan b) := inferInstanceAs (Decidable (_ < _))
/-- its sign -/
def neg (b : Nat) : Bool := b / 9223372036854775808 % 2 == 1
def sg (s : Bool) (x : Nat) : Int := if s then -(x : Int) else x
/-- what a word is worth (infinity: what would be the next number) -/
def val (b : Nat) : Int := sg (neg b) (mv (b % 9223372036854775808))

theorem dsw : double.signWeight = 9223372036854775808 := by decide
theorem dbin : double.binade = 4503599627370496 := by decide
theorem dinf : double.infRung = 9218868437227405312 := by decide
theorem dlp : double.leastPlace = -1074 := by decide
theorem dfb : double.fractionBits = 52 := by decide

theorem read_fin {b : Nat} (h : b % 9223372036854775808 < 9218868437227405312) :
    ∃ (m k : Nat), double.read b = .number (neg b) m (-1074 + (k : Int)) ∧ m * 2 ^ k = mv (b % 9223372036854775808) := by
  unfold Format.read
  simp only [dsw, dbin, dinf, dlp]
  by_cases c : b % 9223372036854775808 < 4503599627370496
  · rw [if_pos c]
    exact ⟨_, 0, rfl, by rw [mv_small c]; simp⟩
  · rw [if_neg c, if_pos h]
    exact ⟨_, _, rfl, by rw [mv_big c]⟩
theorem read_inf {b : Nat} (h : b % 9223372036854775808 = 9218868437227405312) : double.read b = .infinity (neg b) := by
  unfold Format.read
  simp only [dsw, dbin, dinf, dlp]
  rw [if_neg (by omega), if_neg (by omega), if_pos h]
  rfl
theorem read_nan {b : Nat} (h : nan b) : double.read b = .nan (neg b) (b % 9223372036854775808 - 9218868437227405312) := by
  unfold nan at h
  unfold Format.read
  simp only [dsw, dbin, dinf, dlp]
  rw [if_neg (by omega), if_neg (by omega), if_neg (by omega)]
  rfl

/-- the way in which two stand -/
def cmp (a b : Int) : Ordering := if a < b then .lt else if a = b then .eq else .gt
theorem compare_int (a b : Int) : compare a b = cmp a b := rfl
theorem cmp_lt {a b : Int} (h : a < b) : cmp a b = .lt := by unfold cmp; rw [if_pos h]
theorem cmp_eq {a b : Int} (h : a = b) : cmp a b = .eq := by unfold cmp; rw [if_neg (by omega), if_pos h]
theorem cmp_gt {a b : Int} (h : b < a) : cmp a b = .gt := by unfold cmp; rw [if_neg (by omega), if_neg (by omega)]
theorem cmp_mul (a b : Int) (k : Nat) (hk : 0 < k) : cmp (a * k) (b * k) = cmp a b := by
  unfold cmp
  have hk' : (0 : Int) < k := by omega
  have h1 : a * k < b * k ↔ a < b := ⟨fun h => Int.lt_of_mul_lt_mul_right h (by omega), fun h => Int.mul_lt_mul_of_pos_right h hk'⟩
  have h2 : a * k = b * k ↔ a = b := ⟨fun h => Int.eq_of_mul_eq_mul_right (by omega) h, fun h => by rw [h]⟩
  simp only [h1, h2]

theorem signed_sg (s : Bool) (m up : Nat) : signed s m up = sg s (m * 2 ^ up) := by
  unfold signed sg; rw [Nat.shiftLeft_eq]
theorem sg_mul (s : Bool) (x k : Nat) : sg s x * k = sg s (x * k) := by
  unfold sg; cases s <;> simp [Int.neg_mul]

theorem order_num (s t : Bool) (m n k l : Nat) :
    Datum.order (.number s m (-1074 + (k : Int))) (.number t n (-1074 + (l : Int))) = some (cmp (sg s (m * 2 ^ k)) (sg t (n * 2 ^ l))) := by
  unfold Datum.order
  simp only [signed_sg, compare_int]
  rw [← cmp_mul _ _ (2 ^ (min k l)) (Nat.two_pow_pos _), sg_mul, sg_mul, Nat.mul_assoc, Nat.mul_assoc, ← Nat.pow_add, ← Nat.pow_add]
  have e1 : (-1074 + (k : Int) - min (-1074 + (k : Int)) (-1074 + (l : Int))).toNat + min k l = k := by omega
  have e2 : (-1074 + (l : Int) - min (-1074 + (k : Int)) (-1074 + (l : Int))).toNat + min k l = l := by omega
  rw [e1, e2]

theorem order_nan_l {x y : Nat} (h : nan x) : double.order x y = none := by unfold Format.order; rw [read_nan h]; rfl
theorem order_nan_r {x y : Nat} (h : nan y) : double.order x y = none := by
  unfold Format.order; rw [read_nan h]
  cases double.read x <;> rfl

theorem order_val {x y : Nat} (hx : ¬ nan x) (hy : ¬ nan y) : double.order x y = some (cmp (val x) (val y)) := by
  unfold nan at hx hy
  unfold Format.order val
  by_cases fx : x % 9223372036854775808 < 9218868437227405312
  · obtain ⟨m, k, rx, vx⟩ := read_fin fx
    by_cases fy : y % 9223372036854775808 < 9218868437227405312
    · obtain ⟨n, l, ry, vy⟩ := read_fin fy
      rw [rx, ry, order_num, vx, vy]
    · have iy : y % 9223372036854775808 = 9218868437227405312 := by omega
      have hlt := mv_lt fx
      rw [rx, read_inf iy, iy]
      generalize mv 9218868437227405312 = M at hlt
      generalize mv (x % 9223372036854775808) = N at hlt
      cases neg x <;> cases neg y <;> simp only [sg] <;> first | (rw [cmp_lt (by simp; omega)]; rfl) | (rw [cmp_gt (by simp; omega)]; rfl)
  · have ix : x % 9223372036854775808 = 9218868437227405312 := by omega
    by_cases fy : y % 9223372036854775808 < 9218868437227405312
    · obtain ⟨n, l, ry, vy⟩ := read_fin fy
      have hlt := mv_lt fy
      rw [ry, read_inf ix, ix]
      generalize mv 9218868437227405312 = M at hlt
      generalize mv (y % 9223372036854775808) = N at hlt
      cases neg x <;> cases neg y <;> simp only [sg] <;> first | (rw [cmp_lt (by simp; omega)]; rfl) | (rw [cmp_gt (by simp; omega)]; rfl)
    · have iy : y % 9223372036854775808 = 9218868437227405312 := by omega
      have hpos : 0 < mv 9218868437227405312 := by have := mv_lt (show 0 < 9218868437227405312 by omega); omega
      rw [read_inf ix, read_inf iy, ix, iy]
      generalize mv 9218868437227405312 = M at hpos
      cases neg x <;> cases neg y <;> simp only [sg] <;> first | (rw [cmp_eq rfl]; rfl) | (rw [cmp_lt (by simp; omega)]; rfl) | (rw [cmp_gt (by simp; omega)]; rfl)

/-- where a float stands in order -/
def rk (b : Nat) : Nat := if nan b then 18446744073709551615 else if b / 9223372036854775808 % 2 = 1 then 18446744073709551615 - b else b + 9223372036854775808

theorem rk_nan {b : Nat} (h : nan b) : rk b = 18446744073709551615 := by unfold rk; rw [if_pos h]
theorem rk_neg {b : Nat} (h : ¬ nan b) (s : neg b = true) : rk b = 18446744073709551615 - b := by
  unfold rk; rw [if_neg h, if_pos (by simpa [neg] using s)]
theorem rk_pos {b : Nat} (h : ¬ nan b) (s : neg b = false) : rk b = b + 9223372036854775808 := by
  unfold rk; rw [if_neg h, if_neg (by simpa [neg] using s)]
theorem rk_lt {b : Nat} (hb : b < 18446744073709551616) (h : ¬ nan b) : rk b < 18446744073709551615 := by
  have h' := h
  unfold nan at h'
  unfold rk
  rw [if_neg h]
  split <;> omega
theorem rk_le {b : Nat} (hb : b < 18446744073709551616) : rk b ≤ 18446744073709551615 := by
  by_cases h : nan b
  · rw [rk_nan h]; omega
  · have := rk_lt hb h; omega

theorem neg_true {b : Nat} (hb : b < 18446744073709551616) (s : neg b = true) : 9223372036854775808 ≤ b ∧ b % 9223372036854775808 = b - 9223372036854775808 := by
  have : b / 9223372036854775808 % 2 = 1 := by simpa [neg] using s
  omega
theorem neg_false {b : Nat} (hb : b < 18446744073709551616) (s : neg b = false) : b < 9223372036854775808 ∧ b % 9223372036854775808 = b := by
  have : ¬ b / 9223372036854775808 % 2 = 1 := by simpa [neg] using s
  omega

/-- the order of the ranks, by worths and signs -/
theorem rk_val {a b : Nat} (ha : a < 18446744073709551616) (hb : b < 18446744073709551616) (na : ¬ nan a) (nb : ¬ nan b) :
    (rk a < rk b) ↔ (val a < val b ∨ (val a = val b ∧ neg a = true ∧ neg b = false)) := by
  unfold val
  cases sa : neg a
  · obtain ⟨a1, a2⟩ := neg_false ha sa
    rw [rk_pos na sa, a2]
    cases sb : neg b
    · obtain ⟨b1, b2⟩ := neg_false hb sb
      rw [rk_pos nb sb, b2]
      simp only [sg]
      have := @mv_lt_iff a b
      simp; omega
    · obtain ⟨b1, b2⟩ := neg_true hb sb
      rw [rk_neg nb sb]
      simp [sg]; omega
  · obtain ⟨a1, a2⟩ := neg_true ha sa
    rw [rk_neg na sa, a2]
    cases sb : neg b
    · obtain ⟨b1, b2⟩ := neg_false hb sb
      rw [rk_pos nb sb, b2]
      simp [sg]; omega
    · obtain ⟨b1, b2⟩ := neg_true hb sb
      rw [rk_neg nb sb, b2]
      simp only [sg]
      have := @mv_lt_iff (b - 9223372036854775808) (a - 9223372036854775808)
      simp; omega
end Go.Proofs.Ytbfbebcoaaoklaa.Flt

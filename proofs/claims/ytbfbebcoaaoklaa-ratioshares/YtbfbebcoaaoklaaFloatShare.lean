/-
  Plain facts on floats of 64 bits: rounding keeps the order; whole numbers that are floats; rounding down; products of floats that are not below nought. No program in it.
-/
import Derived.Test.YtbfbebcoaaoklaaFloatNum
namespace Go.Proofs.Ytbfbebcoaaoklaa.Flt
open Ieee

/-- to the nearest whole number of 'n / g', between two the even one -/
def rhe (n g : Nat) : Nat := n / g + (if g < 2 * (n % g) ∨ (g = 2 * (n % g) ∧ n / g % 2 = 1) then 1 else 0)

theorem lt_log2 (n : Nat) : n < 2 ^ (n.log2 + 1) := Nat.lt_log2_self

theorem gap_eq (n d : Nat) : n / 2 ^ min d (n.log2 + 2) = n / 2 ^ d ∧ (d ≤ n.log2 + 2 ∨ (n % 2 ^ min d (n.log2 + 2) = n ∧ n % 2 ^ d = n ∧ 2 * n < 2 ^ min d (n.log2 + 2) ∧ 2 * n < 2 ^ d)) := by
  by_cases h : d ≤ n.log2 + 2
  · rw [Nat.min_eq_left h]; exact ⟨rfl, .inl h⟩
  · rw [Nat.min_eq_right (by omega)]
    have h1 := lt_log2 n
    have h2 : 2 ^ (n.log2 + 2) ≤ 2 ^ d := Nat.pow_le_pow_right (by omega) (by omega)
    have h3 : 2 ^ (n.log2 + 2) = 2 * 2 ^ (n.log2 + 1) := by rw [Nat.pow_succ _ (n.log2 + 1)]; omega
    refine ⟨?_, .inr ⟨Nat.mod_eq_of_lt (by omega), Nat.mod_eq_of_lt (by omega), by omega, by omega⟩⟩
    rw [Nat.div_eq_of_lt (by omega), Nat.div_eq_of_lt (by omega)]

theorem cut_even (s : Bool) (n d : Nat) : Toward.even.cut s n d = rhe n (2 ^ d) := by
  obtain ⟨h1, h2⟩ := gap_eq n d
  unfold Toward.cut rhe
  simp only [Nat.shiftLeft_eq, Nat.one_mul, h1]
  congr 1
  rcases h2 with h2 | ⟨h3, h4, h5, h6⟩
  · rw [Nat.min_eq_left h2]
    split
    · rename_i c
      have : (decide (2 ^ d < 2 * (n % 2 ^ d)) || (2 ^ d == 2 * (n % 2 ^ d) && n / 2 ^ d % 2 == 1)) = true := by simpa using c
      rw [this]; rfl
    · rename_i c
      have : (decide (2 ^ d < 2 * (n % 2 ^ d)) || (2 ^ d == 2 * (n % 2 ^ d) && n / 2 ^ d % 2 == 1)) = false := by
        rw [Bool.eq_false_iff]; intro k; exact c (by simpa using k)
      rw [this]; rfl
  · rw [h3, h4, if_neg (by omega)]
    have : (decide (2 ^ min d (n.log2 + 2) < 2 * n) || (2 ^ min d (n.log2 + 2) == 2 * n && n / 2 ^ d % 2 == 1)) = false := by
      rw [Bool.eq_false_iff]; intro k
      have k : 2 ^ min d (n.log2 + 2) < 2 * n ∨ (2 ^ min d (n.log2 + 2) = 2 * n ∧ n / 2 ^ d % 2 = 1) := by simpa using k
      omega
    rw [this]; rfl
theorem cut_down (n d : Nat) : Toward.down.cut false n d = n / 2 ^ d := by
  unfold Toward.cut
  simp only [Nat.shiftLeft_eq, Nat.one_mul, (gap_eq n d).1]
  rfl
theorem cut_zero (s : Bool) (n d : Nat) : Toward.zero.cut s n d = n / 2 ^ d := by
  unfold Toward.cut
  simp only [Nat.shiftLeft_eq, Nat.one_mul, (gap_eq n d).1]
  rfl

theorem rhe_mul (n g c : Nat) (hc : 0 < c) : rhe (n * c) (g * c) = rhe n g := by
  unfold rhe
  rw [Nat.mul_div_mul_right _ _ hc, Nat.mul_mod_mul_right]
  congr 1
  have e : 2 * (n % g * c) = 2 * (n % g) * c := by rw [Nat.mul_assoc]
  rw [e]
  have h1 : g * c < 2 * (n % g) * c ↔ g < 2 * (n % g) := Nat.mul_lt_mul_right hc
  have h2 : g * c = 2 * (n % g) * c ↔ g = 2 * (n % g) := ⟨fun h => Nat.eq_of_mul_eq_mul_right hc h, fun h => by rw [← h]⟩
  simp only [h1, h2]
theorem rhe_one (n : Nat) : rhe n 1 = n := by unfold rhe; simp [Nat.mod_one]
theorem rhe_le (n g : Nat) : rhe n g ≤ n / g + 1 := by unfold rhe; split <;> omega
theorem le_rhe (n g : Nat) : n / g ≤ rhe n g := by unfold rhe; omega
theorem rhe_mono {n m : Nat} (g : Nat) (h : n ≤ m) : rhe n g ≤ rhe m g := by
  have h1 : n / g ≤ m / g := Nat.div_le_div_right h
  by_cases e : n / g < m / g
  · have := rhe_le n g; have := le_rhe m g; omega
  · have e' : n / g = m / g := by omega
    have a := Nat.div_add_mod n g
    have b := Nat.div_add_mod m g
    rw [← e'] at b
    unfold rhe
    rw [← e']
    have : n % g ≤ m % g := by omega
    split <;> split <;> omega

def u1 : Nat := 1074
def u2 : Nat := 2148
def u3 : Nat := 1022
theorem u3_eq : u3 = 1022 := rfl
theorem u1_eq : u1 = 1074 := rfl
theorem u2_eq : u2 = 2148 := rfl
theorem p52 : (2 : Nat) ^ 52 = 4503599627370496 := by decide
theorem p53 : (2 : Nat) ^ 53 = 9007199254740992 := by decide

/-- the float nearest to 'N' units of the square of the least place -/
def F (N : Nat) : Nat := double.nearest false N (-2148)
/-- the place of the last digit that is kept -/
def D (N : Nat) : Nat := max (N.log2 - 52) 1074

theorem word_pos (r : Nat) : double.word false r = r := by unfold Format.word; rw [if_neg (by decide)]
theorem F_zero : F 0 = 0 := rfl
theorem F_eq {N : Nat} (h : N ≠ 0) : F N = min ((D N - 1074) * 4503599627370496 + rhe N (2 ^ D N)) 9218868437227405312 := by
  unfold F Format.nearest
  rw [if_neg h]
  simp only [word_pos, dfb, dlp, dinf, dbin, cut_even]
  have e1 : ((-2148 : Int) - max (-2148 + (N.log2 : Int) - (52 : Nat)) (-1074)).toNat = 0 := by omega
  have e2 : (max (-2148 + (N.log2 : Int) - (52 : Nat)) (-1074) - -2148).toNat = D N := by unfold D; omega
  have e3 : (max (-2148 + (N.log2 : Int) - (52 : Nat)) (-1074) - -1074).toNat = D N - 1074 := by unfold D; omega
  rw [e1, e2, e3, Nat.shiftLeft_zero]

theorem log2_le {a b : Nat} (ha : a ≠ 0) (h : a ≤ b) : a.log2 ≤ b.log2 := by
  have h1 := Nat.log2_self_le ha
  exact (Nat.le_log2 (by omega)).2 (by omega)
theorem log2_shift {m : Nat} (k : Nat) (h : m ≠ 0) : (m * 2 ^ k).log2 = m.log2 + k := by
  have h1 := Nat.log2_self_le h
  have h2 := lt_log2 m
  have hp : 0 < 2 ^ k := Nat.two_pow_pos k
  have hne : m * 2 ^ k ≠ 0 := Nat.mul_ne_zero h (by omega)
  have u : m.log2 + k ≤ (m * 2 ^ k).log2 := (Nat.le_log2 hne).2 (by rw [Nat.pow_add]; exact Nat.mul_le_mul_right _ h1)
  have v : (m * 2 ^ k).log2 < m.log2 + 1 + k := (Nat.log2_lt hne).2 (by rw [Nat.pow_add _ _ k]; exact Nat.mul_lt_mul_of_pos_right h2 hp)
  omega

theorem rhe_top {N : Nat} : rhe N (2 ^ D N) ≤ 9007199254740992 := by
  have h1 := rhe_le N (2 ^ D N)
  have h2 : N / 2 ^ D N < 9007199254740992 := by
    rw [Nat.div_lt_iff_lt_mul (Nat.two_pow_pos _)]
    have h3 := lt_log2 N
    have h4 : 2 ^ (N.log2 + 1) ≤ 2 ^ (53 + D N) := Nat.pow_le_pow_right (by omega) (by unfold D; omega)
    have h5 : 2 ^ (53 + D N) = 9007199254740992 * 2 ^ D N := by rw [Nat.pow_add, p53]
    omega
  omega
theorem rhe_low {N : Nat} (h : N ≠ 0) (hd : 1074 < D N) : 4503599627370496 ≤ rhe N (2 ^ D N) := by
  have h1 := le_rhe N (2 ^ D N)
  have h2 : 4503599627370496 ≤ N / 2 ^ D N := by
    rw [Nat.le_div_iff_mul_le (Nat.two_pow_pos _)]
    have h3 := Nat.log2_self_le h
    have h4 : N.log2 = 52 + D N := by unfold D at *; omega
    rw [h4, Nat.pow_add, p52] at h3
    exact h3
  omega

theorem min_up {a b c : Nat} (h : a ≤ b) : min a c ≤ min b c := by omega
theorem F_mono {N M : Nat} (h : N ≤ M) : F N ≤ F M := by
  by_cases hn : N = 0
  · subst hn; rw [F_zero]; omega
  · have hm : M ≠ 0 := by omega
    rw [F_eq hn, F_eq hm]
    have hl := log2_le hn h
    have hd : D N ≤ D M := by unfold D; omega
    refine min_up ?_
    by_cases e : D N = D M
    · rw [e]; have := rhe_mono (2 ^ D M) h; omega
    · have a := @rhe_top N
      have c : 1074 ≤ D N := by unfold D; omega
      have b := rhe_low hm (by omega)
      omega
theorem F_le (N : Nat) : F N ≤ 9218868437227405312 := by
  by_cases h : N = 0
  · subst h; rw [F_zero]; omega
  · rw [F_eq h]; exact Nat.min_le_right _ _

theorem near_F (m : Nat) (k : Nat) : double.nearest false m (-2148 + (k : Int)) = F (m * 2 ^ k) := by
  by_cases h : m = 0
  · subst h; rw [Nat.zero_mul, F_zero]; unfold Format.nearest; rw [if_pos rfl]; rfl
  · have hne : m * 2 ^ k ≠ 0 := Nat.mul_ne_zero h (by have := Nat.two_pow_pos k; omega)
    rw [F_eq hne]
    unfold Format.nearest
    rw [if_neg h]
    simp only [word_pos, dfb, dlp, dinf, dbin, cut_even, Nat.shiftLeft_eq]
    have L := log2_shift k h
    have e0 : max (-2148 + (k : Int) + (m.log2 : Int) - (52 : Nat)) (-1074) = (D (m * 2 ^ k) : Int) - 2148 := by unfold D; rw [L]; omega
    rw [e0]
    have e4 : 1074 ≤ D (m * 2 ^ k) := by unfold D; omega
    have e3 : ((D (m * 2 ^ k) : Int) - 2148 - -1074).toNat = D (m * 2 ^ k) - 1074 := by omega
    rw [e3]
    congr 2
    by_cases c : D (m * 2 ^ k) ≤ k
    · have e1 : (-2148 + (k : Int) - ((D (m * 2 ^ k) : Int) - 2148)).toNat = k - D (m * 2 ^ k) := by omega
      have e2 : ((D (m * 2 ^ k) : Int) - 2148 - (-2148 + (k : Int))).toNat = 0 := by omega
      rw [e1, e2]
      generalize D (m * 2 ^ k) = d at *
      have hk : m * 2 ^ k = m * 2 ^ (k - d) * 2 ^ d := by rw [Nat.mul_assoc, ← Nat.pow_add]; congr 2; omega
      rw [hk]
      have := rhe_mul (m * 2 ^ (k - d)) 1 (2 ^ d) (Nat.two_pow_pos d)
      rw [Nat.one_mul] at this
      rw [this, Nat.pow_zero]
    · have e1 : (-2148 + (k : Int) - ((D (m * 2 ^ k) : Int) - 2148)).toNat = 0 := by omega
      have e2 : ((D (m * 2 ^ k) : Int) - 2148 - (-2148 + (k : Int))).toNat = D (m * 2 ^ k) - k := by omega
      rw [e1, e2]
      generalize D (m * 2 ^ k) = d at *
      have hd : 2 ^ d = 2 ^ (d - k) * 2 ^ k := by rw [← Nat.pow_add]; congr 1; omega
      rw [hd, rhe_mul _ _ _ (Nat.two_pow_pos k), Nat.pow_zero, Nat.mul_one]

/-- one, in units -/
def one : Nat := 2 ^ u1
theorem one_pos : 0 < one := Nat.two_pow_pos _

theorem near_whole (n : Nat) : double.nearest false n 0 = F (n * 2 ^ u2) := near_F n u2

theorem whole_val {n : Nat} (h : n < 9007199254740992) : mv (F (n * 2 ^ u2)) = n * one ∧ F (n * 2 ^ u2) < 9218868437227405312 := by
  by_cases h0 : n = 0
  · subst h0; rw [Nat.zero_mul, F_zero, mv_zero, Nat.zero_mul]; exact ⟨rfl, by omega⟩
  · have hne : n * 2 ^ u2 ≠ 0 := Nat.mul_ne_zero h0 (by have := Nat.two_pow_pos u2; omega)
    have hl : n.log2 < 53 := (Nat.log2_lt h0).2 h
    have L := log2_shift u2 h0
    have hd : D (n * 2 ^ u2) = n.log2 + 2096 := by unfold D; rw [L]; have := u2_eq; omega
    have h1 := Nat.log2_self_le h0
    have h2 := lt_log2 n
    have ek : rhe (n * 2 ^ u2) (2 ^ (n.log2 + 2096)) = n * 2 ^ (52 - n.log2) := by
      have e1 : n * 2 ^ u2 = n * 2 ^ (52 - n.log2) * 2 ^ (n.log2 + 2096) := by rw [Nat.mul_assoc, ← Nat.pow_add, show 52 - n.log2 + (n.log2 + 2096) = u2 by have := u2_eq; omega]
      have := rhe_mul (n * 2 ^ (52 - n.log2)) 1 (2 ^ (n.log2 + 2096)) (Nat.two_pow_pos _)
      rw [Nat.one_mul] at this
      rw [e1, this, rhe_one]
    have lo : 4503599627370496 ≤ n * 2 ^ (52 - n.log2) := by
      have : 2 ^ n.log2 * 2 ^ (52 - n.log2) = 4503599627370496 := by rw [← Nat.pow_add, show n.log2 + (52 - n.log2) = 52 by omega, p52]
      rw [← this]; exact Nat.mul_le_mul_right _ h1
    have hi : n * 2 ^ (52 - n.log2) < 9007199254740992 := by
      have : 2 ^ (n.log2 + 1) * 2 ^ (52 - n.log2) = 9007199254740992 := by rw [← Nat.pow_add, show n.log2 + 1 + (52 - n.log2) = 53 by omega, p53]
      rw [← this]; exact Nat.mul_lt_mul_of_pos_right h2 (Nat.two_pow_pos _)
    rw [F_eq hne, hd, ek]
    have es : n.log2 + 2096 - 1074 = n.log2 + 1022 := by omega
    rw [es]
    have small : (n.log2 + 1022) * 4503599627370496 + n * 2 ^ (52 - n.log2) < 9218868437227405312 := by omega
    rw [Nat.min_eq_left (by omega)]
    refine ⟨?_, small⟩
    rw [mv_rung _ _ (.inr ⟨lo, by omega⟩), Nat.mul_assoc, ← Nat.pow_add]
    unfold one
    rw [show 52 - n.log2 + (n.log2 + 1022) = u1 by have := u1_eq; omega]

/-- the product of two floats that are numbers and not below nought -/
theorem mul_pos {x y : Nat} (hx : x < 9218868437227405312) (hy : y < 9218868437227405312) : double.mul x y = some (F (mv x * mv y)) := by
  obtain ⟨m, k, rx, vx⟩ := read_fin (b := x) (by omega)
  obtain ⟨n, l, ry, vy⟩ := read_fin (b := y) (by omega)
  have sx : neg x = false := by simp [neg]; omega
  have sy : neg y = false := by simp [neg]; omega
  rw [show x % 9223372036854775808 = x by omega] at vx
  rw [show y % 9223372036854775808 = y by omega] at vy
  unfold Format.mul
  rw [rx, ry, sx, sy, ← vx, ← vy]
  have e : (-1074 + (k : Int)) + (-1074 + (l : Int)) = -2148 + ((k + l : Nat) : Int) := by omega
  show some (double.nearest false (m * n) ((-1074 + (k : Int)) + (-1074 + (l : Int)))) = _
  rw [e, near_F]
  congr 2
  rw [Nat.pow_add, Nat.mul_assoc, Nat.mul_assoc, Nat.mul_left_comm n]

/-- rounded down -/
def fl (p : Nat) : Nat := mv p / one

theorem cut_fin (way : Toward) (hw : ∀ n d, way.cut false n d = n / 2 ^ d) {p : Nat} (h : p < 9218868437227405312) : (double.read p).integral way = .number false (fl p) 0 := by
  obtain ⟨m, k, rp, vp⟩ := read_fin (b := p) (by omega)
  have sp : neg p = false := by simp [neg]; omega
  rw [show p % 9223372036854775808 = p by omega] at vp
  rw [rp, sp]
  show Datum.number false (way.cut false (m <<< (-1074 + (k : Int)).toNat) (-(-1074 + (k : Int))).toNat) 0 = _
  rw [hw, Nat.shiftLeft_eq]
  congr 1
  unfold fl one
  rw [← vp]
  by_cases c : 1074 ≤ k
  · rw [show (-1074 + (k : Int)).toNat = k - 1074 by omega, show (-(-1074 + (k : Int))).toNat = 0 by omega, Nat.pow_zero, Nat.div_one]
    have : m * 2 ^ k = m * 2 ^ (k - 1074) * 2 ^ u1 := by rw [Nat.mul_assoc, ← Nat.pow_add, show k - 1074 + u1 = k by have := u1_eq; omega]
    rw [this, Nat.mul_div_cancel _ (Nat.two_pow_pos _)]
  · rw [show (-1074 + (k : Int)).toNat = 0 by omega, show (-(-1074 + (k : Int))).toNat = 1074 - k by omega, Nat.pow_zero, Nat.mul_one]
    have : 2 ^ u1 = 2 ^ (1074 - k) * 2 ^ k := by rw [← Nat.pow_add, show 1074 - k + k = u1 by have := u1_eq; omega]
    rw [this, Nat.mul_div_mul_right _ _ (Nat.two_pow_pos _)]

theorem floor_word {p : Nat} (h : p < 9218868437227405312) : double.write ((double.read p).integral .down) = F (fl p * 2 ^ u2) := by
  rw [cut_fin .down cut_down h]
  exact near_whole _
theorem dec64 (b : Nat) : FloatKind.f64.decode b = double.read b := rfl
theorem toInt_num {d : Datum} {m : Nat} (h : d.integral .zero = .number false m 0) : d.toInt .zero = some (m : Int) := by
  unfold Datum.toInt
  rw [h]
  show some (signed false m 0) = _
  rw [signed_sg]; simp [sg]
theorem int_e {q : Nat} (h : q ≤ 2147483648) : (double.read (F (q * 2 ^ u2))).toInt .zero = some (q : Int) := by
  obtain ⟨v, hlt⟩ := whole_val (n := q) (by omega)
  have e := cut_fin .zero (cut_zero false) hlt
  have : fl (F (q * 2 ^ u2)) = q := by unfold fl; rw [v, Nat.mul_div_cancel _ one_pos]
  rw [this] at e
  exact toInt_num e
theorem ftoi {b : Nat} {q : Int} (h : (FloatKind.f64.decode b).toInt .zero = some q) (h1 : -9223372036854775808 ≤ q) (h2 : q ≤ 9223372036854775807) : floatToIntVal .f64 b .i64 = some q := by
  unfold floatToIntVal
  rw [h]
  exact if_pos ⟨h1, h2⟩
theorem int_whole {q : Nat} (h : q ≤ 2147483648) : floatToIntVal .f64 (F (q * 2 ^ u2)) .i64 = some (q : Int) :=
  ftoi (by rw [dec64]; exact int_e h) (by omega) (by omega)
/-- a share: 'w' is a float from +0 to 1 -/
def shr (n w : Nat) : Nat := fl (F (mv w * (n * one)))
theorem one_word : mv 4607182418800017408 = one := by
  have h := mv_rung u3 4503599627370496 (.inr (by omega))
  have e : u3 * 4503599627370496 + 4503599627370496 = 4607182418800017408 := by rw [u3_eq]
  rw [e] at h
  rw [h]; unfold one
  have e2 : 52 + u3 = u1 := by rw [u3_eq, u1_eq]
  rw [← p52, ← Nat.pow_add, e2]
theorem one_sq : one * one = 2 ^ u2 := by
  unfold one
  rw [← Nat.pow_add, show u1 + u1 = u2 by have := u2_eq; have := u1_eq; omega]
theorem prod_le {n w : Nat} (hw : w ≤ 4607182418800017408) : mv w * (n * one) ≤ n * 2 ^ u2 := by
  have h1 := mv_le hw
  rw [one_word] at h1
  have : one * (n * one) = n * 2 ^ u2 := by rw [Nat.mul_left_comm, one_sq]
  rw [← this]; exact Nat.mul_le_mul_right _ h1
theorem prod_word {n w : Nat} (hw : w ≤ 4607182418800017408) (hn : n ≤ 2147483648) : F (mv w * (n * one)) < 9218868437227405312 := by
  have h1 := F_mono (prod_le (n := n) hw)
  have h2 := (whole_val (n := n) (by omega)).2
  omega
theorem shr_le {n w : Nat} (hw : w ≤ 4607182418800017408) (hn : n ≤ 2147483648) : shr n w ≤ n := by
  have h1 := mv_le (F_mono (prod_le (n := n) hw))
  rw [(whole_val (n := n) (by omega)).1] at h1
  unfold shr fl
  have := Nat.div_le_div_right (c := one) h1
  rwa [Nat.mul_div_cancel _ one_pos] at this
theorem shr_mono {n w v : Nat} (h : w ≤ v) : shr n w ≤ shr n v := by
  unfold shr fl
  exact Nat.div_le_div_right (mv_le (F_mono (Nat.mul_le_mul_right _ (mv_le h))))
end Go.Proofs.Ytbfbebcoaaoklaa.Flt

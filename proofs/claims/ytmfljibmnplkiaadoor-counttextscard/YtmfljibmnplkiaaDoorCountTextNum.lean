/-
  Plain facts on texts of numbers (no program in sight): what the library's Atoi and the reference's Read make of the text of a number.
-/
import Derived.Test.YtmfljibmnplkiaaDoorCountNum
import Derived.Lib.ItoaMem
import Derived.Lib.ItoaLen
import Derived.Lib.AtoiAll
namespace Go.Proofs.YtmfljibmnplkiaaDoor.Num
open Go.RowKit Go.Lib

abbrev isDig (c : UInt8) : Prop := 48 ≤ c.toNat ∧ c.toNat ≤ 57
def val (acc : Nat) : List UInt8 → Nat
  | [] => acc
  | c :: r => val (acc * 10 + (c.toNat - 48)) r
theorem val_append (acc : Nat) (a b : List UInt8) : val acc (a ++ b) = val (val acc a) b := by
  induction a generalizing acc with
  | nil => rfl
  | cons c r ih => exact ih _
theorem val_ge (acc : Nat) (l : List UInt8) : acc ≤ val acc l := by
  induction l generalizing acc with
  | nil => exact Nat.le_refl _
  | cons c r ih => have := ih (acc * 10 + (c.toNat - 48)); unfold val; omega
theorem dig_toNat (d : Nat) (h : d < 10) : (UInt8.ofNat (48 + d)).toNat = 48 + d := by
  rw [UInt8.toNat_ofNat']; omega
theorem digits_dig (u : Nat) : ∀ c ∈ decDigits u, isDig c := by
  induction u using Nat.strongRecOn with
  | _ u ih =>
    intro c hc
    rw [decDigits] at hc
    split at hc
    · rename_i h
      have hc := List.mem_singleton.1 hc; subst hc
      unfold isDig; rw [dig_toNat u h]; omega
    · rename_i h
      rcases List.mem_append.1 hc with hc | hc
      · exact ih (u / 10) (by omega) c hc
      · have hc := List.mem_singleton.1 hc; subst hc
        unfold isDig; rw [dig_toNat _ (by omega)]; omega
theorem digits_val (u : Nat) : val 0 (decDigits u) = u := by
  induction u using Nat.strongRecOn with
  | _ u ih =>
    rw [decDigits]
    split
    · rename_i h
      show 0 * 10 + _ = u
      rw [dig_toNat u h]; omega
    · rename_i h
      rw [val_append, ih (u / 10) (by omega)]
      show u / 10 * 10 + _ = u
      rw [dig_toNat _ (by omega)]; omega
theorem digits_ne (u : Nat) : decDigits u ≠ [] := by
  intro h
  have := decDigits_length u
  have := nDigits_pos u
  rw [h] at *; simp at *; omega
theorem nDigits_le (k u : Nat) (h : u < 10 ^ (k + 1)) : nDigits u ≤ k + 1 := by
  induction k generalizing u with
  | zero => rw [nDigits_small (by simpa using h)]; omega
  | succ k ih =>
    by_cases c : u < 10
    · rw [nDigits_small c]; omega
    · rw [nDigits_big c]
      have := ih (u / 10) (by rw [Nat.pow_succ] at h; omega)
      omega
theorem digits_len (u : Nat) (h : u ≤ 9223372036854775808) : (decDigits u).length ≤ 19 := by
  rw [decDigits_length]; exact nDigits_le 18 u (by omega)

/-- the parse of digits that spell a number of 64 bits -/
theorem parse_digits (l : List UInt8) (acc : Nat) (hd : ∀ c ∈ l, isDig c) (h : val acc l < 18446744073709551616) : parseUint10 acc l = .ok (val acc l) := by
  induction l generalizing acc with
  | nil => rfl
  | cons c r ih =>
    have hc : isDig c := hd c (by simp)
    have hv : val (acc * 10 + (c.toNat - 48)) r < 18446744073709551616 := h
    have hg := val_ge (acc * 10 + (c.toNat - 48)) r
    unfold isDig at hc
    unfold parseUint10
    rw [if_pos hc, if_neg (by omega), if_neg (by omega), ih _ (fun c h => hd c (by simp [h])) hv]
    rfl
theorem parse_mag (u : Nat) (h : u < 18446744073709551616) : parseMag (decDigits u) = .ok u := by
  unfold parseMag
  rw [if_neg (digits_ne u), parse_digits _ _ (digits_dig u) (by rw [digits_val]; exact h), digits_val]

theorem atoi_itoa (n : Int) (h1 : -9223372036854775808 ≤ n) (h2 : n ≤ 9223372036854775807) : atoiAll (itoa n) = .ok n := by
  unfold itoa
  by_cases c : n < 0
  · rw [if_pos c]
    unfold atoiAll
    have e45 : (45 : UInt8).toNat = 45 := rfl
    simp only [e45]
    rw [if_pos (Or.inr trivial), parse_mag _ (by omega)]
    simp only
    rw [if_neg (by simp), if_neg (by omega), if_pos trivial]
    congr 1; omega
  · rw [if_neg c]
    have hm := parse_mag n.toNat (by omega)
    have hd := digits_dig n.toNat
    cases hl : decDigits n.toNat with
    | nil => exact absurd hl (digits_ne _)
    | cons x r =>
      rw [hl] at hm hd
      have hx := hd x (by simp)
      unfold isDig at hx
      unfold atoiAll
      simp only
      rw [if_neg (by omega), hm]
      simp only
      rw [if_neg (by omega), if_neg (by omega), if_neg (by omega)]
      congr 1; omega

def dgt (t : List UInt8) (k : Nat) : Int := ((t.getD k 0).toNat : Int) - 48
/-- what the reference's loop has gathered behind k digits -/
def rd (neg : Bool) (t : List UInt8) : Nat → Int
  | 0 => 0
  | k + 1 => sat (sat (rd neg t k * 10) + (if neg then -(dgt t k) else dgt t k))
theorem rd_bd (neg : Bool) (t : List UInt8) (k : Nat) : -9223372036854775808 ≤ rd neg t k ∧ rd neg t k ≤ 9223372036854775807 := by
  cases k with
  | zero => unfold rd; omega
  | succ k => unfold rd; exact sat_bd _

theorem val_take_le (t : List UInt8) (k : Nat) : val 0 (t.take k) ≤ val 0 t := by
  conv => rhs; rw [← List.take_append_drop k t, val_append]
  exact val_ge _ _
theorem rd_val (neg : Bool) (t : List UInt8) (hd : ∀ c ∈ t, isDig c) (hp : neg = false → val 0 t ≤ 9223372036854775807) (hn : val 0 t ≤ 9223372036854775808) (k : Nat) (hk : k ≤ t.length) :
    rd neg t k = if neg then -(val 0 (t.take k) : Int) else (val 0 (t.take k) : Int) := by
  induction k with
  | zero => cases neg <;> rfl
  | succ k ih =>
    have hlt : k < t.length := by omega
    have e : t.take (k + 1) = t.take k ++ [t[k]] := List.take_succ_eq_append_getElem hlt
    have hc : isDig t[k] := hd _ (List.getElem_mem hlt)
    have hg : t.getD k 0 = t[k] := by simp [List.getD, hlt]
    have hv : val 0 (t.take (k + 1)) = val 0 (t.take k) * 10 + (t[k].toNat - 48) := by rw [e, val_append]; rfl
    have hle := val_take_le t (k + 1)
    unfold rd dgt
    rw [ih (by omega), hg]
    unfold isDig at hc
    cases neg with
    | true =>
      simp only [if_true]
      rw [sat_in (-(val 0 (t.take k) : Int) * 10) (by omega) (by omega), sat_in _ (by omega) (by omega)]
      omega
    | false =>
      have := hp rfl
      simp only [Bool.false_eq_true, if_false]
      rw [sat_in ((val 0 (t.take k) : Int) * 10) (by omega) (by omega), sat_in _ (by omega) (by omega)]
      omega

/-- the reference's Read, as a function of lists -/
def hd45 (l : List UInt8) : Bool := l.head? == some 45
def behind (l : List UInt8) : List UInt8 := if hd45 l then l.tail else l
def readL (l : List UInt8) : Int × Bool :=
  if (behind l).length = 0 ∨ 19 < (behind l).length then (0, false)
  else if ∀ c ∈ behind l, isDig c then (rd (hd45 l) (behind l) (behind l).length, decide (itoa (rd (hd45 l) (behind l) (behind l).length) = l))
  else (0, false)

theorem read_itoa (n : Int) (h1 : -9223372036854775808 ≤ n) (h2 : n ≤ 9223372036854775807) : readL (itoa n) = (n, true) := by
  have key : hd45 (itoa n) = decide (n < 0) ∧ behind (itoa n) = decDigits n.natAbs := by
    unfold itoa
    by_cases c : n < 0
    · rw [if_pos c]; exact ⟨by simp [hd45, c], by simp [behind, hd45]⟩
    · rw [if_neg c]
      have hd := digits_dig n.toNat
      have hne : hd45 (decDigits n.toNat) = false := by
        cases hl : decDigits n.toNat with
        | nil => exact absurd hl (digits_ne _)
        | cons x r =>
          rw [hl] at hd
          have hx := hd x (by simp)
          unfold isDig at hx
          unfold hd45
          simp
          intro h; subst h; simp at hx
      refine ⟨by rw [hne]; simp [c], ?_⟩
      unfold behind; rw [hne]; simp; congr 1; omega
  obtain ⟨k1, k2⟩ := key
  have hlen := digits_len n.natAbs (by omega)
  have hne := digits_ne n.natAbs
  have hd := digits_dig n.natAbs
  have hv := digits_val n.natAbs
  have hpos : (decDigits n.natAbs).length ≠ 0 := by intro h; exact hne (List.length_eq_zero_iff.1 h)
  have hr : rd (decide (n < 0)) (decDigits n.natAbs) (decDigits n.natAbs).length = n := by
    rw [rd_val _ _ hd (by intro h; simp at h; omega) (by omega) _ (Nat.le_refl _), List.take_length, hv]
    by_cases c : n < 0
    · simp [c]; omega
    · simp [c]; omega
  unfold readL
  rw [k1, k2, if_neg (by omega), if_pos hd, hr]
  simp
theorem read_no (l : List UInt8) (h : ∀ n : Int, -9223372036854775808 ≤ n → n ≤ 9223372036854775807 → itoa n ≠ l) : (readL l).2 = false := by
  unfold readL
  split
  · rfl
  · split
    · have b := rd_bd (hd45 l) (behind l) (behind l).length
      simp; exact h _ b.1 b.2
    · rfl
/-- count.Parse, as a function of lists -/
def IsNum (l : List UInt8) (n : Int) : Prop := -9223372036854775808 ≤ n ∧ n ≤ 9223372036854775807 ∧ itoa n = l
end Go.Proofs.YtmfljibmnplkiaaDoor.Num

/-
  Plain facts on octets as numbers and as digits. No conditions.
-/
import Derived.Laws.BitsAllLaws
namespace Go.Proofs.YthclgehifomkhaaDoor.Oc

/-- the number that octets tell, the lowest first -/
def num : List UInt8 → Nat
  | [] => 0
  | x :: xs => x.toNat + 256 * num xs

/-- a number's octets, so many -/
def octs (n : Nat) : Nat → List UInt8
  | 0 => []
  | k + 1 => UInt8.ofNat n :: octs (n / 256) k

theorem octs_length (n k : Nat) : (octs n k).length = k := by
  induction k generalizing n with
  | zero => rfl
  | succ k ih => simp [octs, ih]

theorem pow_step (k : Nat) : 256 ^ (k + 1) = 256 * 256 ^ k := by rw [Nat.pow_succ, Nat.mul_comm]

theorem octs_succ (n k : Nat) : octs n (k + 1) = octs n k ++ [UInt8.ofNat (n / 256 ^ k)] := by
  induction k generalizing n with
  | zero => simp [octs]
  | succ k ih =>
    show UInt8.ofNat n :: octs (n / 256) (k + 1) = (UInt8.ofNat n :: octs (n / 256) k) ++ _
    rw [ih, List.cons_append, Nat.div_div_eq_div_mul, pow_step]

theorem num_lt (xs : List UInt8) : num xs < 256 ^ xs.length := by
  induction xs with
  | nil => simp [num]
  | cons x xs ih =>
    have := x.toNat_lt
    simp only [num, List.length_cons, pow_step]
    omega

theorem num_snoc (xs : List UInt8) (x : UInt8) : num (xs ++ [x]) = num xs + x.toNat * 256 ^ xs.length := by
  induction xs with
  | nil => simp [num]
  | cons y xs ih =>
    simp only [List.cons_append, num, ih, List.length_cons, pow_step, Nat.mul_add]
    rw [Nat.mul_left_comm, Nat.add_assoc]

theorem num_octs (n k : Nat) : num (octs n k) = n % 256 ^ k := by
  induction k generalizing n with
  | zero => simp [octs, num, Nat.mod_one]
  | succ k ih =>
    simp only [octs, num, ih, pow_step]
    have h : (UInt8.ofNat n).toNat = n % 256 := by simp
    rw [h, Nat.mod_mul]

theorem num_cons (x : UInt8) (xs : List UInt8) : num (x :: xs) = x.toNat + 256 * num xs := rfl
theorem num_drop (xs : List UInt8) (k : Nat) (x : UInt8) (h : xs[k]? = some x) : num (xs.drop k) = x.toNat + 256 * num (xs.drop (k + 1)) := by
  obtain ⟨hk, hx⟩ := List.getElem?_eq_some_iff.1 h
  rw [List.drop_eq_getElem_cons hk, num_cons, hx]
theorem num_take (xs : List UInt8) (k : Nat) (x : UInt8) (h : xs[k]? = some x) : num (xs.take (k + 1)) = num (xs.take k) + x.toNat * 256 ^ k := by
  obtain ⟨hk, hx⟩ := List.getElem?_eq_some_iff.1 h
  rw [List.take_succ_eq_append_getElem hk, num_snoc, hx, List.length_take, Nat.min_eq_left (by omega)]
theorem pow8 (k : Nat) : 256 ^ k = 2 ^ (8 * k) := by rw [Nat.pow_mul]
theorem pow_le8 {k : Nat} (h : k ≤ 8) : 256 ^ k ≤ 18446744073709551616 := by
  have := Nat.pow_le_pow_right (n := 256) (by decide) h
  simpa using this
theorem num_lt8 (xs : List UInt8) (h : xs.length ≤ 8) : num xs < 18446744073709551616 := Nat.lt_of_lt_of_le (num_lt xs) (pow_le8 h)

/-- a number, and an octet above all its bits -/
theorem or_num (a x k : Nat) (ha : a < 256 ^ k) : a ||| (x * 256 ^ k) = a + x * 256 ^ k := by
  rw [Nat.or_comm, Nat.add_comm]
  rw [pow8] at ha ⊢
  exact nat_join (8 * k) _ _ (Nat.mul_mod_left _ _) ha
theorem shl_num (x : UInt8) (k : Nat) (h : k < 8) : x.toNat * 256 ^ k < 18446744073709551616 := by
  have h1 := x.toNat_lt
  have h2 : x.toNat * 256 ^ k < 256 * 256 ^ k := Nat.mul_lt_mul_of_pos_right h1 (Nat.pow_pos (by decide))
  have h3 := pow_le8 (k := k + 1) (by omega)
  rw [pow_step] at h3
  omega

/-- THE DIGITS -/
def hexd (k : Nat) : UInt8 := UInt8.ofNat (if k < 10 then 48 + k else 87 + k)
def dig (c : UInt8) : Option Nat := if 48 ≤ c.toNat ∧ c.toNat ≤ 57 then some (c.toNat - 48) else if 97 ≤ c.toNat ∧ c.toNat ≤ 102 then some (c.toNat - 87) else none
theorem hexd_nat {k : Nat} (h : k < 16) : (hexd k).toNat = if k < 10 then 48 + k else 87 + k := by
  unfold hexd
  split <;> simp <;> omega
theorem dig_hexd {k : Nat} (h : k < 16) : dig (hexd k) = some k := by
  unfold dig
  rw [hexd_nat h]
  by_cases h10 : k < 10
  · rw [if_pos h10, if_pos (by omega)]; congr 1; omega
  · rw [if_neg h10, if_neg (by omega), if_pos (by omega)]; congr 1; omega
theorem dig_lt {c : UInt8} {k : Nat} (h : dig c = some k) : k < 16 := by
  unfold dig at h
  split at h
  · injection h; omega
  · split at h
    · injection h; omega
    · cases h
theorem hexd_dig {c : UInt8} {k : Nat} (h : dig c = some k) : c = hexd k := by
  have hk := dig_lt h
  apply UInt8.toNat_inj.1
  rw [hexd_nat hk]
  unfold dig at h
  split at h
  · injection h; rw [if_pos (by omega)]; omega
  · split at h
    · injection h; rw [if_neg (by omega)]; omega
    · cases h

def hexOf : List UInt8 → List UInt8
  | [] => []
  | x :: xs => hexd (x.toNat / 16) :: hexd (x.toNat % 16) :: hexOf xs
theorem hexOf_append (xs ys : List UInt8) : hexOf (xs ++ ys) = hexOf xs ++ hexOf ys := by
  induction xs with
  | nil => rfl
  | cons x xs ih => simp [hexOf, ih]
theorem hexOf_length (xs : List UInt8) : (hexOf xs).length = 2 * xs.length := by
  induction xs with
  | nil => rfl
  | cons x xs ih => simp [hexOf, ih]; omega
theorem hexOf_take (xs : List UInt8) (k : Nat) (x : UInt8) (h : xs[k]? = some x) : hexOf (xs.take (k + 1)) = hexOf (xs.take k) ++ [hexd (x.toNat / 16), hexd (x.toNat % 16)] := by
  obtain ⟨hk, hx⟩ := List.getElem?_eq_some_iff.1 h
  rw [List.take_succ_eq_append_getElem hk, hexOf_append, hx]
  rfl

def join16 (x y : Nat) : UInt8 := UInt8.ofNat (16 * x + y)
def pair (a b : UInt8) : Option UInt8 := match dig a, dig b with | some x, some y => some (join16 x y) | _, _ => none
def unhex : List UInt8 → Option (List UInt8)
  | [] => some []
  | [_] => none
  | a :: b :: r => match pair a b, unhex r with | some x, some out => some (x :: out) | _, _ => none
theorem unhex_cons2 (a b : UInt8) (r : List UInt8) : unhex (a :: b :: r) = match pair a b, unhex r with | some x, some out => some (x :: out) | _, _ => none := rfl
theorem pair_some {a b : UInt8} {x y : Nat} (h1 : dig a = some x) (h2 : dig b = some y) : pair a b = some (join16 x y) := by simp [pair, h1, h2]
theorem pair_none_l {a b : UInt8} (h1 : dig a = none) : pair a b = none := by simp [pair, h1]
theorem pair_none_r {a b : UInt8} (h1 : dig b = none) : pair a b = none := by unfold pair; rw [h1]; split <;> simp_all
theorem unhex_length : ∀ {s out : List UInt8}, unhex s = some out → s.length = 2 * out.length
  | [], out, h => by simp [unhex] at h; subst h; rfl
  | [_], out, h => by simp [unhex] at h
  | a :: b :: r, out, h => by
    unfold unhex at h
    split at h
    · rename_i x o h1 h2
      injection h with h
      subst h
      have := unhex_length h2
      simp; omega
    · cases h
theorem unhex_append : ∀ {s out : List UInt8} (t : List UInt8), unhex s = some out → unhex (s ++ t) = (unhex t).map (out ++ ·)
  | [], out, t, h => by simp [unhex] at h; subst h; simp
  | [_], out, t, h => by simp [unhex] at h
  | a :: b :: r, out, t, h => by
    unfold unhex at h
    split at h
    · rename_i x o h1 h2
      injection h with h
      subst h
      have ih := unhex_append t h2
      show unhex (a :: b :: (r ++ t)) = _
      rw [unhex_cons2, h1, ih]
      cases unhex t <;> simp
    · cases h
theorem unhex_hexOf (xs : List UInt8) : unhex (hexOf xs) = some xs := by
  induction xs with
  | nil => rfl
  | cons x xs ih =>
    have hx := x.toNat_lt
    have h1 := dig_hexd (k := x.toNat / 16) (by omega)
    have h2 := dig_hexd (k := x.toNat % 16) (by omega)
    simp only [hexOf, unhex, pair_some h1 h2, ih]
    congr 2
    unfold join16
    rw [Nat.div_add_mod]
    exact UInt8.ofNat_toNat
theorem unhex_odd {s : List UInt8} (h : s.length % 2 ≠ 0) : unhex s = none := by
  rcases e : unhex s with _ | out
  · rfl
  · have := unhex_length e; omega
/-- two signs more -/
theorem unhex_two {s : List UInt8} {k : Nat} {out : List UInt8} {a b x : UInt8} (h : unhex (s.take (2 * k)) = some out) (ha : s[2 * k]? = some a) (hb : s[2 * k + 1]? = some b) (hp : pair a b = some x) :
    unhex (s.take (2 * (k + 1))) = some (out ++ [x]) := by
  obtain ⟨ka, xa⟩ := List.getElem?_eq_some_iff.1 ha
  obtain ⟨kb, xb⟩ := List.getElem?_eq_some_iff.1 hb
  have e : s.take (2 * (k + 1)) = s.take (2 * k) ++ [a, b] := by
    rw [show 2 * (k + 1) = 2 * k + 1 + 1 by omega, List.take_succ_eq_append_getElem kb, List.take_succ_eq_append_getElem ka, xa, xb]
    simp
  rw [e, unhex_append _ h]
  simp [unhex, hp]
theorem unhex_fail {s : List UInt8} {k : Nat} {out : List UInt8} {a b : UInt8} (h : unhex (s.take (2 * k)) = some out) (ha : s[2 * k]? = some a) (hb : s[2 * k + 1]? = some b) (hp : pair a b = none) : unhex s = none := by
  obtain ⟨ka, xa⟩ := List.getElem?_eq_some_iff.1 ha
  obtain ⟨kb, xb⟩ := List.getElem?_eq_some_iff.1 hb
  have e : s = s.take (2 * k) ++ (a :: b :: s.drop (2 * k + 1 + 1)) := by
    conv => lhs; rw [← List.take_append_drop (2 * k) s, List.drop_eq_getElem_cons ka, List.drop_eq_getElem_cons kb, xa, xb]
  rw [e, unhex_append _ h, unhex_cons2, hp]
  simp

/-- WHAT IS TAKEN FROM THE FRONT -/
def atOf (xs : List UInt8) (i k : Nat) : Nat := num ((xs.drop i).take k)
end Go.Proofs.YthclgehifomkhaaDoor.Oc

/-
  Plain facts on the bits of octets: one bit turned, a row of bits turned, the first and the last bit in which two are unlike. No conditions.
-/
import Derived.Test.YthclgehifomkhaaDoorCrcNum
namespace Go.Proofs.YthclgehifomkhaaDoor.Oc

/-- one bit turned -/
def flipB (k : Nat) (x : UInt8) : UInt8 := x ^^^ UInt8.ofNat (2 ^ (k % 8))
def flipAt (xs : List UInt8) (k : Nat) : List UInt8 := xs.modify (k / 8) (flipB k)
theorem flip_length (xs : List UInt8) (k : Nat) : (flipAt xs k).length = xs.length := List.length_modify ..
theorem pow_mod8 (k : Nat) : 2 ^ (k % 8) < 256 := by
  have h : k % 8 < 8 := by omega
  have := Nat.pow_lt_pow_right (a := 2) (by decide) h
  omega
theorem flipB_nat (k : Nat) (x : UInt8) : (flipB k x).toNat = x.toNat ^^^ 2 ^ (k % 8) := by
  unfold flipB
  rw [UInt8.toNat_xor]
  congr 1
  have := pow_mod8 k
  simp
  omega
theorem flipB_eight (k : Nat) (x : UInt8) : flipB (k + 8) x = flipB k x := by
  unfold flipB
  rw [Nat.add_mod_right]
theorem flip_get (xs : List UInt8) (k j : Nat) (x : UInt8) (h : xs[j]? = some x) : (flipAt xs k)[j]? = some (if k / 8 = j then flipB k x else x) := by
  unfold flipAt
  rw [List.getElem?_modify]
  split <;> simp [h]

theorem mul_xor (k a b : Nat) : 2 ^ k * (a ^^^ b) = 2 ^ k * a ^^^ 2 ^ k * b := by
  have := Nat.shiftLeft_xor_distrib (a := a) (b := b) (i := k)
  rw [Nat.shiftLeft_eq, Nat.shiftLeft_eq, Nat.shiftLeft_eq] at this
  rw [Nat.mul_comm, this, Nat.mul_comm a, Nat.mul_comm b]
theorem num_xcons (x : UInt8) (xs : List UInt8) : num (x :: xs) = x.toNat ^^^ 2 ^ 8 * num xs := add_xor 8 x.toNat (num xs) (by have := x.toNat_lt; omega)
theorem num_flip (xs : List UInt8) (k : Nat) (h : k < 8 * xs.length) : num (flipAt xs k) = num xs ^^^ 2 ^ k := by
  induction xs generalizing k with
  | nil => simp at h
  | cons x xs ih =>
    by_cases hk : k < 8
    · have e : flipAt (x :: xs) k = flipB k x :: xs := by
        unfold flipAt
        rw [Nat.div_eq_of_lt hk]; rfl
      have e2 : k % 8 = k := Nat.mod_eq_of_lt hk
      rw [e, num_xcons, num_xcons, flipB_nat, e2, Nat.xor_assoc, Nat.xor_assoc, Nat.xor_comm (2 ^ k)]
    · obtain ⟨j, rfl⟩ := Nat.exists_eq_add_of_le' (Nat.not_lt.1 hk)
      have e : flipAt (x :: xs) (j + 8) = x :: flipAt xs j := by
        unfold flipAt
        have e1 : (j + 8) / 8 = j / 8 + 1 := by omega
        rw [e1, List.modify_succ_cons]
        congr 2
        funext y
        exact flipB_eight j y
      rw [e, num_xcons, num_xcons, ih j (by rw [List.length_cons] at h; omega), mul_xor, Nat.xor_assoc, ← Nat.pow_add, Nat.add_comm 8 j]

/-- A ROW OF BITS TURNED -/
abbrev hit (n : Nat) (at_ : Int) (T i : Nat) : Prop := T / 2 ^ i % 2 = 1 ∧ 0 ≤ at_ + i ∧ at_ + i < 8 * n
def turned (xs : List UInt8) (at_ : Int) (T : Nat) : Nat → List UInt8
  | 0 => xs
  | i + 1 => if hit xs.length at_ T i then flipAt (turned xs at_ T i) (at_ + i).toNat else turned xs at_ T i
theorem turned_length (xs : List UInt8) (at_ : Int) (T i : Nat) : (turned xs at_ T i).length = xs.length := by
  induction i with
  | zero => rfl
  | succ i ih => unfold turned; split; · rw [flip_length, ih]
                 · exact ih
theorem turned_yes {xs : List UInt8} {at_ : Int} {T i : Nat} (h : hit xs.length at_ T i) : turned xs at_ T (i + 1) = flipAt (turned xs at_ T i) (at_ + i).toNat := if_pos h
theorem turned_no {xs : List UInt8} {at_ : Int} {T i : Nat} (h : ¬ hit xs.length at_ T i) : turned xs at_ T (i + 1) = turned xs at_ T i := if_neg h
theorem turned_far (xs : List UInt8) (at_ : Int) (T i : Nat) (hi : i ≤ 32) (h : at_ ≤ -32 ∨ (8 * xs.length : Int) ≤ at_) : turned xs at_ T i = xs := by
  induction i with
  | zero => rfl
  | succ i ih => rw [turned_no (by unfold hit; omega), ih (by omega)]

/-- from a place that is not below 0: as a number -/
theorem turned_num (xs : List UInt8) (at_ T i : Nat) : ∃ U, U < 2 ^ i ∧ num (turned xs at_ T i) = num xs ^^^ 2 ^ at_ * U := by
  induction i with
  | zero => exact ⟨0, by decide, by simp [turned]⟩
  | succ i ih =>
    obtain ⟨U, hU, e⟩ := ih
    by_cases h : hit xs.length at_ T i
    · refine ⟨U + 2 ^ i * 1, by rw [Nat.pow_succ]; omega, ?_⟩
      have h2 : (((at_ : Int) + i).toNat) = at_ + i := by omega
      rw [turned_yes h, h2, num_flip _ _ (by rw [turned_length]; have := h.2.2; omega), e, Nat.xor_assoc, add_xor i U 1 hU, mul_xor, Nat.mul_one, ← Nat.pow_add]
    · exact ⟨U, by rw [Nat.pow_succ]; omega, by rw [turned_no h, e]⟩
/-- which bits are unlike -/
theorem turned_bits (xs : List UInt8) (at_ : Int) (T i k : Nat) (h : (num xs ^^^ num (turned xs at_ T i)).testBit k = true) : ∃ j : Nat, j < i ∧ (k : Int) = at_ + j := by
  induction i with
  | zero => simp [turned] at h
  | succ i ih =>
    by_cases hh : hit xs.length at_ T i
    · rw [turned_yes hh, num_flip _ _ (by rw [turned_length]; have := hh.2; omega), ← Nat.xor_assoc, Nat.testBit_xor] at h
      by_cases hb : (num xs ^^^ num (turned xs at_ T i)).testBit k = true
      · obtain ⟨j, hj, e⟩ := ih hb
        exact ⟨j, by omega, e⟩
      · rw [Bool.not_eq_true] at hb
        rw [hb, Bool.false_xor, Nat.testBit_two_pow] at h
        have := of_decide_eq_true h
        have := hh.2
        exact ⟨i, by omega, by omega⟩
    · rw [turned_no hh] at h
      obtain ⟨j, hj, e⟩ := ih h
      exact ⟨j, by omega, e⟩

/-- THE FIRST AND THE LAST BIT -/
def Span (m D : Nat) (f l : Int) : Prop :=
  (f = -1 ∧ l = -1 ∧ ∀ i, i < m → D.testBit i = false) ∨ ∃ a b : Nat, f = a ∧ l = b ∧ a < m ∧ b < m ∧ D.testBit a = true ∧ D.testBit b = true ∧ ∀ i, i < m → D.testBit i = true → a ≤ i ∧ i ≤ b
theorem Span.zero (D : Nat) : Span 0 D (-1) (-1) := .inl ⟨rfl, rfl, fun i h => by omega⟩
theorem Span.lo {m D : Nat} {f l : Int} (h : Span m D f l) : -1 ≤ f ∧ f < m ∧ -1 ≤ l ∧ l < m ∧ (f = -1 ↔ l = -1) ∧ f ≤ l := by
  rcases h with ⟨rfl, rfl, _⟩ | ⟨a, b, rfl, rfl, h1, h2, h3, h4, h5⟩
  · omega
  · have := h5 a h1 h3
    omega
theorem Span.skip {m D : Nat} {f l : Int} (h : Span m D f l) (k : Nat) (hk : ∀ i, m ≤ i → i < k → D.testBit i = false) (hm : m ≤ k) : Span k D f l := by
  rcases h with ⟨rfl, rfl, h⟩ | ⟨a, b, rfl, rfl, h1, h2, h3, h4, h5⟩
  · refine .inl ⟨rfl, rfl, fun i hi => ?_⟩
    rcases Nat.lt_or_ge i m with h0 | h0
    · exact h i h0
    · exact hk i h0 hi
  · refine .inr ⟨a, b, rfl, rfl, by omega, by omega, h3, h4, fun i hi ht => ?_⟩
    rcases Nat.lt_or_ge i m with h0 | h0
    · exact h5 i h0 ht
    · rw [hk i h0 hi] at ht; cases ht
theorem Span.more {m D : Nat} {f l : Int} (h : Span m D f l) (k u v : Nat) (hm : m ≤ k) (h1 : m ≤ u) (huv : u ≤ v) (h2 : v < k) (hu : D.testBit u = true) (hv : D.testBit v = true) (hk : ∀ i, m ≤ i → i < k → D.testBit i = true → u ≤ i ∧ i ≤ v) :
    Span k D (if f < 0 then u else f) v := by
  rcases h with ⟨rfl, rfl, h⟩ | ⟨a, b, rfl, rfl, h3, h4, h5, h6, h7⟩
  · refine .inr ⟨u, v, by simp, rfl, by omega, h2, hu, hv, fun i hi ht => ?_⟩
    rcases Nat.lt_or_ge i m with h0 | h0
    · rw [h i h0] at ht; cases ht
    · exact hk i h0 hi ht
  · refine .inr ⟨a, v, by rw [if_neg (by omega)], rfl, by omega, h2, h5, hv, fun i hi ht => ?_⟩
    rcases Nat.lt_or_ge i m with h0 | h0
    · have := h7 i h0 ht; omega
    · have := hk i h0 hi ht; omega
theorem Span.one {m D : Nat} {f l : Int} (h : Span m D f l) (ht : D.testBit m = true) : Span (m + 1) D (if f < 0 then m else f) m :=
  h.more (m + 1) m m (by omega) (by omega) (by omega) (by omega) ht ht fun i h1 h2 _ => by omega
theorem Span.none {m D : Nat} {f l : Int} (h : Span m D f l) (ht : D.testBit m = false) : Span (m + 1) D f l :=
  h.skip (m + 1) (fun i h1 h2 => by have : i = m := by omega
                                    rw [this]; exact ht) (by omega)
theorem span_ex (m D : Nat) : ∃ f l, Span m D f l := by
  induction m with
  | zero => exact ⟨_, _, Span.zero D⟩
  | succ m ih =>
    obtain ⟨f, l, h⟩ := ih
    cases ht : D.testBit m with
    | true => exact ⟨_, _, h.one ht⟩
    | false => exact ⟨_, _, h.none ht⟩
theorem Span.uniq {m D : Nat} {f l f' l' : Int} (h : Span m D f l) (h' : Span m D f' l') : f = f' ∧ l = l' := by
  rcases h with ⟨rfl, rfl, h⟩ | ⟨a, b, rfl, rfl, h3, h4, h5, h6, h7⟩ <;> rcases h' with ⟨rfl, rfl, h'⟩ | ⟨a', b', rfl, rfl, h3', h4', h5', h6', h7'⟩
  · exact ⟨rfl, rfl⟩
  · rw [h a' h3'] at h5'; cases h5'
  · rw [h' a h3] at h5; cases h5
  · have h1 := h7 a' h3' h5'
    have h2 := h7 b' h4' h6'
    have h1' := h7' a h3 h5
    have h2' := h7' b h4 h6
    omega
/-- over how many bits they reach -/
def gap (f l : Int) : Int := if f < 0 then 0 else l - f + 1
theorem gap_none {f l : Int} (h : f < 0) : gap f l = 0 := if_pos h
theorem gap_some {f l : Int} (h : ¬ f < 0) : gap f l = l - f + 1 := if_neg h
theorem gap_window {m D : Nat} {f l at_ : Int} (h : Span m D f l) (hw : ∀ k, D.testBit k = true → ∃ j : Nat, j < 32 ∧ (k : Int) = at_ + j) : gap f l ≤ 32 := by
  rcases h with ⟨rfl, rfl, h⟩ | ⟨a, b, rfl, rfl, h3, h4, h5, h6, h7⟩
  · decide
  · obtain ⟨j, hj, e⟩ := hw a h5
    obtain ⟨j', hj', e'⟩ := hw b h6
    rw [gap_some (by omega)]
    omega

/-- BITS OF OCTETS -/
theorem num_bit (xs : List UInt8) (j i : Nat) (x : UInt8) (h : xs[j]? = some x) (hi : i < 8) : (num xs).testBit (8 * j + i) = x.toNat.testBit i := by
  induction xs generalizing j with
  | nil => cases h
  | cons y xs ih =>
    have hy : y.toNat < 2 ^ 8 := by have := y.toNat_lt; omega
    have e : num (y :: xs) = 2 ^ 8 * num xs + y.toNat := by rw [num_cons, Nat.add_comm]
    rw [e, Nat.testBit_two_pow_mul_add _ hy]
    cases j with
    | zero =>
      injection h with h
      subst h
      rw [if_pos (by omega)]
      congr 1
      omega
    | succ j =>
      rw [if_neg (by omega), ← ih j h]
      congr 1
      omega
theorem num_bit' (xs : List UInt8) (i : Nat) (x : UInt8) (h : xs[i / 8]? = some x) : (num xs).testBit i = decide (x.toNat / 2 ^ (i % 8) % 2 = 1) := by
  have := num_bit xs (i / 8) (i % 8) x h (by omega)
  rw [Nat.div_add_mod] at this
  rw [this, Nat.testBit_eq_decide_div_mod_eq]

/-- the lowest and the highest bit of an octet -/
def low (u : Nat) : Nat := if u % 2 = 1 then 0 else if u / 2 % 2 = 1 then 1 else if u / 4 % 2 = 1 then 2 else if u / 8 % 2 = 1 then 3 else if u / 16 % 2 = 1 then 4 else if u / 32 % 2 = 1 then 5 else if u / 64 % 2 = 1 then 6 else if u / 128 % 2 = 1 then 7 else 8
def high (u : Nat) : Nat := if u / 128 % 2 = 1 then 8 else if u / 64 % 2 = 1 then 7 else if u / 32 % 2 = 1 then 6 else if u / 16 % 2 = 1 then 5 else if u / 8 % 2 = 1 then 4 else if u / 4 % 2 = 1 then 3 else if u / 2 % 2 = 1 then 2 else if u % 2 = 1 then 1 else 0
theorem low_high (u : Nat) (h : u < 256) (h0 : u ≠ 0) : low u < 8 ∧ 1 ≤ high u ∧ high u ≤ 8 ∧ u.testBit (low u) = true ∧ u.testBit (high u - 1) = true ∧ ∀ i, i < 8 → u.testBit i = true → low u ≤ i ∧ i ≤ high u - 1 := by
  have e : ∀ u : Fin 256, u.val ≠ 0 → low u.val < 8 ∧ 1 ≤ high u.val ∧ high u.val ≤ 8 ∧ u.val.testBit (low u.val) = true ∧ u.val.testBit (high u.val - 1) = true ∧ ∀ i : Fin 8, u.val.testBit i.val = true → low u.val ≤ i.val ∧ i.val ≤ high u.val - 1 := by decide +kernel
  obtain ⟨h1, h2, h3, h4, h5, h6⟩ := e ⟨u, h⟩ h0
  exact ⟨h1, h2, h3, h4, h5, fun i hi ht => h6 ⟨i, hi⟩ ht⟩

/-- one octet more -/
theorem span_alike {xs ys : List UInt8} {j : Nat} {x y : UInt8} {f l : Int} (h : Span (8 * j) (num xs ^^^ num ys) f l) (hx : xs[j]? = some x) (hy : ys[j]? = some y) (hu : x.toNat ^^^ y.toNat = 0) : Span (8 * (j + 1)) (num xs ^^^ num ys) f l := by
  refine h.skip _ (fun i h1 h2 => ?_) (by omega)
  obtain ⟨d, rfl⟩ := Nat.exists_eq_add_of_le h1
  rw [Nat.testBit_xor, num_bit xs j d x hx (by omega), num_bit ys j d y hy (by omega), ← Nat.testBit_xor, hu, Nat.zero_testBit]
theorem span_unlike {xs ys : List UInt8} {j : Nat} {x y : UInt8} {f l : Int} (h : Span (8 * j) (num xs ^^^ num ys) f l) (hx : xs[j]? = some x) (hy : ys[j]? = some y) (u : Nat) (hu : x.toNat ^^^ y.toNat = u) (h0 : u ≠ 0) :
    Span (8 * (j + 1)) (num xs ^^^ num ys) (if f < 0 then (8 * j + low u : Nat) else f) ((8 * j + (high u - 1) : Nat)) := by
  have hlt : u < 256 := by
    rw [← hu]
    have h1 := x.toNat_lt
    have h2 := y.toNat_lt
    exact Nat.xor_lt_two_pow (n := 8) (by omega) (by omega)
  obtain ⟨h1, h2, h3, h4, h5, h6⟩ := low_high u hlt h0
  have hb : ∀ i, i < 8 → (num xs ^^^ num ys).testBit (8 * j + i) = u.testBit i := fun i hi => by
    rw [Nat.testBit_xor, num_bit xs j i x hx hi, num_bit ys j i y hy hi, ← Nat.testBit_xor, hu]
  have h7 := h6 _ h1 h4
  refine h.more _ _ _ (by omega) (by omega) (by omega) (by omega) (by rw [hb _ (by omega), h4]) (by rw [hb _ (by omega), h5]) fun i hi hi2 ht => ?_
  obtain ⟨d, rfl⟩ := Nat.exists_eq_add_of_le hi
  rw [hb _ (by omega)] at ht
  have := h6 d (by omega) ht
  omega
end Go.Proofs.YthclgehifomkhaaDoor.Oc

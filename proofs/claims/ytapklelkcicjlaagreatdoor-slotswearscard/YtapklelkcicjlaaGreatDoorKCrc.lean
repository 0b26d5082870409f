/-
  Elder texts, one behind the other: CrcNum, CrcBit, CrcMore, CrcSeal. No conditions.
-/
import Derived.Test.YtapklelkcicjlaaGreatDoorKOct
import Derived.BigQuiet
/-! Plain facts on sums of 32 bits: halvings are linear over exclusive or; a sum in numbers; a change within 32 bits in a row is told. No conditions. -/
namespace Go.Proofs.YtapklelkcicjlaaGreatDoor.Oc
set_option maxRecDepth 100000

/-- all bits of a sum -/
def full : Nat := 4294967295
theorem full_eq : full = 4294967295 := rfl
theorem full_lt : full < 4294967296 := by decide

/-- halved once -/
def half (x : Nat) : Nat := if x % 2 = 1 then x / 2 ^^^ 3988292384 else x / 2
def halves : Nat → Nat → Nat
  | 0, x => x
  | k + 1, x => halves k (half x)

theorem half_odd {x : Nat} (h : x % 2 = 1) : half x = x / 2 ^^^ 3988292384 := if_pos h
theorem half_even {x : Nat} (h : x % 2 = 0) : half x = x / 2 := if_neg (by omega)
theorem xor_two (x y : Nat) : (x ^^^ y) % 2 = (x + y) % 2 := by
  have h := Nat.testBit_xor x y 0
  rw [Nat.testBit_zero, Nat.testBit_zero, Nat.testBit_zero] at h
  rcases Nat.mod_two_eq_zero_or_one (x ^^^ y) with hz | hz <;> rcases Nat.mod_two_eq_zero_or_one x with hx | hx <;> rcases Nat.mod_two_eq_zero_or_one y with hy | hy <;> simp [hx, hy, hz] at h <;> omega
theorem half_xor (x y : Nat) : half (x ^^^ y) = half x ^^^ half y := by
  have h1 : (x ^^^ y) % 2 = (x + y) % 2 := xor_two x y
  have h2 : (x ^^^ y) / 2 = x / 2 ^^^ y / 2 := Nat.xor_div_two
  rcases Nat.mod_two_eq_zero_or_one x with hx | hx <;> rcases Nat.mod_two_eq_zero_or_one y with hy | hy
  · rw [half_even (by omega), half_even hx, half_even hy, h2]
  · rw [half_odd (by omega), half_even hx, half_odd hy, h2, Nat.xor_assoc]
  · rw [half_odd (by omega), half_odd hx, half_even hy, h2, Nat.xor_assoc, Nat.xor_assoc, Nat.xor_comm 3988292384]
  · rw [half_even (by omega), half_odd hx, half_odd hy, h2]
    rw [Nat.xor_assoc, Nat.xor_comm 3988292384, Nat.xor_assoc, Nat.xor_self, Nat.xor_zero]
theorem half_two (y : Nat) : half (2 * y) = y := by rw [half_even (by omega)]; omega
theorem half_lt {x : Nat} (h : x < 4294967296) : half x < 4294967296 := by
  have h1 : x / 2 < 2 ^ 32 := by omega
  unfold half
  split
  · exact Nat.xor_lt_two_pow h1 (by decide)
  · omega
theorem half_ne {x : Nat} (h : x < 4294967296) (h0 : x ≠ 0) : half x ≠ 0 := by
  unfold half
  split
  · intro e
    have e2 : x / 2 = 3988292384 := by
      have e3 := congrArg (· ^^^ 3988292384) e
      simp only [Nat.xor_assoc, Nat.xor_self, Nat.xor_zero, Nat.zero_xor] at e3
      exact e3
    omega
  · omega

theorem halves_xor (k x y : Nat) : halves k (x ^^^ y) = halves k x ^^^ halves k y := by
  induction k generalizing x y with
  | zero => rfl
  | succ k ih => simp only [halves, half_xor, ih]
theorem halves_add (j k x : Nat) : halves (j + k) x = halves k (halves j x) := by
  induction j generalizing x with
  | zero => rw [Nat.zero_add]; rfl
  | succ j ih => rw [Nat.succ_add]; exact ih _
theorem halves_succ (k x : Nat) : halves (k + 1) x = half (halves k x) := by
  rw [halves_add k 1 x]; rfl
theorem halves_two (k y : Nat) : halves k (2 ^ k * y) = y := by
  induction k generalizing y with
  | zero => simp [halves]
  | succ k ih =>
    show halves k (half _) = y
    rw [Nat.pow_succ, Nat.mul_comm _ 2, Nat.mul_assoc, half_two, ih]
theorem halves_zero (k : Nat) : halves k 0 = 0 := by
  have := halves_two k 0
  rwa [Nat.mul_zero] at this
theorem halves_lt (k : Nat) {x : Nat} (h : x < 4294967296) : halves k x < 4294967296 := by
  induction k generalizing x with
  | zero => exact h
  | succ k ih => exact ih (half_lt h)
theorem halves_ne (k : Nat) {x : Nat} (h : x < 4294967296) (h0 : x ≠ 0) : halves k x ≠ 0 := by
  induction k generalizing x with
  | zero => exact h0
  | succ k ih => exact ih (half_lt h) (half_ne h h0)

/-- a number below, and one above -/
theorem add_xor (k a b : Nat) (h : a < 2 ^ k) : a + 2 ^ k * b = a ^^^ 2 ^ k * b := by
  apply Nat.eq_of_testBit_eq
  intro i
  rw [Nat.testBit_xor, Nat.add_comm a, Nat.testBit_two_pow_mul_add _ h]
  by_cases hi : i < k
  · simp [hi, Nat.testBit_two_pow_mul, Nat.not_le.2 hi]
  · have : a < 2 ^ i := Nat.lt_of_lt_of_le h (Nat.pow_le_pow_right (by decide) (by omega))
    simp [hi, Nat.testBit_two_pow_mul, Nat.not_lt.1 hi, Nat.testBit_lt_two_pow this]

/-- WHAT THE WAY DOES WITH AN OCTET -/
def upd (x : Nat) (o : UInt8) : Nat := halves 8 (x ^^^ o.toNat)
def runs (x : Nat) (xs : List UInt8) : Nat := xs.foldl upd x
theorem upd_lt {x : Nat} (h : x < 4294967296) (o : UInt8) : upd x o < 4294967296 := by
  have := o.toNat_lt
  exact halves_lt 8 (Nat.xor_lt_two_pow (n := 32) h (by omega))
theorem runs_lt {x : Nat} (h : x < 4294967296) (xs : List UInt8) : runs x xs < 4294967296 := by
  induction xs generalizing x with
  | nil => exact h
  | cons o xs ih => exact ih (upd_lt h o)
theorem runs_append (x : Nat) (xs ys : List UInt8) : runs x (xs ++ ys) = runs (runs x xs) ys := List.foldl_append
theorem runs_take (x : Nat) (xs : List UInt8) (k : Nat) (o : UInt8) (h : xs[k]? = some o) : runs x (xs.take (k + 1)) = upd (runs x (xs.take k)) o := by
  obtain ⟨hk, hx⟩ := List.getElem?_eq_some_iff.1 h
  rw [List.take_succ_eq_append_getElem hk, runs_append, hx]; rfl
theorem runs_num (x : Nat) (xs : List UInt8) : runs x xs = halves (8 * xs.length) (x ^^^ num xs) := by
  induction xs generalizing x with
  | nil => simp [runs, num, halves]
  | cons o xs ih =>
    have ho := o.toNat_lt
    have e : num (o :: xs) = o.toNat ^^^ 2 ^ 8 * num xs := add_xor 8 o.toNat (num xs) (by omega)
    have e2 : 8 * (o :: xs).length = 8 + 8 * xs.length := by rw [List.length_cons]; omega
    rw [e, e2, halves_add, ← Nat.xor_assoc, halves_xor 8, halves_two]
    exact ih _

/-- THE SUM -/
def more (s : Nat) (xs : List UInt8) : Nat := full ^^^ runs (full ^^^ s) xs
def sum (xs : List UInt8) : Nat := more 0 xs
theorem more_lt {s : Nat} (h : s < 4294967296) (xs : List UInt8) : more s xs < 4294967296 := by
  have h1 : full ^^^ s < 4294967296 := Nat.xor_lt_two_pow (n := 32) full_lt h
  exact Nat.xor_lt_two_pow (n := 32) full_lt (runs_lt h1 xs)
theorem sum_lt (xs : List UInt8) : sum xs < 4294967296 := more_lt (by decide) xs
theorem full_full (x : Nat) : full ^^^ (full ^^^ x) = x := by rw [← Nat.xor_assoc, Nat.xor_self, Nat.zero_xor]
theorem more_append (s : Nat) (xs ys : List UInt8) : more s (xs ++ ys) = more (more s xs) ys := by
  unfold more
  rw [full_full, runs_append]
theorem sum_append (xs ys : List UInt8) : sum (xs ++ ys) = more (sum xs) ys := more_append 0 xs ys
theorem more_nil (s : Nat) : more s [] = s := full_full s
theorem sum_num (xs : List UInt8) : sum xs = full ^^^ halves (8 * xs.length) (full ^^^ num xs) := by
  unfold sum more
  rw [Nat.xor_zero, runs_num]

/-- a change within 32 bits in a row never comes to nothing -/
theorem burst_ne (m at_ T : Nat) (hT : T < 4294967296) (h : halves m (2 ^ at_ * T) = 0) : T = 0 := by
  by_cases h0 : T = 0
  · exact h0
  · exfalso
    by_cases hle : at_ ≤ m
    · obtain ⟨d, rfl⟩ := Nat.exists_eq_add_of_le hle
      rw [halves_add, halves_two] at h
      exact halves_ne d hT h0 h
    · obtain ⟨d, rfl⟩ := Nat.exists_eq_add_of_le (Nat.le_of_lt (Nat.not_le.1 hle))
      rw [Nat.pow_add, Nat.mul_assoc, halves_two] at h
      rcases Nat.mul_eq_zero.1 h with h1 | h1
      · exact absurd h1 (Nat.ne_of_gt (Nat.pow_pos (by decide)))
      · exact h0 h1

theorem num_inj {xs ys : List UInt8} (hl : xs.length = ys.length) (h : num xs = num ys) : xs = ys := by
  induction xs generalizing ys with
  | nil => cases ys with
    | nil => rfl
    | cons y ys => cases hl
  | cons x xs ih => cases ys with
    | nil => cases hl
    | cons y ys =>
      have hx := x.toNat_lt
      have hy := y.toNat_lt
      rw [num_cons, num_cons] at h
      have e1 : x = y := UInt8.toNat_inj.1 (by omega)
      rw [e1, ih (by simpa using hl) (by omega)]

theorem xor_cancel {a b c : Nat} (h : a ^^^ b = a ^^^ c) : b = c := by
  have := congrArg (a ^^^ ·) h
  simp only [← Nat.xor_assoc, Nat.xor_self, Nat.zero_xor] at this
  exact this
theorem xor_self_eq {a b : Nat} (h : a ^^^ b = a) : b = 0 := xor_cancel (a := a) (by rw [h, Nat.xor_zero])

/-- two of one length, apart by a change within 32 bits in a row: their sums are one only if they are -/
theorem burst_sum {xs ys : List UInt8} (hl : ys.length = xs.length) (at_ T : Nat) (hT : T < 4294967296) (hy : num ys = num xs ^^^ 2 ^ at_ * T) (h : sum xs = sum ys) : xs = ys := by
  rw [sum_num, sum_num, hl, hy, ← Nat.xor_assoc, halves_xor (8 * xs.length) (full ^^^ num xs)] at h
  have h1 := xor_self_eq (xor_cancel h).symm
  have h2 := burst_ne _ _ _ hT h1
  rw [h2, Nat.mul_zero, Nat.xor_zero] at hy
  exact num_inj hl.symm hy.symm

theorem num_append (xs ys : List UInt8) : num (xs ++ ys) = num xs ^^^ 2 ^ (8 * xs.length) * num ys := by
  rw [← add_xor _ _ _ (by rw [← pow8]; exact num_lt xs)]
  induction xs with
  | nil => simp [num]
  | cons x xs ih =>
    rw [List.cons_append, num_cons, ih, num_cons, List.length_cons, ← pow8, ← pow8, pow_step, Nat.mul_add, Nat.mul_assoc, Nat.add_assoc]

/-- octets that end with the sum of those ahead -/
theorem good_iff (xs zs : List UInt8) : num zs = sum xs ↔ halves (8 * xs.length) (full ^^^ num (xs ++ zs)) = full := by
  rw [num_append, ← Nat.xor_assoc, halves_xor, halves_two, sum_num]
  generalize halves (8 * xs.length) (full ^^^ num xs) = q
  constructor
  · intro h
    rw [h, Nat.xor_comm full, ← Nat.xor_assoc, Nat.xor_self, Nat.zero_xor]
  · intro h
    rw [← h, Nat.xor_comm q, Nat.xor_assoc, Nat.xor_self, Nat.xor_zero]

/-- what is sealed, with a change within 32 bits in a row, is not opened -/
theorem burst_seal {xs zs xs' zs' : List UInt8} (hx : xs'.length = xs.length) (hz : zs'.length = zs.length) (at_ T : Nat) (hT : T < 4294967296) (hy : num (xs' ++ zs') = num (xs ++ zs) ^^^ 2 ^ at_ * T)
    (h : num zs = sum xs) (h' : num zs' = sum xs') : xs ++ zs = xs' ++ zs' := by
  rw [good_iff] at h h'
  rw [hx, hy, ← Nat.xor_assoc, halves_xor (8 * xs.length) (full ^^^ num (xs ++ zs)), h] at h'
  have h2 := burst_ne _ _ _ hT (xor_self_eq h')
  rw [h2, Nat.mul_zero, Nat.xor_zero] at hy
  exact num_inj (by rw [List.length_append, List.length_append, hx, hz]) hy.symm

/-- FOUR HALVINGS AT ONCE -/
theorem halves_four (x : Nat) : halves 4 x = x / 16 ^^^ halves 4 (x % 16) := by
  have e : x = x % 16 ^^^ 2 ^ 4 * (x / 16) := by
    rw [← add_xor 4 _ _ (by omega)]
    omega
  rw [Nat.xor_comm]
  conv => lhs; rw [e, halves_xor, halves_two]
theorem halves_eight (x : Nat) : halves 8 x = halves 4 (halves 4 x) := halves_add 4 4 x
def fours : List Int := [0, 498536548, 997073096, 651767980, 1994146192, 1802195444, 1303535960, 1342533948, 3988292384, 4027552580, 3604390888, 3412177804, 2607071920, 2262029012, 2685067896, 3183342108]
theorem fours_at {k : Nat} (h : k < 16) : fours[k]? = some ((halves 4 k : Nat) : Int) := by
  have e : ∀ k : Fin 16, fours[k.val]? = some ((halves 4 k.val : Nat) : Int) := by decide +kernel
  exact e ⟨k, h⟩
end Go.Proofs.YtapklelkcicjlaaGreatDoor.Oc

/-! Plain facts on the bits of octets: one bit turned, a row of bits turned, the first and the last bit in which two are unlike. No conditions. -/
namespace Go.Proofs.YtapklelkcicjlaaGreatDoor.Oc
set_option maxRecDepth 100000

/-- one bit turned -/
def flipB (k : Nat) (x : UInt8) : UInt8 := x ^^^ UInt8.ofNat (2 ^ (k % 8))
def flipAt (xs : List UInt8) (k : Nat) : List UInt8 := xs.modify (k / 8) (flipB k)
theorem flip_length (xs : List UInt8) (k : Nat) : (flipAt xs k).length = xs.length := List.length_modify ..
theorem pow_mod8 (k : Nat) : 2 ^ (k % 8) < 256 := by
  have h : k % 8 < 8 := by omega
  have := Nat.pow_lt_pow_right (a := 2) (by decide) h
  omega
theorem flipB_nat (k : Nat) (x : UInt8) : (flipB k x).toNat = x.toNat ^^^ 2 ^ (k % 8) := by
  unfold flipB
  rw [UInt8.toNat_xor]
  congr 1
  have := pow_mod8 k
  simp
  omega
theorem flipB_eight (k : Nat) (x : UInt8) : flipB (k + 8) x = flipB k x := by
  unfold flipB
  rw [Nat.add_mod_right]
theorem flip_get (xs : List UInt8) (k j : Nat) (x : UInt8) (h : xs[j]? = some x) : (flipAt xs k)[j]? = some (if k / 8 = j then flipB k x else x) := by
  unfold flipAt
  rw [List.getElem?_modify]
  split <;> simp [h]

theorem mul_xor (k a b : Nat) : 2 ^ k * (a ^^^ b) = 2 ^ k * a ^^^ 2 ^ k * b := by
  have := Nat.shiftLeft_xor_distrib (a := a) (b := b) (i := k)
  rw [Nat.shiftLeft_eq, Nat.shiftLeft_eq, Nat.shiftLeft_eq] at this
  rw [Nat.mul_comm, this, Nat.mul_comm a, Nat.mul_comm b]
theorem num_xcons (x : UInt8) (xs : List UInt8) : num (x :: xs) = x.toNat ^^^ 2 ^ 8 * num xs := add_xor 8 x.toNat (num xs) (by have := x.toNat_lt; omega)
theorem num_flip (xs : List UInt8) (k : Nat) (h : k < 8 * xs.length) : num (flipAt xs k) = num xs ^^^ 2 ^ k := by
  induction xs generalizing k with
  | nil => simp at h
  | cons x xs ih =>
    by_cases hk : k < 8
    · have e : flipAt (x :: xs) k = flipB k x :: xs := by
        unfold flipAt
        rw [Nat.div_eq_of_lt hk]; rfl
      have e2 : k % 8 = k := Nat.mod_eq_of_lt hk
      rw [e, num_xcons, num_xcons, flipB_nat, e2, Nat.xor_assoc, Nat.xor_assoc, Nat.xor_comm (2 ^ k)]
    · obtain ⟨j, rfl⟩ := Nat.exists_eq_add_of_le' (Nat.not_lt.1 hk)
      have e : flipAt (x :: xs) (j + 8) = x :: flipAt xs j := by
        unfold flipAt
        have e1 : (j + 8) / 8 = j / 8 + 1 := by omega
        rw [e1, List.modify_succ_cons]
        congr 2
        funext y
        exact flipB_eight j y
      rw [e, num_xcons, num_xcons, ih j (by rw [List.length_cons] at h; omega), mul_xor, Nat.xor_assoc, ← Nat.pow_add, Nat.add_comm 8 j]

/-- A ROW OF BITS TURNED -/
abbrev hit (n : Nat) (at_ : Int) (T i : Nat) : Prop := T / 2 ^ i % 2 = 1 ∧ 0 ≤ at_ + i ∧ at_ + i < 8 * n
def turned (xs : List UInt8) (at_ : Int) (T : Nat) : Nat → List UInt8
  | 0 => xs
  | i + 1 => if hit xs.length at_ T i then flipAt (turned xs at_ T i) (at_ + i).toNat else turned xs at_ T i
theorem turned_length (xs : List UInt8) (at_ : Int) (T i : Nat) : (turned xs at_ T i).length = xs.length := by
  induction i with
  | zero => rfl
  | succ i ih => unfold turned; split; · rw [flip_length, ih]
                 · exact ih
theorem turned_yes {xs : List UInt8} {at_ : Int} {T i : Nat} (h : hit xs.length at_ T i) : turned xs at_ T (i + 1) = flipAt (turned xs at_ T i) (at_ + i).toNat := if_pos h
theorem turned_no {xs : List UInt8} {at_ : Int} {T i : Nat} (h : ¬ hit xs.length at_ T i) : turned xs at_ T (i + 1) = turned xs at_ T i := if_neg h
theorem turned_far (xs : List UInt8) (at_ : Int) (T i : Nat) (hi : i ≤ 32) (h : at_ ≤ -32 ∨ (8 * xs.length : Int) ≤ at_) : turned xs at_ T i = xs := by
  induction i with
  | zero => rfl
  | succ i ih => rw [turned_no (by unfold hit; omega), ih (by omega)]

/-- from a place that is not below 0: as a number -/
theorem turned_num (xs : List UInt8) (at_ T i : Nat) : ∃ U, U < 2 ^ i ∧ num (turned xs at_ T i) = num xs ^^^ 2 ^ at_ * U := by
  induction i with
  | zero => exact ⟨0, by decide, by simp [turned]⟩
  | succ i ih =>
    obtain ⟨U, hU, e⟩ := ih
    by_cases h : hit xs.length at_ T i
    · refine ⟨U + 2 ^ i * 1, by rw [Nat.pow_succ]; omega, ?_⟩
      have h2 : (((at_ : Int) + i).toNat) = at_ + i := by omega
      rw [turned_yes h, h2, num_flip _ _ (by rw [turned_length]; have := h.2.2; omega), e, Nat.xor_assoc, add_xor i U 1 hU, mul_xor, Nat.mul_one, ← Nat.pow_add]
    · exact ⟨U, by rw [Nat.pow_succ]; omega, by rw [turned_no h, e]⟩
/-- which bits are unlike -/
theorem turned_bits (xs : List UInt8) (at_ : Int) (T i k : Nat) (h : (num xs ^^^ num (turned xs at_ T i)).testBit k = true) : ∃ j : Nat, j < i ∧ (k : Int) = at_ + j := by
  induction i with
  | zero => simp [turned] at h
  | succ i ih =>
    by_cases hh : hit xs.length at_ T i
    · rw [turned_yes hh, num_flip _ _ (by rw [turned_length]; have := hh.2; omega), ← Nat.xor_assoc, Nat.testBit_xor] at h
      by_cases hb : (num xs ^^^ num (turned xs at_ T i)).testBit k = true
      · obtain ⟨j, hj, e⟩ := ih hb
        exact ⟨j, by omega, e⟩
      · rw [Bool.not_eq_true] at hb
        rw [hb, Bool.false_xor, Nat.testBit_two_pow] at h
        have := of_decide_eq_true h
        have := hh.2
        exact ⟨i, by omega, by omega⟩
    · rw [turned_no hh] at h
      obtain ⟨j, hj, e⟩ := ih h
      exact ⟨j, by omega, e⟩

/-- THE FIRST AND THE LAST BIT -/
def Span (m D : Nat) (f l : Int) : Prop :=
  (f = -1 ∧ l = -1 ∧ ∀ i, i < m → D.testBit i = false) ∨ ∃ a b : Nat, f = a ∧ l = b ∧ a < m ∧ b < m ∧ D.testBit a = true ∧ D.testBit b = true ∧ ∀ i, i < m → D.testBit i = true → a ≤ i ∧ i ≤ b
theorem Span.zero (D : Nat) : Span 0 D (-1) (-1) := .inl ⟨rfl, rfl, fun i h => by omega⟩
theorem Span.lo {m D : Nat} {f l : Int} (h : Span m D f l) : -1 ≤ f ∧ f < m ∧ -1 ≤ l ∧ l < m ∧ (f = -1 ↔ l = -1) ∧ f ≤ l := by
  rcases h with ⟨rfl, rfl, _⟩ | ⟨a, b, rfl, rfl, h1, h2, h3, h4, h5⟩
  · omega
  · have := h5 a h1 h3
    omega
theorem Span.skip {m D : Nat} {f l : Int} (h : Span m D f l) (k : Nat) (hk : ∀ i, m ≤ i → i < k → D.testBit i = false) (hm : m ≤ k) : Span k D f l := by
  rcases h with ⟨rfl, rfl, h⟩ | ⟨a, b, rfl, rfl, h1, h2, h3, h4, h5⟩
  · refine .inl ⟨rfl, rfl, fun i hi => ?_⟩
    rcases Nat.lt_or_ge i m with h0 | h0
    · exact h i h0
    · exact hk i h0 hi
  · refine .inr ⟨a, b, rfl, rfl, by omega, by omega, h3, h4, fun i hi ht => ?_⟩
    rcases Nat.lt_or_ge i m with h0 | h0
    · exact h5 i h0 ht
    · rw [hk i h0 hi] at ht; cases ht
theorem Span.more {m D : Nat} {f l : Int} (h : Span m D f l) (k u v : Nat) (hm : m ≤ k) (h1 : m ≤ u) (huv : u ≤ v) (h2 : v < k) (hu : D.testBit u = true) (hv : D.testBit v = true) (hk : ∀ i, m ≤ i → i < k → D.testBit i = true → u ≤ i ∧ i ≤ v) :
    Span k D (if f < 0 then u else f) v := by
  rcases h with ⟨rfl, rfl, h⟩ | ⟨a, b, rfl, rfl, h3, h4, h5, h6, h7⟩
  · refine .inr ⟨u, v, by simp, rfl, by omega, h2, hu, hv, fun i hi ht => ?_⟩
    rcases Nat.lt_or_ge i m with h0 | h0
    · rw [h i h0] at ht; cases ht
    · exact hk i h0 hi ht
  · refine .inr ⟨a, v, by rw [if_neg (by omega)], rfl, by omega, h2, h5, hv, fun i hi ht => ?_⟩
    rcases Nat.lt_or_ge i m with h0 | h0
    · have := h7 i h0 ht; omega
    · have := hk i h0 hi ht; omega
theorem Span.one {m D : Nat} {f l : Int} (h : Span m D f l) (ht : D.testBit m = true) : Span (m + 1) D (if f < 0 then m else f) m :=
  h.more (m + 1) m m (by omega) (by omega) (by omega) (by omega) ht ht fun i h1 h2 _ => by omega
theorem Span.none {m D : Nat} {f l : Int} (h : Span m D f l) (ht : D.testBit m = false) : Span (m + 1) D f l :=
  h.skip (m + 1) (fun i h1 h2 => by have : i = m := by omega
                                    rw [this]; exact ht) (by omega)
theorem span_ex (m D : Nat) : ∃ f l, Span m D f l := by
  induction m with
  | zero => exact ⟨_, _, Span.zero D⟩
  | succ m ih =>
    obtain ⟨f, l, h⟩ := ih
    cases ht : D.testBit m with
    | true => exact ⟨_, _, h.one ht⟩
    | false => exact ⟨_, _, h.none ht⟩
theorem Span.uniq {m D : Nat} {f l f' l' : Int} (h : Span m D f l) (h' : Span m D f' l') : f = f' ∧ l = l' := by
  rcases h with ⟨rfl, rfl, h⟩ | ⟨a, b, rfl, rfl, h3, h4, h5, h6, h7⟩ <;> rcases h' with ⟨rfl, rfl, h'⟩ | ⟨a', b', rfl, rfl, h3', h4', h5', h6', h7'⟩
  · exact ⟨rfl, rfl⟩
  · rw [h a' h3'] at h5'; cases h5'
  · rw [h' a h3] at h5; cases h5
  · have h1 := h7 a' h3' h5'
    have h2 := h7 b' h4' h6'
    have h1' := h7' a h3 h5
    have h2' := h7' b h4 h6
    omega
/-- over how many bits they reach -/
def gap (f l : Int) : Int := if f < 0 then 0 else l - f + 1
theorem gap_none {f l : Int} (h : f < 0) : gap f l = 0 := if_pos h
theorem gap_some {f l : Int} (h : ¬ f < 0) : gap f l = l - f + 1 := if_neg h
theorem gap_window {m D : Nat} {f l at_ : Int} (h : Span m D f l) (hw : ∀ k, D.testBit k = true → ∃ j : Nat, j < 32 ∧ (k : Int) = at_ + j) : gap f l ≤ 32 := by
  rcases h with ⟨rfl, rfl, h⟩ | ⟨a, b, rfl, rfl, h3, h4, h5, h6, h7⟩
  · decide
  · obtain ⟨j, hj, e⟩ := hw a h5
    obtain ⟨j', hj', e'⟩ := hw b h6
    rw [gap_some (by omega)]
    omega

/-- BITS OF OCTETS -/
theorem num_bit (xs : List UInt8) (j i : Nat) (x : UInt8) (h : xs[j]? = some x) (hi : i < 8) : (num xs).testBit (8 * j + i) = x.toNat.testBit i := by
  induction xs generalizing j with
  | nil => cases h
  | cons y xs ih =>
    have hy : y.toNat < 2 ^ 8 := by have := y.toNat_lt; omega
    have e : num (y :: xs) = 2 ^ 8 * num xs + y.toNat := by rw [num_cons, Nat.add_comm]
    rw [e, Nat.testBit_two_pow_mul_add _ hy]
    cases j with
    | zero =>
      injection h with h
      subst h
      rw [if_pos (by omega)]
      congr 1
      omega
    | succ j =>
      rw [if_neg (by omega), ← ih j h]
      congr 1
      omega
theorem num_bit' (xs : List UInt8) (i : Nat) (x : UInt8) (h : xs[i / 8]? = some x) : (num xs).testBit i = decide (x.toNat / 2 ^ (i % 8) % 2 = 1) := by
  have := num_bit xs (i / 8) (i % 8) x h (by omega)
  rw [Nat.div_add_mod] at this
  rw [this, Nat.testBit_eq_decide_div_mod_eq]

/-- the lowest and the highest bit of an octet -/
def low (u : Nat) : Nat := if u % 2 = 1 then 0 else if u / 2 % 2 = 1 then 1 else if u / 4 % 2 = 1 then 2 else if u / 8 % 2 = 1 then 3 else if u / 16 % 2 = 1 then 4 else if u / 32 % 2 = 1 then 5 else if u / 64 % 2 = 1 then 6 else if u / 128 % 2 = 1 then 7 else 8
def high (u : Nat) : Nat := if u / 128 % 2 = 1 then 8 else if u / 64 % 2 = 1 then 7 else if u / 32 % 2 = 1 then 6 else if u / 16 % 2 = 1 then 5 else if u / 8 % 2 = 1 then 4 else if u / 4 % 2 = 1 then 3 else if u / 2 % 2 = 1 then 2 else if u % 2 = 1 then 1 else 0
theorem low_high (u : Nat) (h : u < 256) (h0 : u ≠ 0) : low u < 8 ∧ 1 ≤ high u ∧ high u ≤ 8 ∧ u.testBit (low u) = true ∧ u.testBit (high u - 1) = true ∧ ∀ i, i < 8 → u.testBit i = true → low u ≤ i ∧ i ≤ high u - 1 := by
  have e : ∀ u : Fin 256, u.val ≠ 0 → low u.val < 8 ∧ 1 ≤ high u.val ∧ high u.val ≤ 8 ∧ u.val.testBit (low u.val) = true ∧ u.val.testBit (high u.val - 1) = true ∧ ∀ i : Fin 8, u.val.testBit i.val = true → low u.val ≤ i.val ∧ i.val ≤ high u.val - 1 := by decide +kernel
  obtain ⟨h1, h2, h3, h4, h5, h6⟩ := e ⟨u, h⟩ h0
  exact ⟨h1, h2, h3, h4, h5, fun i hi ht => h6 ⟨i, hi⟩ ht⟩

/-- one octet more -/
theorem span_alike {xs ys : List UInt8} {j : Nat} {x y : UInt8} {f l : Int} (h : Span (8 * j) (num xs ^^^ num ys) f l) (hx : xs[j]? = some x) (hy : ys[j]? = some y) (hu : x.toNat ^^^ y.toNat = 0) : Span (8 * (j + 1)) (num xs ^^^ num ys) f l := by
  refine h.skip _ (fun i h1 h2 => ?_) (by omega)
  obtain ⟨d, rfl⟩ := Nat.exists_eq_add_of_le h1
  rw [Nat.testBit_xor, num_bit xs j d x hx (by omega), num_bit ys j d y hy (by omega), ← Nat.testBit_xor, hu, Nat.zero_testBit]
theorem span_unlike {xs ys : List UInt8} {j : Nat} {x y : UInt8} {f l : Int} (h : Span (8 * j) (num xs ^^^ num ys) f l) (hx : xs[j]? = some x) (hy : ys[j]? = some y) (u : Nat) (hu : x.toNat ^^^ y.toNat = u) (h0 : u ≠ 0) :
    Span (8 * (j + 1)) (num xs ^^^ num ys) (if f < 0 then (8 * j + low u : Nat) else f) ((8 * j + (high u - 1) : Nat)) := by
  have hlt : u < 256 := by
    rw [← hu]
    have h1 := x.toNat_lt
    have h2 := y.toNat_lt
    exact Nat.xor_lt_two_pow (n := 8) (by omega) (by omega)
  obtain ⟨h1, h2, h3, h4, h5, h6⟩ := low_high u hlt h0
  have hb : ∀ i, i < 8 → (num xs ^^^ num ys).testBit (8 * j + i) = u.testBit i := fun i hi => by
    rw [Nat.testBit_xor, num_bit xs j i x hx hi, num_bit ys j i y hy hi, ← Nat.testBit_xor, hu]
  have h7 := h6 _ h1 h4
  refine h.more _ _ _ (by omega) (by omega) (by omega) (by omega) (by rw [hb _ (by omega), h4]) (by rw [hb _ (by omega), h5]) fun i hi hi2 ht => ?_
  obtain ⟨d, rfl⟩ := Nat.exists_eq_add_of_le hi
  rw [hb _ (by omega)] at ht
  have := h6 d (by omega) ht
  omega
end Go.Proofs.YtapklelkcicjlaaGreatDoor.Oc

/-! Contracts of crc.More and crc.Sum, and of the reference's. No conditions. -/
namespace Go.Proofs.YtapklelkcicjlaaGreatDoor.W
set_option maxRecDepth 100000
open Go.RowKit Oc
set_option linter.unusedVariables false

/-- the sixteen numbers, as cells -/
def tabArr : Array Value := (fours.map (Value.int .u32)).toArray
theorem tab_at {k : Nat} (h : k < 16) : tabArr[k]? = some (.int .u32 ((halves 4 k : Nat) : Int)) := by
  have := fours_at h
  unfold tabArr
  simp [this]
/-- the table holds them -/
def Env (w : World) : Prop := ∃ t fr, w.heap[1]? = some (.cells tabArr t fr)
theorem Env.lt {w : World} (h : Env w) : 1 < w.heap.size := by
  obtain ⟨t, fr, hh⟩ := h
  rcases Nat.lt_or_ge 1 w.heap.size with h1 | h1
  · exact h1
  · rw [Array.getElem?_eq_none h1] at hh; cases hh
theorem Env.cell {w : World} (h : Env w) {k : Nat} (hk : k < 16) : w.cell? ⟨1, k, none⟩ = some (.int .u32 ((halves 4 k : Nat) : Int)) := by
  obtain ⟨t, fr, hh⟩ := h
  rw [cell_of_row w _ k _ _ _ hh]
  exact tab_at hk
theorem Env.below {w w' : World} (h : Env w) (hb : Below w.heap.size w w') : Env w' := by
  have hl := h.lt
  obtain ⟨t, fr, hh⟩ := h
  exact ⟨t, fr, (hb.block _ hl).trans hh⟩
theorem Env.alloc {w : World} (h : Env w) (o : Obj) : Env (w.alloc o) := h.below ((Below.refl _ _).alloc (Nat.le_refl _) _)

theorem xor_oct {a : Nat} {x : UInt8} {y : Nat} (ha : a < 4294967296) (h : a ^^^ x.toNat = y) : bits BinOp.xor IntKind.u32 (a : Int) (x.toNat : Int) = (y : Int) := by
  have hx := x.toNat_lt
  rw [u32_xor_nat _ _ ha (by omega), h]
theorem and15 {y : Nat} (h : y < 4294967296) : bits BinOp.and IntKind.u32 (y : Int) 15 = ((y % 16 : Nat) : Int) := by
  rw [← nat_mask4]
  exact u32_and_nat y 15 h (by decide)

theorem four_step {y z : Nat} (h : y < 4294967296) (hz : halves 4 y = z) : bits BinOp.xor IntKind.u32 ((y : Int) / 16) ((halves 4 (y % 16) : Nat) : Int) = (z : Int) := by
  have e : (y : Int) / 16 = ((y / 16 : Nat) : Int) := by omega
  rw [e, u32_xor_nat _ _ (by omega) (halves_lt 4 (by omega)), ← halves_four, hz]

theorem not_sum {s : Nat} (h : s < 4294967296) : bits BinOp.xor IntKind.u32 IntKind.u32.max (s : Int) = ((full ^^^ s : Nat) : Int) := u32_xor_nat full s full_lt h
theorem xor_full {s : Nat} (h : s < 4294967296) : bits BinOp.xor IntKind.u32 (s : Int) 4294967295 = ((full ^^^ s : Nat) : Int) := by
  rw [Nat.xor_comm]
  exact u32_xor_nat s full h full_lt

set_option maxHeartbeats 1000000 in
theorem more_any (A : Option Addr) (n c : Nat) (xs : List UInt8) (s r : Nat) (w : World) (hn : n ≤ 1000000000) (ho : Oct w A n xs) (he : Env w) (hs : s < 4294967296) (hr : more s xs = r) :
    Calls Tryz.prog 130 #[.int .u32 (s : Int), .slice A n c] w fun e w' => e = .returned (.int .u32 (r : Int)) ∧ w = w' := by
  have HO := Lib.hid ho
  have HR := Lib.hid hr
  have HE := Lib.hid he
  have HS := Lib.hid hs
  clear ho hr he hs
  go_enter Tryz.func130, Tryz.ntmps130
  go_wp2
  go_loop [5, 12] (fun s' q => ∃ j a : Nat, j ≤ n ∧ q = .int .i64 j ∧ s' = .int .u32 a ∧ a < 4294967296 ∧ Hid (runs (full ^^^ s) (xs.take j) = a)) (fun _ q => n - (intOf q).toNat)
  case atStart => exact ⟨0, _, by omega, rfl, by rw [not_sum HS.out], Nat.xor_lt_two_pow (n := 32) full_lt HS.out, rfl⟩
  case round =>
    obtain ⟨j, a, hj, rfl, rfl, ha, E⟩ := hrel
    by_cases hlt : j < n
    · obtain ⟨b, off, x, rfl, hx, hcell⟩ := HO.out.at_ (k := j) (by omega)
      have HX := Lib.hid hx
      clear hx
      obtain ⟨y, ey⟩ : ∃ y, a ^^^ x.toNat = y := ⟨_, rfl⟩
      obtain ⟨z, ez⟩ : ∃ z, halves 4 y = z := ⟨_, rfl⟩
      have hxl := x.toNat_lt
      have hy : y < 4294967296 := by rw [← ey]; exact Nat.xor_lt_two_pow (n := 32) ha (by omega)
      have hz : z < 4294967296 := by rw [← ez]; exact halves_lt 4 hy
      have e1 : bits BinOp.xor IntKind.u32 (a : Int) (x.toNat : Int) = (y : Int) := xor_oct ha ey
      have e2 : bits BinOp.and IntKind.u32 (y : Int) 15 = ((y % 16 : Nat) : Int) := and15 hy
      have c2 := HE.out.cell (k := y % 16) (by omega)
      have e4 : bits BinOp.and IntKind.u32 (z : Int) 15 = ((z % 16 : Nat) : Int) := and15 hz
      have c4 := HE.out.cell (k := z % 16) (by omega)
      have e3 := four_step hy ez
      have e5 := four_step hz (z := _) rfl
      have EZ := Lib.hid ez
      have EY := Lib.hid ey
      clear ey ez
      go_wp2
      go_round
      case rel => exact ⟨j + 1, _, by omega, rfl, rfl, halves_lt 4 hz, by show runs _ _ = _; rw [runs_take _ xs j x HX.out, E.out, upd, EY.out, halves_eight, EZ.out]⟩
      case measure => simp [intOf]; omega
    · have : j = n := by omega
      subst this
      have hl := HO.out.len
      have e : full ^^^ a = r := by rw [← HR.out, ← E.out, ← hl, List.take_length]; rfl
      have e1 : bits BinOp.xor IntKind.u32 IntKind.u32.max (a : Int) = (r : Int) := by rw [not_sum ha, e]
      clear hl e
      go_wp2
      go_ret
      exact ⟨rfl, rfl⟩

theorem odd_step {a : Nat} (h : a < 4294967296) (ho : a % 2 = 1) : bits BinOp.xor IntKind.u32 ((a : Int) / 2) 3988292384 = ((half a : Nat) : Int) := by
  have e : (a : Int) / 2 = ((a / 2 : Nat) : Int) := by omega
  rw [half_odd ho, e]
  exact u32_xor_nat (a / 2) 3988292384 (by omega) (by decide)

set_option maxHeartbeats 2000000 in
theorem rmore_any (A : Option Addr) (n c : Nat) (xs : List UInt8) (s r : Nat) (w : World) (hn : n ≤ 1000000000) (ho : Oct w A n xs) (hs : s < 4294967296) (hr : more s xs = r) :
    Calls Tryz.prog 150 #[.int .u32 (s : Int), .slice A n c] w fun e w' => e = .returned (.int .u32 (r : Int)) ∧ w = w' := by
  have HO := Lib.hid ho
  have HR := Lib.hid hr
  have HS := Lib.hid hs
  clear ho hr hs
  go_enter Tryz.func150, Tryz.ntmps150
  go_wp2
  go_loop [5, 6] (fun s' q => ∃ j a : Nat, j ≤ n ∧ q = .int .i64 j ∧ s' = .int .u32 a ∧ a < 4294967296 ∧ Hid (runs (full ^^^ s) (xs.take j) = a)) (fun _ q => n - (intOf q).toNat)
  case atStart => exact ⟨0, _, by omega, rfl, by rw [xor_full HS.out], Nat.xor_lt_two_pow (n := 32) full_lt HS.out, rfl⟩
  case round =>
    obtain ⟨j, a, hj, rfl, rfl, ha, E⟩ := hrel
    by_cases hlt : j < n
    · obtain ⟨b, off, x, rfl, hx, hcell⟩ := HO.out.at_ (k := j) (by omega)
      have HX := Lib.hid hx
      clear hx
      obtain ⟨y, ey⟩ : ∃ y, a ^^^ x.toNat = y := ⟨_, rfl⟩
      have hxl := x.toNat_lt
      have hy : y < 4294967296 := by rw [← ey]; exact Nat.xor_lt_two_pow (n := 32) ha (by omega)
      have e1 : bits BinOp.xor IntKind.u32 (a : Int) (x.toNat : Int) = (y : Int) := xor_oct ha ey
      have EY := Lib.hid ey
      clear ey
      go_wp2
      clear e1
      go_loop [5, 7] (fun s' q => ∃ k a' : Nat, k ≤ 8 ∧ q = .int .i64 k ∧ s' = .int .u32 a' ∧ a' < 4294967296 ∧ Hid (halves k y = a')) (fun _ q => 8 - (intOf q).toNat)
      case atStart => exact ⟨0, y, by omega, rfl, rfl, hy, rfl⟩
      case round =>
        obtain ⟨k, a', hk, rfl, rfl, ha', E'⟩ := hrel
        by_cases hlt8 : k < 8
        · by_cases hodd : a' % 2 = 1
          · have e2 := odd_step ha' hodd
            go_wp2
            go_round
            case rel => exact ⟨k + 1, _, by omega, rfl, rfl, half_lt ha', by show halves _ _ = _; rw [halves_succ, E'.out]⟩
            case measure => simp [intOf]; omega
          · have hev : a' % 2 = 0 := by omega
            have e2 : half a' = a' / 2 := half_even hev
            have E2 := Lib.hid e2
            clear e2
            go_wp2
            go_round
            case rel => exact ⟨k + 1, a' / 2, by omega, rfl, by go_num, by omega, by show halves _ _ = _; rw [halves_succ, E'.out, E2.out]⟩
            case measure => simp [intOf]; omega
        · have : k = 8 := by omega
          subst this
          go_wp2
          go_round
          case rel => exact ⟨j + 1, a', by omega, rfl, rfl, ha', by show runs _ _ = _; rw [runs_take _ xs j x HX.out, E.out, upd, EY.out, E'.out]⟩
          case measure => simp [intOf]; omega
    · have : j = n := by omega
      subst this
      have hl := HO.out.len
      have e : full ^^^ a = r := by rw [← HR.out, ← E.out, ← hl, List.take_length]; rfl
      have e1 : bits BinOp.xor IntKind.u32 (a : Int) 4294967295 = (r : Int) := by rw [xor_full ha, e]
      clear hl e
      go_wp2
      go_ret
      exact ⟨rfl, rfl⟩

theorem rsum_any (A : Option Addr) (n c : Nat) (xs : List UInt8) (r : Nat) (w : World) (hn : n ≤ 1000000000) (ho : Oct w A n xs) (hr : sum xs = r) :
    Calls Tryz.prog 125 #[.slice A n c] w fun e w' => e = .returned (.int .u32 (r : Int)) ∧ w = w' := by
  have HO := Lib.hid ho
  have HR := Lib.hid hr
  clear ho hr
  go_enter Tryz.func125, Tryz.ntmps125
  go_wp2_with fail
  refine (rmore_any _ _ _ xs 0 r _ hn HO.out (by decide) HR.out).mono ?_; rintro e w' ⟨rfl, rfl⟩
  go_wp2
  go_ret
  exact ⟨rfl, rfl⟩

/-- the sum of one part, and of two -/
theorem sum_one (A : Option Addr) (n c : Nat) (xs : List UInt8) (r b : Nat) (w : World) (hn : n ≤ 1000000000) (h0 : w.cell? ⟨b, 0, none⟩ = some (.slice A n c)) (ho : Oct w A n xs) (he : Env w) (hr : sum xs = r) :
    Calls Tryz.prog 107 #[.slice (some ⟨b, 0, none⟩) 1 1] w fun e w' => e = .returned (.int .u32 (r : Int)) ∧ w = w' := by
  have HO := Lib.hid ho
  have HR := Lib.hid hr
  have HE := Lib.hid he
  clear ho hr he
  go_enter Tryz.func107, Tryz.ntmps107
  go_wp2
  go_loop [3, 8] (fun s' q => ∃ j : Nat, j ≤ 1 ∧ q = .int .i64 j ∧ s' = .int .u32 (if j = 0 then 0 else r : Nat)) (fun _ q => 1 - (intOf q).toNat)
  case atStart => exact ⟨0, by omega, rfl, rfl⟩
  case round =>
    obtain ⟨j, hj, rfl, rfl⟩ := hrel
    rcases j with _ | _ | j
    · go_wp2_with fail
      refine (more_any _ _ _ xs 0 r _ hn HO.out HE.out (by decide) HR.out).mono ?_; rintro e w' ⟨rfl, rfl⟩
      go_wp2
      go_round
      case rel => exact ⟨1, by omega, rfl, rfl⟩
      case measure => simp [intOf]
    · go_wp2
      go_ret
      exact ⟨rfl, rfl⟩
    · omega

theorem sum_two (A A2 : Option Addr) (n n2 c c2 : Nat) (xs ys : List UInt8) (r b : Nat) (w : World) (hn : n ≤ 1000000000) (hn2 : n2 ≤ 1000000000) (h0 : w.cell? ⟨b, 0, none⟩ = some (.slice A n c)) (h1 : w.cell? ⟨b, 1, none⟩ = some (.slice A2 n2 c2)) (ho : Oct w A n xs) (ho2 : Oct w A2 n2 ys) (he : Env w) (hr : sum (xs ++ ys) = r) :
    Calls Tryz.prog 107 #[.slice (some ⟨b, 0, none⟩) 2 2] w fun e w' => e = .returned (.int .u32 (r : Int)) ∧ w = w' := by
  have HO := Lib.hid ho
  have HO2 := Lib.hid ho2
  have HE := Lib.hid he
  rw [sum_append] at hr
  obtain ⟨u, hu⟩ : ∃ u, sum xs = u := ⟨_, rfl⟩
  have hul : u < 4294967296 := by rw [← hu]; exact sum_lt xs
  rw [hu] at hr
  have HR := Lib.hid hr
  have HU := Lib.hid hu
  clear ho ho2 hr he hu
  go_enter Tryz.func107, Tryz.ntmps107
  go_wp2
  go_loop [3, 8] (fun s' q => ∃ j : Nat, j ≤ 2 ∧ q = .int .i64 j ∧ s' = .int .u32 (if j = 0 then 0 else if j = 1 then u else r : Nat)) (fun _ q => 2 - (intOf q).toNat)
  case atStart => exact ⟨0, by omega, rfl, rfl⟩
  case round =>
    obtain ⟨j, hj, rfl, rfl⟩ := hrel
    rcases j with _ | _ | _ | j
    · go_wp2_with fail
      refine (more_any _ _ _ xs 0 u _ hn HO.out HE.out (by decide) HU.out).mono ?_; rintro e w' ⟨rfl, rfl⟩
      go_wp2
      go_round
      case rel => exact ⟨1, by omega, rfl, rfl⟩
      case measure => simp [intOf]
    · go_wp2_with fail
      refine (more_any _ _ _ ys u r _ hn2 HO2.out HE.out hul HR.out).mono ?_; rintro e w' ⟨rfl, rfl⟩
      go_wp2
      go_round
      case rel => exact ⟨2, by omega, rfl, rfl⟩
      case measure => simp [intOf]
    · go_wp2
      go_ret
      exact ⟨rfl, rfl⟩
    · omega
end Go.Proofs.YtapklelkcicjlaaGreatDoor.W

/-! Contracts of crc.Seal and crc.Open, and of the reference's. No conditions. -/
namespace Go.Proofs.YtapklelkcicjlaaGreatDoor.W
set_option maxRecDepth 100000
open Go.RowKit Oc
set_option linter.unusedVariables false

theorem bthen {w a b : World} (h : Below w.heap.size w a) (k : Below a.heap.size a b) : Below w.heap.size w b := h.trans (k.mono h.size)
theorem balloc (w : World) (o : Obj) : Below w.heap.size w (w.alloc o) := (Below.refl _ _).alloc (Nat.le_refl _) _
theorem one_cell (w : World) (u : Value) (T : TypeId) : (w.alloc (.cells #[u] T)).cell? ⟨w.heap.size, 0, none⟩ = some u := by
  rw [cell_of_row _ _ _ _ _ _ (heap_alloc_new w (.cells #[u] T))]; rfl
theorem two_cells (w : World) (u v : Value) (T : TypeId) : (w.alloc (.cells #[u, v] T)).cell? ⟨w.heap.size, 0, none⟩ = some u ∧ (w.alloc (.cells #[u, v] T)).cell? ⟨w.heap.size, 1, none⟩ = some v := by
  have h := heap_alloc_new w (.cells #[u, v] T)
  exact ⟨by rw [cell_of_row _ _ _ _ _ _ h]; rfl, by rw [cell_of_row _ _ _ _ _ _ h]; rfl⟩
theorem join_new (A A2 : Option Addr) (n n2 c c2 : Nat) (xs ys : List UInt8) (w : World) (hn : n ≤ 1000000000) (hn2 : n2 ≤ 1000000000) (ho : Oct w A n xs) (ho2 : Oct w A2 n2 ys) :
    Calls Tryz.prog 104 #[.slice (some ⟨w.heap.size, 0, none⟩) 2 2] (w.alloc (.cells #[.slice A n c, .slice A2 n2 c2] 57)) (Made w (xs ++ ys)) := by
  obtain ⟨h0, h1⟩ := two_cells w (.slice A n c) (.slice A2 n2 c2) 57
  refine (join_two A A2 n n2 c c2 xs ys w.heap.size _ hn hn2 h0 h1 (ho.alloc _) (ho2.alloc _)).mono ?_
  rintro e w' ⟨v, rfl, o, b⟩
  exact ⟨v, rfl, o.more (by simp), ((Below.refl _ _).alloc (Nat.le_refl _) _).trans (b.mono (by simp))⟩
theorem sum_new (A : Option Addr) (n c : Nat) (xs : List UInt8) (r : Nat) (w : World) (hn : n ≤ 1000000000) (ho : Oct w A n xs) (he : Env w) (hr : sum xs = r) :
    Calls Tryz.prog 107 #[.slice (some ⟨w.heap.size, 0, none⟩) 1 1] (w.alloc (.cells #[.slice A n c] 57)) fun e w' => e = .returned (.int .u32 (r : Int)) ∧ w.alloc (.cells #[.slice A n c] 57) = w' :=
  sum_one A n c xs r _ _ hn (one_cell w _ _) (ho.alloc _) (he.alloc _) hr
theorem sum_new2 (A A2 : Option Addr) (n n2 c c2 : Nat) (xs ys : List UInt8) (r : Nat) (w : World) (hn : n ≤ 1000000000) (hn2 : n2 ≤ 1000000000) (ho : Oct w A n xs) (ho2 : Oct w A2 n2 ys) (he : Env w) (hr : sum (xs ++ ys) = r) :
    Calls Tryz.prog 107 #[.slice (some ⟨w.heap.size, 0, none⟩) 2 2] (w.alloc (.cells #[.slice A n c, .slice A2 n2 c2] 57)) fun e w' => e = .returned (.int .u32 (r : Int)) ∧ w.alloc (.cells #[.slice A n c, .slice A2 n2 c2] 57) = w' :=
  sum_two A A2 n n2 c c2 xs ys r _ _ hn hn2 (two_cells w _ _ _).1 (two_cells w _ _ _).2 (ho.alloc _) (ho2.alloc _) (he.alloc _) hr

/-- what is sealed -/
def sealed (xs : List UInt8) : List UInt8 := xs ++ octs (sum xs) 4
theorem seal_length (xs : List UInt8) : (sealed xs).length = xs.length + 4 := by rw [sealed, List.length_append, octs_length]
/-- what Open tells -/
def openE (ys : List UInt8) : Int := if ys.length < 4 then 30 else if num (ys.drop (ys.length - 4)) = sum (ys.take (ys.length - 4)) then 0 else 40
def openL (ys : List UInt8) : List UInt8 := if openE ys = 0 then ys.take (ys.length - 4) else []
theorem openE_short {ys : List UInt8} (h : ys.length < 4) : openE ys = 30 := if_pos h
theorem openE_yes {ys : List UInt8} (h : ¬ ys.length < 4) (h2 : num (ys.drop (ys.length - 4)) = sum (ys.take (ys.length - 4))) : openE ys = 0 := by
  unfold openE
  rw [if_neg h, if_pos h2]
theorem openE_no {ys : List UInt8} (h : ¬ ys.length < 4) (h2 : ¬ num (ys.drop (ys.length - 4)) = sum (ys.take (ys.length - 4))) : openE ys = 40 := by
  unfold openE
  rw [if_neg h, if_neg h2]
theorem openL_yes {ys : List UInt8} (h : openE ys = 0) : openL ys = ys.take (ys.length - 4) := if_pos h
theorem openL_no {ys : List UInt8} (h : openE ys ≠ 0) : openL ys = [] := if_neg h
theorem num_sum (xs : List UInt8) : num (octs (sum xs) 4) = sum xs := by
  rw [num_octs]
  exact Nat.mod_eq_of_lt (sum_lt xs)
theorem seal_take (xs : List UInt8) : (sealed xs).take ((sealed xs).length - 4) = xs := by
  have e : (sealed xs).length - 4 = xs.length := by rw [seal_length]; omega
  rw [e, sealed, List.take_left]
theorem seal_drop (xs : List UInt8) : (sealed xs).drop ((sealed xs).length - 4) = octs (sum xs) 4 := by
  have e : (sealed xs).length - 4 = xs.length := by rw [seal_length]; omega
  rw [e, sealed, List.drop_left]
theorem openE_seal (xs : List UInt8) : openE (sealed xs) = 0 := openE_yes (by rw [seal_length]; omega) (by rw [seal_take, seal_drop, num_sum])
theorem openL_seal (xs : List UInt8) : openL (sealed xs) = xs := by rw [openL_yes (openE_seal xs), seal_take]

set_option maxHeartbeats 1000000 in
theorem seal_any (A : Option Addr) (n c : Nat) (xs : List UInt8) (w : World) (hn : n ≤ 1000000000) (ho : Oct w A n xs) (he : Env w) :
    Calls Tryz.prog 133 #[.slice A n c] w (Made w (sealed xs)) := by
  have HO := Lib.hid ho
  have HE := Lib.hid he
  obtain ⟨u, hu⟩ : ∃ u, sum xs = u := ⟨_, rfl⟩
  have hul : u < 4294967296 := by rw [← hu]; exact sum_lt xs
  have HU := Lib.hid hu
  clear ho he hu
  go_enter Tryz.func133, Tryz.ntmps133
  go_wp2_with fail
  refine (sum_new _ _ _ xs u _ hn HO.out HE.out HU.out).mono ?_; rintro e w' ⟨rfl, rfl⟩
  go_wp2_with fail
  refine (put_yes _ _ _ xs u 4 _ hn (HO.out.alloc _) (by omega) (by decide) (by decide)).mono ?_; rintro e w1 ⟨v, rfl, o, b⟩
  have O := Lib.hid o
  have B := Lib.hid b
  clear o b
  go_wp2
  go_ret
  refine ⟨_, rfl, ?_, bthen (balloc _ _) B.out⟩
  rw [sealed, HU.out]
  exact O.out.more (by simp)

set_option maxHeartbeats 1000000 in
theorem rseal_any (A : Option Addr) (n c : Nat) (xs : List UInt8) (w : World) (hn : n ≤ 1000000000) (ho : Oct w A n xs) :
    Calls Tryz.prog 129 #[.slice A n c] w (Made w (sealed xs)) := by
  have HO := Lib.hid ho
  obtain ⟨u, hu⟩ : ∃ u, sum xs = u := ⟨_, rfl⟩
  have hul : u < 4294967296 := by rw [← hu]; exact sum_lt xs
  have HU := Lib.hid hu
  clear ho hu
  go_enter Tryz.func129, Tryz.ntmps129
  go_wp2_with fail
  refine (rsum_any _ _ _ xs u _ hn HO.out HU.out).mono ?_; rintro e w' ⟨rfl, rfl⟩
  go_wp2_with fail
  refine (num_yes u 4 _ (by omega) (by decide)).mono ?_; rintro e w1 ⟨v, rfl, o, b⟩
  obtain ⟨A1, c1, rfl, l1, s1⟩ := o.form (n := 4) (octs_length _ _)
  have S1 := Lib.hid s1
  have B := Lib.hid b
  clear o b s1
  go_wp2_with fail
  refine (join_new A A1 n 4 c c1 xs _ _ hn (by decide) (HO.out.below B.out) S1.out).mono ?_; rintro e w2 ⟨v, rfl, o, b⟩
  have O := Lib.hid o
  have B2 := Lib.hid b
  clear o b
  go_wp2
  go_ret
  refine ⟨_, rfl, ?_, bthen B.out B2.out⟩
  rw [sealed, HU.out]
  exact O.out.more B.out.size

/-- what a call leaves that opens octets -/
def Opened (w : World) (ys : List UInt8) (e : Ending) (w' : World) : Prop := ∃ v, e = .returned (.tuple #[v, .int .i64 (openE ys)]) ∧ Own w' 5 w.heap.size v (openL ys) ∧ Below w.heap.size w w'
theorem opened_no {w w' : World} {ys : List UInt8} {k : Int} (h : openE ys = k) (hk : k ≠ 0) (hb : Below w.heap.size w w') : Opened w ys (.returned (.tuple #[.slice none 0 0, .int .i64 k])) w' := by
  subst h
  refine ⟨_, rfl, ?_, hb⟩
  rw [openL_no hk]
  exact Own.nil _ _ _

theorem opened_yes {w w' : World} {ys zs : List UInt8} {v : Value} (h : openE ys = 0) (h2 : openL ys = zs) (ho : Own w' 5 w.heap.size v ([] ++ zs)) (hb : Below w.heap.size w w') : Opened w ys (.returned (.tuple #[v, .int .i64 0])) w' := by
  refine ⟨v, by rw [h], ?_, hb⟩
  rw [h2]
  exact ho

set_option maxHeartbeats 2000000 in
theorem open_any (A : Option Addr) (n c : Nat) (ys : List UInt8) (w : World) (hn : n ≤ 1000000000) (hc : n ≤ c) (ho : Oct w A n ys) (he : Env w) :
    Calls Tryz.prog 157 #[.slice A n c] w (Opened w ys) := by
  have HO := Lib.hid ho
  have HE := Lib.hid he
  have hl := ho.len
  have HL := Lib.hid hl
  by_cases h4 : n < 4
  · have hk := openE_short (ys := ys) (by omega)
    have HK := Lib.hid hk
    clear ho he hl hk
    go_enter Tryz.func157, Tryz.ntmps157
    go_wp2_with fail
    refine (at_no _ _ _ _ _ _ hn (by omega)).mono ?_; rintro e w' ⟨rfl, rfl⟩
    go_wp2
    go_ret2
    exact opened_no HK.out (by decide) (Below.refl _ _)
  · obtain ⟨m, rfl⟩ : ∃ m, n = m + 4 := ⟨n - 4, by omega⟩
    obtain ⟨u, hu⟩ : ∃ u, sum (ys.take m) = u := ⟨_, rfl⟩
    have hul : u < 4294967296 := by rw [← hu]; exact sum_lt _
    obtain ⟨v, hv⟩ : ∃ v, num ((ys.drop m).take 4) = v := ⟨_, rfl⟩
    have hd : (ys.drop m).take 4 = ys.drop m := List.take_of_length_le (by rw [List.length_drop, hl]; omega)
    have hv2 : num (ys.drop m) = v := by rw [← hd]; exact hv
    have hm : ys.length - 4 = m := by omega
    have HU := Lib.hid hu
    have HV := Lib.hid hv
    by_cases hq : v = u
    · subst hq
      have hk := openE_yes (ys := ys) (by omega) (by rw [hm, hu, hv2])
      have hk2 := openL_yes hk
      rw [hm] at hk2
      have HK := Lib.hid hk
      have HK2 := Lib.hid hk2
      clear ho he hl hk hk2 hu hv hd hv2 hm h4
      go_enter Tryz.func157, Tryz.ntmps157
      go_wp2_with fail
      refine (at_yes _ _ _ ys m 4 _ hn HO.out (by decide) (by decide) (by omega) v HV.out).mono ?_; rintro e w' ⟨rfl, rfl⟩
      go_wp2_with fail
      refine (sum_new _ _ _ _ v _ (by omega) (HO.out.take (k := m) (by omega)) HE.out HU.out).mono ?_; rintro e w' ⟨rfl, rfl⟩
      have o0 := Own.nil (w.alloc (.cells #[.slice A m c] 57)) 5 w.heap.size
      have O0 := Lib.hid o0
      clear o0
      go_wp2_with (at_builtin; refine wpList_append_to rfl _ _ 57 rfl bt rfl O0.out (balloc _ _) _ rfl ((HO.out.take (k := m) (by omega)).alloc _) (by simp; omega) ?_; intro v1 w1 o1 b1; have O1 := Lib.hid o1; have B1 := Lib.hid b1; clear o1 b1)
      go_ret2
      exact opened_yes HK.out HK2.out O1.out B1.out
    · have hk := openE_no (ys := ys) (by omega) (by rw [hm, hu, hv2]; exact hq)
      have HK := Lib.hid hk
      clear ho he hl hk hu hv hd hv2 hm h4
      go_enter Tryz.func157, Tryz.ntmps157
      go_wp2_with fail
      refine (at_yes _ _ _ ys m 4 _ hn HO.out (by decide) (by decide) (by omega) v HV.out).mono ?_; rintro e w' ⟨rfl, rfl⟩
      go_wp2_with fail
      refine (sum_new _ _ _ _ u _ (by omega) (HO.out.take (k := m) (by omega)) HE.out HU.out).mono ?_; rintro e w' ⟨rfl, rfl⟩
      go_wp2
      go_ret2
      exact opened_no HK.out (by decide) (balloc _ _)

theorem quiet {P : Program} {f : FuncId} {args : Array Value} {w : World} {n : Nat} {v : Value} (h : Calls P f args (w.drewN n) fun e w' => e = .returned v ∧ w.drewN n = w') : Calls P f args (w.drewN n) fun e w'' => e = .returned v ∧ ∃ m, w'' = w.drewN m :=
  h.mono fun _ _ ⟨he, hm⟩ => ⟨he, n, hm.symm⟩
theorem cut_lo (A : Option Addr) (n m c k : Nat) (h : m ≤ n) (hk : n - m = k) (hc : c ≠ m) (w : World) : (Instr.slice 57 (.slice A n c) (some (.int .i64 (m : Int))) none none).run Tryz.prog w = .ok (.slice (Option.map (fun x => x.add m) A) k (c - m)) w := by
  obtain ⟨i, hi, hz0, hz1, hz2⟩ := info_parts bt.info
  subst hk
  rw [run_slice_l w 57 A n c Tryz.underlying57 .i64 m (by omega) (by omega)]
  show ((sizeOf 5).run Tryz.prog w).andThen _ = _
  simp [sizeOf, typeInfo, hi, hz1, sliced, hc]
theorem cut_hi (A : Option Addr) (n m c : Nat) (h : m ≤ c) (w : World) : (Instr.slice 57 (.slice A n c) none (some (.int .i64 (m : Int))) none).run Tryz.prog w = .ok (.slice A m c) w := by
  obtain ⟨i, hi, hz0, hz1, hz2⟩ := info_parts bt.info
  rw [run_slice_h w 57 A n c Tryz.underlying57 .i64 m (by omega) (by omega)]
  show ((sizeOf 5).run Tryz.prog w).andThen _ = _
  by_cases hc : c = 0
  · simp [sizeOf, typeInfo, hi, hz1, sliced, hc]
  · rcases A with _ | a
    · simp [sizeOf, typeInfo, hi, hz1, sliced, hc]
    · simp [sizeOf, typeInfo, hi, hz1, sliced, hc, Addr.add]

/-- the reference tells a part of what it got -/
def ROpened2 (w : World) (ys : List UInt8) (e : Ending) (w' : World) : Prop := ∃ A m c, m ≤ c ∧ e = .returned (.tuple #[.slice A m c, .int .i64 (openE ys)]) ∧ Oct w A m (openL ys) ∧ ∃ k, w' = w.drewN k
def ROpened (w : World) (ys : List UInt8) (e : Ending) (w' : World) : Prop := ∃ A m c, e = .returned (.tuple #[.slice A m c, .int .i64 (openE ys)]) ∧ Oct w A m (openL ys) ∧ ∃ k, w' = w.drewN k
theorem ropened_no {w : World} {ys : List UInt8} {k : Int} (h : openE ys = k) (hk : k ≠ 0) (j : Nat) : ROpened2 w ys (.returned (.tuple #[.slice none 0 0, .int .i64 k])) (w.drewN j) := by
  subst h
  refine ⟨none, 0, 0, Nat.le_refl _, rfl, ?_, j, rfl⟩
  rw [openL_no hk]
  exact Oct.nil _ _
theorem ropened_yes {w : World} {A : Option Addr} {m c : Nat} {ys zs : List UInt8} (h : openE ys = 0) (h2 : openL ys = zs) (ho : Oct w A m zs) (hc : m ≤ c) (j : Nat) : ROpened2 w ys (.returned (.tuple #[.slice A m c, .int .i64 0])) (w.drewN j) := by
  refine ⟨A, m, c, hc, by rw [h], ?_, j, rfl⟩
  rw [h2]
  exact ho

set_option maxHeartbeats 2000000 in
theorem ropen2_any (A : Option Addr) (n c : Nat) (ys : List UInt8) (w : World) (hn : n ≤ 1000000000) (hc : n ≤ c) (ho : Oct w A n ys) :
    Calls Tryz.prog 151 #[.slice A n c] w (ROpened2 w ys) := by
  have HO := Lib.hid ho
  have hl := ho.len
  have HL := Lib.hid hl
  by_cases h4 : n < 4
  · have hk := openE_short (ys := ys) (by omega)
    have HK := Lib.hid hk
    clear ho hl hk
    go_enter Tryz.func151, Tryz.ntmps151
    go_wp2
    go_ret2
    exact ropened_no HK.out (by decide) 0
  · obtain ⟨m, rfl⟩ : ∃ m, n = m + 4 := ⟨n - 4, by omega⟩
    obtain ⟨u, hu⟩ : ∃ u, sum (ys.take m) = u := ⟨_, rfl⟩
    have hul : u < 4294967296 := by rw [← hu]; exact sum_lt _
    obtain ⟨v, hv⟩ : ∃ v, num (ys.drop m) = v := ⟨_, rfl⟩
    have hm : ys.length - 4 = m := by omega
    have hcm : c ≠ m := by omega
    have i1 := cut_lo A (m + 4) m c 4 (by omega) (by omega) hcm
    have i2 := cut_hi A (m + 4) m c (by omega)
    have r1 : ∀ k, Calls Tryz.prog 125 #[.slice A m c] (w.drewN k) fun e w' => e = .returned (.int .u32 (u : Int)) ∧ w.drewN k = w' := fun k => rsum_any A m c _ u _ (by omega) ((HO.out.take (by omega)).drewN k) hu
    have r2 : ∀ k, Calls Tryz.prog 127 #[.slice (Option.map (fun x => x.add m) A) 4 (c - m)] (w.drewN k) fun e w' => e = .returned (.int .u64 (v : Int)) ∧ w.drewN k = w' := fun k => by
      have o := HO.out.map (k := m) (by omega)
      have e : m + 4 - m = 4 := by omega
      rw [e] at o
      exact of_any _ _ _ _ _ (by decide) (o.drewN k) v hv
    have R1 := Lib.hid r1
    have R2 := Lib.hid r2
    clear r1 r2
    by_cases hq : v = u
    · subst hq
      have hk := openE_yes (ys := ys) (by omega) (by rw [hm, hu, hv])
      have hk2 := openL_yes hk
      rw [hm] at hk2
      have HK := Lib.hid hk
      have HK2 := Lib.hid hk2
      clear ho hl hk hk2 hu hv hm h4
      go_enter Tryz.func151, Tryz.ntmps151
      go_wp2_with fail
      go_quiet ((first
        | (go_at_call 127; exact quiet (R2.out _))
        | (go_at_call 125; exact quiet (R1.out _))))
      go_wp2
      go_ret2
      exact ropened_yes HK.out HK2.out (HO.out.take (by omega)) (by omega) _
    · have hk := openE_no (ys := ys) (by omega) (by rw [hm, hu, hv]; exact hq)
      have HK := Lib.hid hk
      clear ho hl hk hu hv hm h4
      go_enter Tryz.func151, Tryz.ntmps151
      go_wp2_with fail
      go_quiet ((first
        | (go_at_call 127; exact quiet (R2.out _))
        | (go_at_call 125; exact quiet (R1.out _))))
      go_wp2
      go_ret2
      exact ropened_no HK.out (by decide) _
theorem ropen_any (A : Option Addr) (n c : Nat) (ys : List UInt8) (w : World) (hn : n ≤ 1000000000) (hc : n ≤ c) (ho : Oct w A n ys) :
    Calls Tryz.prog 151 #[.slice A n c] w (ROpened w ys) :=
  (ropen2_any A n c ys w hn hc ho).mono fun _ _ ⟨A, m, c, _, h⟩ => ⟨A, m, c, h⟩
end Go.Proofs.YtapklelkcicjlaaGreatDoor.W

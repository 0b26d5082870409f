/-
  Plain facts on sums of 32 bits: halvings are linear over exclusive or; a sum in numbers; a change within 32 bits in a row is told. No conditions.
-/
import Derived.Test.YthclgehifomkhaaDoorOctNum
namespace Go.Proofs.YthclgehifomkhaaDoor.Oc

/-- all bits of a sum -/
def full : Nat := 4294967295
theorem full_eq : full = 4294967295 := rfl
theorem full_lt : full < 4294967296 := by decide

/-- halved once -/
def half (x : Nat) : Nat := if x % 2 = 1 then x / 2 ^^^ 3988292384 else x / 2
def halves : Nat → Nat → Nat
  | 0, x => x
  | k + 1, x => halves k (half x)

theorem half_odd {x : Nat} (h : x % 2 = 1) : half x = x / 2 ^^^ 3988292384 := if_pos h
theorem half_even {x : Nat} (h : x % 2 = 0) : half x = x / 2 := if_neg (by omega)
theorem xor_two (x y : Nat) : (x ^^^ y) % 2 = (x + y) % 2 := by
  have h := Nat.testBit_xor x y 0
  rw [Nat.testBit_zero, Nat.testBit_zero, Nat.testBit_zero] at h
  rcases Nat.mod_two_eq_zero_or_one (x ^^^ y) with hz | hz <;> rcases Nat.mod_two_eq_zero_or_one x with hx | hx <;> rcases Nat.mod_two_eq_zero_or_one y with hy | hy <;> simp [hx, hy, hz] at h <;> omega
theorem half_xor (x y : Nat) : half (x ^^^ y) = half x ^^^ half y := by
  have h1 : (x ^^^ y) % 2 = (x + y) % 2 := xor_two x y
  have h2 : (x ^^^ y) / 2 = x / 2 ^^^ y / 2 := Nat.xor_div_two
  rcases Nat.mod_two_eq_zero_or_one x with hx | hx <;> rcases Nat.mod_two_eq_zero_or_one y with hy | hy
  · rw [half_even (by omega), half_even hx, half_even hy, h2]
  · rw [half_odd (by omega), half_even hx, half_odd hy, h2, Nat.xor_assoc]
  · rw [half_odd (by omega), half_odd hx, half_even hy, h2, Nat.xor_assoc, Nat.xor_assoc, Nat.xor_comm 3988292384]
  · rw [half_even (by omega), half_odd hx, half_odd hy, h2]
    rw [Nat.xor_assoc, Nat.xor_comm 3988292384, Nat.xor_assoc, Nat.xor_self, Nat.xor_zero]
theorem half_two (y : Nat) : half (2 * y) = y := by rw [half_even (by omega)]; omega
theorem half_lt {x : Nat} (h : x < 4294967296) : half x < 4294967296 := by
  have h1 : x / 2 < 2 ^ 32 := by omega
  unfold half
  split
  · exact Nat.xor_lt_two_pow h1 (by decide)
  · omega
theorem half_ne {x : Nat} (h : x < 4294967296) (h0 : x ≠ 0) : half x ≠ 0 := by
  unfold half
  split
  · intro e
    have e2 : x / 2 = 3988292384 := by
      have e3 := congrArg (· ^^^ 3988292384) e
      simp only [Nat.xor_assoc, Nat.xor_self, Nat.xor_zero, Nat.zero_xor] at e3
      exact e3
    omega
  · omega

theorem halves_xor (k x y : Nat) : halves k (x ^^^ y) = halves k x ^^^ halves k y := by
  induction k generalizing x y with
  | zero => rfl
  | succ k ih => simp only [halves, half_xor, ih]
theorem halves_add (j k x : Nat) : halves (j + k) x = halves k (halves j x) := by
  induction j generalizing x with
  | zero => rw [Nat.zero_add]; rfl
  | succ j ih => rw [Nat.succ_add]; exact ih _
theorem halves_succ (k x : Nat) : halves (k + 1) x = half (halves k x) := by
  rw [halves_add k 1 x]; rfl
theorem halves_two (k y : Nat) : halves k (2 ^ k * y) = y := by
  induction k generalizing y with
  | zero => simp [halves]
  | succ k ih =>
    show halves k (half _) = y
    rw [Nat.pow_succ, Nat.mul_comm _ 2, Nat.mul_assoc, half_two, ih]
theorem halves_zero (k : Nat) : halves k 0 = 0 := by
  have := halves_two k 0
  rwa [Nat.mul_zero] at this
theorem halves_lt (k : Nat) {x : Nat} (h : x < 4294967296) : halves k x < 4294967296 := by
  induction k generalizing x with
  | zero => exact h
  | succ k ih => exact ih (half_lt h)
theorem halves_ne (k : Nat) {x : Nat} (h : x < 4294967296) (h0 : x ≠ 0) : halves k x ≠ 0 := by
  induction k generalizing x with
  | zero => exact h0
  | succ k ih => exact ih (half_lt h) (half_ne h h0)

/-- a number below, and one above -/
theorem add_xor (k a b : Nat) (h : a < 2 ^ k) : a + 2 ^ k * b = a ^^^ 2 ^ k * b := by
  apply Nat.eq_of_testBit_eq
  intro i
  rw [Nat.testBit_xor, Nat.add_comm a, Nat.testBit_two_pow_mul_add _ h]
  by_cases hi : i < k
  · simp [hi, Nat.testBit_two_pow_mul, Nat.not_le.2 hi]
  · have : a < 2 ^ i := Nat.lt_of_lt_of_le h (Nat.pow_le_pow_right (by decide) (by omega))
    simp [hi, Nat.testBit_two_pow_mul, Nat.not_lt.1 hi, Nat.testBit_lt_two_pow this]

/-- WHAT THE WAY DOES WITH AN OCTET -/
def upd (x : Nat) (o : UInt8) : Nat := halves 8 (x ^^^ o.toNat)
def runs (x : Nat) (xs : List UInt8) : Nat := xs.foldl upd x
theorem upd_lt {x : Nat} (h : x < 4294967296) (o : UInt8) : upd x o < 4294967296 := by
  have := o.toNat_lt
  exact halves_lt 8 (Nat.xor_lt_two_pow (n := 32) h (by omega))
theorem runs_lt {x : Nat} (h : x < 4294967296) (xs : List UInt8) : runs x xs < 4294967296 := by
  induction xs generalizing x with
  | nil => exact h
  | cons o xs ih => exact ih (upd_lt h o)
theorem runs_append (x : Nat) (xs ys : List UInt8) : runs x (xs ++ ys) = runs (runs x xs) ys := List.foldl_append
theorem runs_take (x : Nat) (xs : List UInt8) (k : Nat) (o : UInt8) (h : xs[k]? = some o) : runs x (xs.take (k + 1)) = upd (runs x (xs.take k)) o := by
  obtain ⟨hk, hx⟩ := List.getElem?_eq_some_iff.1 h
  rw [List.take_succ_eq_append_getElem hk, runs_append, hx]; rfl
theorem runs_num (x : Nat) (xs : List UInt8) : runs x xs = halves (8 * xs.length) (x ^^^ num xs) := by
  induction xs generalizing x with
  | nil => simp [runs, num, halves]
  | cons o xs ih =>
    have ho := o.toNat_lt
    have e : num (o :: xs) = o.toNat ^^^ 2 ^ 8 * num xs := add_xor 8 o.toNat (num xs) (by omega)
    have e2 : 8 * (o :: xs).length = 8 + 8 * xs.length := by rw [List.length_cons]; omega
    rw [e, e2, halves_add, ← Nat.xor_assoc, halves_xor 8, halves_two]
    exact ih _

/-- THE SUM -/
def more (s : Nat) (xs : List UInt8) : Nat := full ^^^ runs (full ^^^ s) xs
def sum (xs : List UInt8) : Nat := more 0 xs
theorem more_lt {s : Nat} (h : s < 4294967296) (xs : List UInt8) : more s xs < 4294967296 := by
  have h1 : full ^^^ s < 4294967296 := Nat.xor_lt_two_pow (n := 32) full_lt h
  exact Nat.xor_lt_two_pow (n := 32) full_lt (runs_lt h1 xs)
theorem sum_lt (xs : List UInt8) : sum xs < 4294967296 := more_lt (by decide) xs
theorem full_full (x : Nat) : full ^^^ (full ^^^ x) = x := by rw [← Nat.xor_assoc, Nat.xor_self, Nat.zero_xor]
theorem more_append (s : Nat) (xs ys : List UInt8) : more s (xs ++ ys) = more (more s xs) ys := by
  unfold more
  rw [full_full, runs_append]
theorem sum_append (xs ys : List UInt8) : sum (xs ++ ys) = more (sum xs) ys := more_append 0 xs ys
theorem more_nil (s : Nat) : more s [] = s := full_full s
theorem sum_num (xs : List UInt8) : sum xs = full ^^^ halves (8 * xs.length) (full ^^^ num xs) := by
  unfold sum more
  rw [Nat.xor_zero, runs_num]

/-- a change within 32 bits in a row never comes to nothing -/
theorem burst_ne (m at_ T : Nat) (hT : T < 4294967296) (h : halves m (2 ^ at_ * T) = 0) : T = 0 := by
  by_cases h0 : T = 0
  · exact h0
  · exfalso
    by_cases hle : at_ ≤ m
    · obtain ⟨d, rfl⟩ := Nat.exists_eq_add_of_le hle
      rw [halves_add, halves_two] at h
      exact halves_ne d hT h0 h
    · obtain ⟨d, rfl⟩ := Nat.exists_eq_add_of_le (Nat.le_of_lt (Nat.not_le.1 hle))
      rw [Nat.pow_add, Nat.mul_assoc, halves_two] at h
      rcases Nat.mul_eq_zero.1 h with h1 | h1
      · exact absurd h1 (Nat.ne_of_gt (Nat.pow_pos (by decide)))
      · exact h0 h1

theorem num_inj {xs ys : List UInt8} (hl : xs.length = ys.length) (h : num xs = num ys) : xs = ys := by
  induction xs generalizing ys with
  | nil => cases ys with
    | nil => rfl
    | cons y ys => cases hl
  | cons x xs ih => cases ys with
    | nil => cases hl
    | cons y ys =>
      have hx := x.toNat_lt
      have hy := y.toNat_lt
      rw [num_cons, num_cons] at h
      have e1 : x = y := UInt8.toNat_inj.1 (by omega)
      rw [e1, ih (by simpa using hl) (by omega)]

theorem xor_cancel {a b c : Nat} (h : a ^^^ b = a ^^^ c) : b = c := by
  have := congrArg (a ^^^ ·) h
  simp only [← Nat.xor_assoc, Nat.xor_self, Nat.zero_xor] at this
  exact this
theorem xor_self_eq {a b : Nat} (h : a ^^^ b = a) : b = 0 := xor_cancel (a := a) (by rw [h, Nat.xor_zero])

/-- two of one length, apart by a change within 32 bits in a row: their sums are one only if they are -/
theorem burst_sum {xs ys : List UInt8} (hl : ys.length = xs.length) (at_ T : Nat) (hT : T < 4294967296) (hy : num ys = num xs ^^^ 2 ^ at_ * T) (h : sum xs = sum ys) : xs = ys := by
  rw [sum_num, sum_num, hl, hy, ← Nat.xor_assoc, halves_xor (8 * xs.length) (full ^^^ num xs)] at h
  have h1 := xor_self_eq (xor_cancel h).symm
  have h2 := burst_ne _ _ _ hT h1
  rw [h2, Nat.mul_zero, Nat.xor_zero] at hy
  exact num_inj hl.symm hy.symm

theorem num_append (xs ys : List UInt8) : num (xs ++ ys) = num xs ^^^ 2 ^ (8 * xs.length) * num ys := by
  rw [← add_xor _ _ _ (by rw [← pow8]; exact num_lt xs)]
  induction xs with
  | nil => simp [num]
  | cons x xs ih =>
    rw [List.cons_append, num_cons, ih, num_cons, List.length_cons, ← pow8, ← pow8, pow_step, Nat.mul_add, Nat.mul_assoc, Nat.add_assoc]

/-- octets that end with the sum of those ahead -/
theorem good_iff (xs zs : List UInt8) : num zs = sum xs ↔ halves (8 * xs.length) (full ^^^ num (xs ++ zs)) = full := by
  rw [num_append, ← Nat.xor_assoc, halves_xor, halves_two, sum_num]
  generalize halves (8 * xs.length) (full ^^^ num xs) = q
  constructor
  · intro h
    rw [h, Nat.xor_comm full, ← Nat.xor_assoc, Nat.xor_self, Nat.zero_xor]
  · intro h
    rw [← h, Nat.xor_comm q, Nat.xor_assoc, Nat.xor_self, Nat.xor_zero]

/-- what is sealed, with a change within 32 bits in a row, is not opened -/
theorem burst_seal {xs zs xs' zs' : List UInt8} (hx : xs'.length = xs.length) (hz : zs'.length = zs.length) (at_ T : Nat) (hT : T < 4294967296) (hy : num (xs' ++ zs') = num (xs ++ zs) ^^^ 2 ^ at_ * T)
    (h : num zs = sum xs) (h' : num zs' = sum xs') : xs ++ zs = xs' ++ zs' := by
  rw [good_iff] at h h'
  rw [hx, hy, ← Nat.xor_assoc, halves_xor (8 * xs.length) (full ^^^ num (xs ++ zs)), h] at h'
  have h2 := burst_ne _ _ _ hT (xor_self_eq h')
  rw [h2, Nat.mul_zero, Nat.xor_zero] at hy
  exact num_inj (by rw [List.length_append, List.length_append, hx, hz]) hy.symm

/-- FOUR HALVINGS AT ONCE -/
theorem halves_four (x : Nat) : halves 4 x = x / 16 ^^^ halves 4 (x % 16) := by
  have e : x = x % 16 ^^^ 2 ^ 4 * (x / 16) := by
    rw [← add_xor 4 _ _ (by omega)]
    omega
  rw [Nat.xor_comm]
  conv => lhs; rw [e, halves_xor, halves_two]
theorem halves_eight (x : Nat) : halves 8 x = halves 4 (halves 4 x) := halves_add 4 4 x
def fours : List Int := [0, 498536548, 997073096, 651767980, 1994146192, 1802195444, 1303535960, 1342533948, 3988292384, 4027552580, 3604390888, 3412177804, 2607071920, 2262029012, 2685067896, 3183342108]
theorem fours_at {k : Nat} (h : k < 16) : fours[k]? = some ((halves 4 k : Nat) : Int) := by
  have e : ∀ k : Fin 16, fours[k.val]? = some ((halves 4 k.val : Nat) : Int) := by decide +kernel
  exact e ⟨k, h⟩
end Go.Proofs.YthclgehifomkhaaDoor.Oc

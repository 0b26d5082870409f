/-
  Plain facts: rows of bools as words of 64 bits; how many bits are set; the lowest one; who is next. No conditions.
-/
import Derived.Lib.TrailingZeros
namespace Go.Proofs.YtmeknghlhfpjnaaDoor.Bt

/-- is the k-th in? -/
def inn (l : List Bool) (k : Nat) : Bool := l[k]?.getD false
theorem inn_lt {l : List Bool} {k : Nat} (h : inn l k = true) : k < l.length := by
  unfold inn at h
  rcases Nat.lt_or_ge k l.length with h1 | h1
  · exact h1
  · rw [List.getElem?_eq_none h1] at h; cases h
theorem inn_get {l : List Bool} {k : Nat} (h : k < l.length) : l[k]? = some (inn l k) := by
  unfold inn; rw [List.getElem?_eq_getElem h]; rfl
theorem inn_ge {l : List Bool} {k : Nat} (h : l.length ≤ k) : inn l k = false := by
  unfold inn; rw [List.getElem?_eq_none h]; rfl
theorem inn_set (l : List Bool) (i k : Nat) (b : Bool) (h : i < l.length) : inn (l.set i b) k = if i = k then b else inn l k := by
  unfold inn
  rw [List.getElem?_set]
  by_cases e : i = k
  · rw [if_pos e, if_pos e, if_pos h]; rfl
  · rw [if_neg e, if_neg e]
theorem inn_rep (n k : Nat) : inn (List.replicate n false) k = false := by
  unfold inn
  rw [List.getElem?_replicate]
  split <;> rfl

/-- bits as a number, the lowest first -/
def wd : List Bool → Nat
  | [] => 0
  | b :: r => b.toNat + 2 * wd r
theorem wd_lt : ∀ l : List Bool, wd l < 2 ^ l.length
  | [] => by decide
  | b :: r => by
    have := wd_lt r
    have hb : b.toNat ≤ 1 := by cases b <;> decide
    rw [wd, List.length_cons, Nat.pow_succ]
    omega
theorem wd_bit : ∀ (l : List Bool) (j : Nat), (wd l).testBit j = inn l j
  | [], j => by simp [wd, inn]
  | b :: r, 0 => by
    have hb : (b.toNat + 2 * wd r) % 2 = b.toNat := by cases b <;> simp <;> omega
    rw [wd, Nat.testBit_zero, hb]
    cases b <;> rfl
  | b :: r, j + 1 => by
    have hb : (b.toNat + 2 * wd r) / 2 = wd r := by cases b <;> simp <;> omega
    rw [wd, Nat.testBit_succ, hb, wd_bit r j]
    rfl

/-- the w-th word of a row -/
def word (l : List Bool) (w : Nat) : Nat := wd ((l.drop (64 * w)).take 64)
theorem word_lt (l : List Bool) (w : Nat) : word l w < 18446744073709551616 := by
  have h := wd_lt ((l.drop (64 * w)).take 64)
  have h2 : 2 ^ ((l.drop (64 * w)).take 64).length ≤ 2 ^ 64 := Nat.pow_le_pow_right (by decide) (by rw [List.length_take]; omega)
  unfold word
  exact Nat.lt_of_lt_of_le h h2
theorem word_bit (l : List Bool) (w j : Nat) : (word l w).testBit j = (decide (j < 64) && inn l (64 * w + j)) := by
  unfold word
  rw [wd_bit]
  unfold inn
  rw [List.getElem?_take]
  by_cases h : j < 64
  · rw [if_pos h, List.getElem?_drop]; simp [h]
  · rw [if_neg h]; simp [h]
/-- how many words -/
def nw (n : Nat) : Nat := (n + 63) / 64
def words (l : List Bool) : List Nat := (List.range (nw l.length)).map (word l)
theorem words_len (l : List Bool) : (words l).length = nw l.length := by simp [words]
theorem words_at {l : List Bool} {w : Nat} (h : w < nw l.length) : (words l)[w]? = some (word l w) := by
  unfold words; rw [List.getElem?_map, List.getElem?_range h]; rfl
theorem nw_at {n i : Nat} (h : i < n) : i / 64 < nw n := by unfold nw; omega

theorem lt64 {x : Nat} (h : x < 18446744073709551616) : x < 2 ^ 64 := h
theorem bit_ge {x j : Nat} (h : x < 18446744073709551616) (hj : ¬ j < 64) : x.testBit j = false :=
  Nat.testBit_lt_two_pow (Nat.lt_of_lt_of_le (lt64 h) (Nat.pow_le_pow_right (by decide) (by omega)))

/-- one in, one out -/
theorem word_put (l : List Bool) (i w : Nat) (h : i < l.length) : word (l.set i true) w = if i / 64 = w then word l w ||| 2 ^ (i % 64) else word l w := by
  apply Nat.eq_of_testBit_eq
  intro j
  rw [word_bit, inn_set _ _ _ _ h]
  by_cases hw : i / 64 = w
  · rw [if_pos hw]
    rw [Nat.testBit_or, word_bit, Nat.testBit_two_pow]
    by_cases hj : j < 64
    · by_cases e : i = 64 * w + j
      · have e2 : i % 64 = j := by omega
        simp [hj, ← e, e2]
      · have e2 : ¬ i % 64 = j := by omega
        simp [hj, e, e2]
    · have e2 : ¬ i % 64 = j := by omega
      simp [hj, e2]
  · rw [if_neg hw, word_bit]
    by_cases hj : j < 64
    · have e : ¬ i = 64 * w + j := by omega
      simp [hj, e]
    · simp [hj]
theorem not_bit (b j : Nat) (hb : b < 18446744073709551616) : (18446744073709551615 - b).testBit j = (decide (j < 64) && !b.testBit j) := by
  have e : 18446744073709551615 - b = 2 ^ 64 - (b + 1) := by omega
  rw [e, Nat.testBit_two_pow_sub_succ (lt64 hb)]
theorem pow_mod64 (i : Nat) : 2 ^ (i % 64) < 18446744073709551616 :=
  Nat.lt_of_lt_of_le (Nat.pow_lt_pow_right (by decide) (Nat.mod_lt i (by decide : 0 < 64))) (Nat.le_refl (2 ^ 64))
theorem word_drop (l : List Bool) (i w : Nat) (h : i < l.length) : word (l.set i false) w = if i / 64 = w then word l w &&& (18446744073709551615 - 2 ^ (i % 64)) else word l w := by
  apply Nat.eq_of_testBit_eq
  intro j
  rw [word_bit, inn_set _ _ _ _ h]
  by_cases hw : i / 64 = w
  · rw [if_pos hw]
    rw [Nat.testBit_and, word_bit, not_bit _ _ (pow_mod64 i), Nat.testBit_two_pow]
    by_cases hj : j < 64
    · by_cases e : i = 64 * w + j
      · have e2 : i % 64 = j := by omega
        simp [hj, ← e, e2]
      · have e2 : ¬ i % 64 = j := by omega
        simp [hj, e, e2]
    · simp [hj]
  · rw [if_neg hw, word_bit]
    by_cases hj : j < 64
    · have e : ¬ i = 64 * w + j := by omega
      simp [hj, e]
    · simp [hj]
theorem words_set {l : List Bool} {i x : Nat} {b : Bool} (hx : ∀ w, word (l.set i b) w = if i / 64 = w then x else word l w) : words (l.set i b) = (words l).set (i / 64) x := by
  apply List.ext_getElem?
  intro w
  rw [List.getElem?_set, words_len]
  by_cases hw : w < nw l.length
  · rw [words_at (l := l.set i b) (by rw [List.length_set]; exact hw), hx]
    by_cases e : i / 64 = w
    · rw [if_pos e, if_pos e, if_pos (by omega)]
    · rw [if_neg e, if_neg e, words_at hw]
  · rw [List.getElem?_eq_none (by rw [words_len, List.length_set]; omega), List.getElem?_eq_none (by rw [words_len]; omega)]
    split
    · rw [if_neg (by omega)]
    · rfl
theorem words_put {l : List Bool} {i : Nat} (h : i < l.length) : words (l.set i true) = (words l).set (i / 64) (word l (i / 64) ||| 2 ^ (i % 64)) :=
  words_set fun w => by
    rw [word_put l i w h]
    by_cases e : i / 64 = w
    · rw [if_pos e, if_pos e, e]
    · rw [if_neg e, if_neg e]
theorem words_drop {l : List Bool} {i : Nat} (h : i < l.length) : words (l.set i false) = (words l).set (i / 64) (word l (i / 64) &&& (18446744073709551615 - 2 ^ (i % 64))) :=
  words_set fun w => by
    rw [word_drop l i w h]
    by_cases e : i / 64 = w
    · rw [if_pos e, if_pos e, e]
    · rw [if_neg e, if_neg e]
theorem word_rep (n w : Nat) : word (List.replicate n false) w = 0 := by
  apply Nat.eq_of_testBit_eq
  intro j
  rw [word_bit, inn_rep]
  simp
theorem words_rep (n : Nat) : words (List.replicate n false) = List.replicate (nw n) 0 := by
  apply List.ext_getElem?
  intro w
  rw [List.getElem?_replicate]
  by_cases hw : w < nw n
  · rw [words_at (by rw [List.length_replicate]; exact hw), word_rep, if_pos hw]
  · rw [List.getElem?_eq_none (by rw [words_len, List.length_replicate]; omega), if_neg hw]
/-- is i in, by its word -/
theorem word_has (l : List Bool) (i : Nat) : (word l (i / 64) &&& 2 ^ (i % 64) = 0) ↔ inn l i = false := by
  have e : 64 * (i / 64) + i % 64 = i := by omega
  have h64 : i % 64 < 64 := Nat.mod_lt _ (by decide)
  constructor
  · intro h
    have h2 := congrArg (fun x => Nat.testBit x (i % 64)) h
    simp only [Nat.testBit_and, word_bit, e, Nat.testBit_two_pow_self, Nat.zero_testBit] at h2
    simpa [h64] using h2
  · intro h
    apply Nat.eq_of_testBit_eq
    intro j
    rw [Nat.testBit_and, word_bit, Nat.testBit_two_pow, Nat.zero_testBit]
    by_cases hj : i % 64 = j
    · subst hj; rw [e, h]; simp
    · simp [hj]

/-- how many of the first k bits are set -/
def pop : Nat → Nat → Nat
  | 0, _ => 0
  | k + 1, x => x % 2 + pop k (x / 2)
theorem pop_zero : ∀ k, pop k 0 = 0
  | 0 => rfl
  | k + 1 => by rw [pop, Nat.zero_div, pop_zero k]
/-- how many are in -/
def cnt : List Bool → Nat
  | [] => 0
  | b :: r => b.toNat + cnt r
theorem pop_wd : ∀ (k : Nat) (l : List Bool), l.length ≤ k → pop k (wd l) = cnt l
  | k, [], _ => pop_zero k
  | 0, b :: r, h => by simp at h
  | k + 1, b :: r, h => by
    have h1 : (b.toNat + 2 * wd r) % 2 = b.toNat := by cases b <;> simp <;> omega
    have h2 : (b.toNat + 2 * wd r) / 2 = wd r := by cases b <;> simp <;> omega
    rw [pop, wd, h1, h2, pop_wd k r (by simpa using h), cnt]
theorem pop_add : ∀ (a b x : Nat), pop (a + b) x = pop a x + pop b (x / 2 ^ a)
  | 0, b, x => by simp [pop]
  | a + 1, b, x => by
    rw [Nat.add_right_comm, pop, pop, pop_add a b, Nat.div_div_eq_div_mul, Nat.pow_succ, Nat.mul_comm 2, Nat.add_assoc]
theorem pop_mod : ∀ (a x : Nat), pop a (x % 2 ^ a) = pop a x
  | 0, _ => rfl
  | a + 1, x => by
    have e1 : x % 2 ^ (a + 1) % 2 = x % 2 := by rw [Nat.pow_succ, Nat.mod_mul_left_mod]
    have e2 : x % 2 ^ (a + 1) / 2 = x / 2 % 2 ^ a := by rw [Nat.pow_succ, Nat.mul_comm, Nat.mod_mul_right_div_self]
    rw [pop, pop, e1, e2, pop_mod a]
theorem cnt_append : ∀ (a b : List Bool), cnt (a ++ b) = cnt a + cnt b
  | [], b => by simp [cnt]
  | x :: a, b => by rw [List.cons_append, cnt, cnt, cnt_append a b, Nat.add_assoc]
theorem cnt_le : ∀ l : List Bool, cnt l ≤ l.length
  | [] => Nat.le_refl _
  | b :: r => by
    have := cnt_le r
    have hb : b.toNat ≤ 1 := by cases b <;> decide
    rw [cnt, List.length_cons]; omega
/-- how many are in the first words -/
theorem cnt_word (l : List Bool) (w : Nat) : cnt (l.take (64 * (w + 1))) = cnt (l.take (64 * w)) + pop 64 (word l w) := by
  have e : l.take (64 * (w + 1)) = l.take (64 * w) ++ (l.drop (64 * w)).take 64 := by
    rw [Nat.mul_succ, List.take_add]
  rw [e, cnt_append, word, pop_wd 64 _ (by rw [List.length_take]; omega)]
theorem cnt_all (l : List Bool) : cnt (l.take (64 * nw l.length)) = cnt l := by
  rw [List.take_of_length_le (by unfold nw; omega)]
theorem cnt_rep (n : Nat) : cnt (List.replicate n false) = 0 := by
  induction n with
  | zero => rfl
  | succ n ih => rw [List.replicate_succ, cnt, ih]; rfl
theorem cnt_succ (l : List Bool) (k : Nat) (h : k < l.length) : cnt (l.take (k + 1)) = cnt (l.take k) + (inn l k).toNat := by
  have e : l.take (k + 1) = l.take k ++ [l[k]] := by rw [List.take_succ_eq_append_getElem h]
  have e2 : inn l k = l[k] := by unfold inn; rw [List.getElem?_eq_getElem h]; rfl
  rw [e, cnt_append, e2]
  simp [cnt]

/-- the lowest bit -/
theorem ctz_form {x : Nat} (h0 : x ≠ 0) (h : x < 18446744073709551616) : ∃ m, x = 2 ^ Lib.ctz 64 x * (2 * m + 1) ∧ Lib.ctz 64 x < 64 := by
  have e : Lib.ctz 64 x = Lib.ctzFrom 64 x := by simp [Lib.ctz, h0]
  rw [e]
  exact Lib.ctzFrom_spec 64 x (by omega) h
theorem form_bit (t m j : Nat) : (2 ^ t * (2 * m + 1)).testBit j = (decide (t ≤ j) && (2 * m + 1).testBit (j - t)) := by
  rw [Nat.mul_comm, Nat.testBit_mul_two_pow]
theorem ctz_at {x : Nat} (h0 : x ≠ 0) (h : x < 18446744073709551616) : x.testBit (Lib.ctz 64 x) = true := by
  obtain ⟨m, hm, _⟩ := ctz_form h0 h
  rw [congrArg (fun y => y.testBit (Lib.ctz 64 x)) hm]
  show (2 ^ Lib.ctz 64 x * (2 * m + 1)).testBit (Lib.ctz 64 x) = true
  rw [form_bit, Nat.sub_self, Nat.testBit_zero]
  simp
theorem ctz_below {x j : Nat} (h0 : x ≠ 0) (h : x < 18446744073709551616) (hj : j < Lib.ctz 64 x) : x.testBit j = false := by
  obtain ⟨m, hm, _⟩ := ctz_form h0 h
  rw [congrArg (fun y => y.testBit j) hm]
  show (2 ^ Lib.ctz 64 x * (2 * m + 1)).testBit j = false
  rw [form_bit]
  have : ¬ Lib.ctz 64 x ≤ j := by omega
  simp [this]
theorem ctz_lt {x : Nat} (h0 : x ≠ 0) (h : x < 18446744073709551616) : Lib.ctz 64 x < 64 := by
  obtain ⟨m, _, h2⟩ := ctz_form h0 h
  exact h2
/-- with one off, its lowest bit is gone -/
theorem off_bit {x : Nat} (h0 : x ≠ 0) (h : x < 18446744073709551616) (j : Nat) : (x &&& (x - 1)).testBit j = (x.testBit j && !decide (j = Lib.ctz 64 x)) := by
  obtain ⟨m, hm, _⟩ := ctz_form h0 h
  obtain ⟨t, ht⟩ : ∃ t, Lib.ctz 64 x = t := ⟨_, rfl⟩
  rw [ht] at hm ⊢
  have hp : 0 < 2 ^ t := Nat.two_pow_pos t
  have e : x - 1 = 2 ^ t * (2 * m) + (2 ^ t - 1) := by rw [hm, Nat.mul_add]; omega
  have b1 : (x - 1).testBit j = if j < t then (2 ^ t - 1).testBit j else (2 * m).testBit (j - t) := by
    rw [e, Nat.testBit_two_pow_mul_add _ (by omega)]
  have b2 : x.testBit j = (decide (t ≤ j) && (2 * m + 1).testBit (j - t)) := by rw [hm, form_bit]
  rw [Nat.testBit_and, b1, b2]
  by_cases hj : j < t
  · have : ¬ t ≤ j := by omega
    simp [this]
  · rw [if_neg hj]
    by_cases e2 : j = t
    · subst e2
      rw [Nat.sub_self, Nat.testBit_zero, Nat.testBit_zero]
      simp
    · obtain ⟨d, hd⟩ : ∃ d, j - t = d + 1 := ⟨j - t - 1, by omega⟩
      have h3 : (2 * m + 1) / 2 = m := by omega
      have h4 : 2 * m / 2 = m := by omega
      have h5 : t ≤ j := by omega
      rw [hd, Nat.testBit_succ, Nat.testBit_succ, h3, h4]
      simp [e2, h5]
theorem off_lt {x : Nat} (h0 : x ≠ 0) : x &&& (x - 1) < x := by
  have : x &&& (x - 1) ≤ x - 1 := Nat.and_le_right
  omega

/-- those in, below k -/
def tell (l : List Bool) (k : Nat) : List Nat := (List.range k).filter fun i => inn l i
theorem tell_succ (l : List Bool) (k : Nat) : tell l (k + 1) = tell l k ++ (if inn l k then [k] else []) := by
  unfold tell
  rw [List.range_succ, List.filter_append]
  congr 1
  by_cases h : inn l k = true
  · simp [h]
  · simp [h]
theorem tell_none (l : List Bool) : ∀ (d k : Nat), (∀ j, k ≤ j → j < k + d → inn l j = false) → tell l (k + d) = tell l k
  | 0, _, _ => rfl
  | d + 1, k, h => by
    rw [← Nat.add_assoc, tell_succ, h (k + d) (by omega) (by omega), tell_none l d k (fun j h1 h2 => h j h1 (by omega))]
    simp
theorem tell_len : ∀ (l : List Bool) (k : Nat), k ≤ l.length → (tell l k).length = cnt (l.take k)
  | l, 0, _ => by simp [tell, cnt]
  | l, k + 1, h => by
    rw [tell_succ, List.length_append, tell_len l k (by omega), cnt_succ l k (by omega)]
    cases inn l k <;> rfl
theorem tell_le (l : List Bool) (k : Nat) : (tell l k).length ≤ k := by
  unfold tell
  have := List.length_filter_le (fun i => inn l i) (List.range k)
  rwa [List.length_range] at this
theorem tell_over (l : List Bool) (k : Nat) (h : l.length ≤ k) : tell l k = tell l l.length := by
  obtain ⟨d, rfl⟩ : ∃ d, k = l.length + d := ⟨k - l.length, by omega⟩
  exact tell_none l d _ fun j h1 _ => inn_ge h1

/-- who is next: the least one from i on that is in (or not), and room for it; or none -/
def Nx (l : List Bool) (i : Nat) (b : Bool) (r : Int) (ok : Bool) : Prop :=
  (ok = true ∧ ∃ k : Nat, r = (k : Int) ∧ i ≤ k ∧ k < l.length ∧ inn l k = b ∧ ∀ j, i ≤ j → j < k → inn l j = !b) ∨
  (ok = false ∧ r = 0 ∧ ∀ j, i ≤ j → j < l.length → inn l j = !b)
theorem flip_eq {a b : Bool} (h : ¬ a = b) : a = !b := by cases a <;> cases b <;> simp_all
theorem Nx.made (l : List Bool) (i : Nat) (b : Bool) : ∃ r ok, Nx l i b r ok := by
  have key : ∀ d, (∃ k, i ≤ k ∧ k < i + d ∧ k < l.length ∧ inn l k = b ∧ ∀ j, i ≤ j → j < k → inn l j = !b) ∨ (∀ j, i ≤ j → j < i + d → j < l.length → inn l j = !b) := by
    intro d
    induction d with
    | zero => exact .inr fun j h1 h2 _ => by omega
    | succ d ih =>
      rcases ih with ⟨k, h1, h2, h3⟩ | hn
      · exact .inl ⟨k, h1, by omega, h3⟩
      · by_cases h : i + d < l.length ∧ inn l (i + d) = b
        · exact .inl ⟨i + d, by omega, by omega, h.1, h.2, fun j h1 h2 => hn j h1 h2 (by omega)⟩
        · refine .inr fun j h1 h2 h3 => ?_
          by_cases e : j = i + d
          · subst e; exact flip_eq fun hb => h ⟨h3, hb⟩
          · exact hn j h1 (by omega) h3
  rcases key l.length with ⟨k, h1, h2, h3, h4, h5⟩ | hn
  · exact ⟨k, true, .inl ⟨rfl, k, rfl, h1, h3, h4, h5⟩⟩
  · exact ⟨0, false, .inr ⟨rfl, rfl, fun j h1 h2 => hn j h1 (by omega) h2⟩⟩
theorem ne_not {b : Bool} : ¬ (b = !b) := by cases b <;> simp
theorem Nx.yes {l : List Bool} {i : Nat} {b : Bool} {r : Int} {ok : Bool} (h : Nx l i b r ok) {k : Nat} (h1 : i ≤ k) (h2 : k < l.length) (h3 : inn l k = b) (h4 : ∀ j, i ≤ j → j < k → inn l j = !b) : r = (k : Int) ∧ ok = true := by
  rcases h with ⟨rfl, k', rfl, a1, a2, a3, a4⟩ | ⟨rfl, rfl, hn⟩
  · have e : k' = k := by
      rcases Nat.lt_trichotomy k k' with g | g | g
      · exact absurd (h3.symm.trans (a4 k h1 g)) ne_not
      · exact g.symm
      · exact absurd (a3.symm.trans (h4 k' a1 g)) ne_not
    exact ⟨by rw [e], rfl⟩
  · exact absurd (h3.symm.trans (hn k h1 h2)) ne_not
theorem Nx.no {l : List Bool} {i : Nat} {b : Bool} {r : Int} {ok : Bool} (h : Nx l i b r ok) (hn : ∀ j, i ≤ j → j < l.length → inn l j = !b) : r = 0 ∧ ok = false := by
  rcases h with ⟨rfl, k', rfl, a1, a2, a3, a4⟩ | ⟨rfl, rfl, _⟩
  · exact absurd (a3.symm.trans (hn k' a1 a2)) ne_not
  · exact ⟨rfl, rfl⟩
end Go.Proofs.YtmeknghlhfpjnaaDoor.Bt

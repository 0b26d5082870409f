/-
  Plain facts: one word of a search. No conditions.
-/
import Derived.Test.YtmeknghlhfpjnaaDoorBitNum
namespace Go.Proofs.YtmeknghlhfpjnaaDoor.Bt
set_option linter.unusedVariables false

/-- what is laid over a word: nothing, or all bits -/
def fl (b : Bool) : Nat := if b then 0 else 18446744073709551615
theorem fl_lt (b : Bool) : fl b < 18446744073709551616 := by cases b <;> decide
theorem fl_bit (b : Bool) (t : Nat) (ht : t < 64) : (fl b).testBit t = !b := by
  cases b
  · have : (18446744073709551615 : Nat) = 2 ^ 64 - 1 := rfl
    simp only [fl]
    rw [if_neg (by decide), this, Nat.testBit_two_pow_sub_one]
    simp [ht]
  · simp [fl]
/-- the bits of word F that are asked for, from i on -/
def seek (l : List Bool) (b : Bool) (F bl : Nat) : Nat := (word l F ^^^ fl b) &&& (18446744073709551615 - bl)
/-- the bits below i, in its own word -/
def low (i j : Nat) : Nat := if j = 0 then 2 ^ (i % 64) - 1 else 0
theorem low_lt (i j : Nat) : low i j < 18446744073709551616 := by
  have := pow_mod64 i
  unfold low
  split <;> omega
theorem seek_lt (l : List Bool) (b : Bool) (F bl : Nat) : seek l b F bl < 18446744073709551616 := by
  unfold seek
  have : (word l F ^^^ fl b) &&& (18446744073709551615 - bl) ≤ 18446744073709551615 - bl := Nat.and_le_right
  omega
theorem seek_bit (l : List Bool) (b : Bool) (i j t : Nat) (ht : t < 64) : (seek l b (i / 64 + j) (low i j)).testBit t = ((inn l (64 * (i / 64 + j) + t) == b) && decide (i ≤ 64 * (i / 64 + j) + t)) := by
  unfold seek
  rw [Nat.testBit_and, Nat.testBit_xor, word_bit, fl_bit b t ht, not_bit _ _ (low_lt i j)]
  have e : (low i j).testBit t = !decide (i ≤ 64 * (i / 64 + j) + t) := by
    unfold low
    by_cases hj : j = 0
    · subst hj
      rw [if_pos rfl, Nat.testBit_two_pow_sub_one]
      by_cases h : t < i % 64
      · have : ¬ i ≤ 64 * (i / 64 + 0) + t := by omega
        simp only [h, this, decide_true, decide_false]; rfl
      · have : i ≤ 64 * (i / 64 + 0) + t := by omega
        simp only [h, this, decide_true, decide_false]; rfl
    · rw [if_neg hj]
      have : i ≤ 64 * (i / 64 + j) + t := by omega
      simp [this]
  rw [e]
  simp only [ht, decide_true, Bool.true_and, Bool.not_not]
  cases inn l (64 * (i / 64 + j) + t) <;> cases b <;> rfl
/-- none so far -/
def Nobody (l : List Bool) (b : Bool) (i k : Nat) : Prop := ∀ m, i ≤ m → m < k → m < l.length → inn l m = !b
theorem nobody_zero (l : List Bool) (b : Bool) (i : Nat) : Nobody l b i (64 * (i / 64 + 0)) := fun m h1 h2 _ => by omega
theorem nobody_word {l : List Bool} {b : Bool} {i j : Nat} (h : Nobody l b i (64 * (i / 64 + j))) (h0 : seek l b (i / 64 + j) (low i j) = 0) : Nobody l b i (64 * (i / 64 + (j + 1))) := by
  intro m h1 h2 h3
  by_cases hm : m < 64 * (i / 64 + j)
  · exact h m h1 hm h3
  · have hb := seek_bit l b i j (m - 64 * (i / 64 + j)) (by omega)
    rw [h0, Nat.zero_testBit, show 64 * (i / 64 + j) + (m - 64 * (i / 64 + j)) = m by omega] at hb
    simp only [h1, decide_true, Bool.and_true] at hb
    exact flip_eq (by simpa using hb.symm)
/-- what is found: from i on, as asked for, and none below it -/
theorem found {l : List Bool} {b : Bool} {i j t : Nat} (h : Nobody l b i (64 * (i / 64 + j))) (h0 : seek l b (i / 64 + j) (low i j) ≠ 0) (ht : Lib.ctz 64 (seek l b (i / 64 + j) (low i j)) = t) :
    t < 64 ∧ i ≤ 64 * (i / 64 + j) + t ∧ inn l (64 * (i / 64 + j) + t) = b ∧ Nobody l b i (64 * (i / 64 + j) + t) := by
  have hl := seek_lt l b (i / 64 + j) (low i j)
  have t1 := ctz_lt h0 hl
  have t2 := ctz_at h0 hl
  rw [ht] at t1 t2
  rw [seek_bit l b i j t t1] at t2
  simp at t2
  refine ⟨t1, t2.2, t2.1, fun m h1 h2 h3 => ?_⟩
  by_cases hm : m < 64 * (i / 64 + j)
  · exact h m h1 hm h3
  · have hb := seek_bit l b i j (m - 64 * (i / 64 + j)) (by omega)
    rw [ctz_below h0 hl (by rw [ht]; omega), show 64 * (i / 64 + j) + (m - 64 * (i / 64 + j)) = m by omega] at hb
    simp only [h1, decide_true, Bool.and_true] at hb
    exact flip_eq (by simpa using hb.symm)
theorem nobody_over {l : List Bool} {b : Bool} {i k k2 : Nat} (h : Nobody l b i k) (hk : l.length ≤ k) : Nobody l b i k2 := fun m h1 _ h3 => h m h1 (by omega) h3
end Go.Proofs.YtmeknghlhfpjnaaDoor.Bt

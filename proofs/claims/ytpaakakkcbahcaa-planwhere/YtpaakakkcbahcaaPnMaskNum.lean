/-
  Masks of extents, in plain numbers. No conditions.
-/
import Derived.WalkKit
namespace Go.Proofs.Ytpaakakkcbahcaa.Mk
set_option linter.unusedVariables false

/-- how many extents the blocks from L on below h are in -/
def cnt (L h : Nat) : Nat := if L < h then (h - 1) / 8 + 1 - L / 8 else 0
/-- which of the blocks of extent e these are -/
def mk (L h e : Nat) : Nat := 2 ^ (min 8 (h - 8 * e)) - 2 ^ (L - 8 * e)
def mks (L h j : Nat) : List UInt8 := (List.range j).map fun t => UInt8.ofNat (mk L h (L / 8 + t))
theorem mks_len (L h j : Nat) : (mks L h j).length = j := by simp [mks]
theorem pow8 (x : Nat) : 2 ^ (min 8 x) ≤ 256 := by
  have := Nat.pow_le_pow_right (n := 2) (by decide) (show min 8 x ≤ 8 by omega)
  exact this
theorem mk_lt (L h e : Nat) : mk L h e < 256 := by
  unfold mk
  have h1 := pow8 (h - 8 * e)
  have h2 : 1 ≤ 2 ^ (L - 8 * e) := Nat.one_le_two_pow
  omega
theorem cnt_zero {L h : Nat} (hh : h ≤ L) : cnt L h = 0 := if_neg (by omega)
theorem cnt_new {L i : Nat} (h : L ≤ i) (hn : i = L ∨ i % 8 = 0) : cnt L (i + 1) = cnt L i + 1 ∧ L / 8 + cnt L i = i / 8 := by
  unfold cnt
  rw [if_pos (by omega)]
  by_cases c : L < i
  · rw [if_pos c]; omega
  · rw [if_neg c]; omega
theorem cnt_old {L i : Nat} (h : L < i) (hn : ¬ i % 8 = 0) : cnt L (i + 1) = cnt L i ∧ 1 ≤ cnt L i ∧ L / 8 + (cnt L i - 1) = i / 8 := by
  unfold cnt
  rw [if_pos (by omega), if_pos h]
  omega
theorem cnt_last {L i : Nat} (h : L < i) : 1 ≤ cnt L i ∧ L / 8 + (cnt L i - 1) = (i - 1) / 8 := by
  unfold cnt
  rw [if_pos h]
  omega
theorem cnt_le {L i : Nat} : cnt L i ≤ i := by
  unfold cnt
  split <;> omega
theorem mk_full {L i e : Nat} (h : 8 * e + 8 ≤ i) : mk L (i + 1) e = mk L i e := by
  unfold mk
  rw [show min 8 (i + 1 - 8 * e) = 8 by omega, show min 8 (i - 8 * e) = 8 by omega]
theorem mk_first {L i : Nat} (h : L ≤ i) (hn : i = L ∨ i % 8 = 0) : mk L (i + 1) (i / 8) = 2 ^ (i % 8) := by
  unfold mk
  rw [show min 8 (i + 1 - 8 * (i / 8)) = i % 8 + 1 by omega, show L - 8 * (i / 8) = i % 8 by omega, Nat.pow_succ]
  omega
theorem mk_more {L i : Nat} (h : L < i) (hn : ¬ i % 8 = 0) : mk L (i + 1) (i / 8) = mk L i (i / 8) + 2 ^ (i % 8) := by
  unfold mk
  rw [show min 8 (i + 1 - 8 * (i / 8)) = i % 8 + 1 by omega, show min 8 (i - 8 * (i / 8)) = i % 8 by omega, Nat.pow_succ]
  have : 2 ^ (L - 8 * (i / 8)) ≤ 2 ^ (i % 8) := Nat.pow_le_pow_right (by decide) (by omega)
  omega
theorem mks_new {L i : Nat} (h : L ≤ i) (hn : i = L ∨ i % 8 = 0) : mks L (i + 1) (cnt L (i + 1)) = mks L i (cnt L i) ++ [UInt8.ofNat (2 ^ (i % 8))] := by
  obtain ⟨h1, h2⟩ := cnt_new h hn
  rw [h1]
  unfold mks
  rw [List.range_succ, List.map_append]
  congr 1
  · refine List.map_congr_left fun t ht => ?_
    have := List.mem_range.1 ht
    rw [mk_full (by omega)]
  · simp only [List.map_cons, List.map_nil]
    rw [h2, mk_first h hn]
theorem mks_old {L i : Nat} (h : L < i) (hn : ¬ i % 8 = 0) : mks L (i + 1) (cnt L (i + 1)) = (mks L i (cnt L i)).set (cnt L i - 1) (UInt8.ofNat (mk L i (i / 8) + 2 ^ (i % 8))) := by
  obtain ⟨h1, h2, h3⟩ := cnt_old h hn
  rw [h1]
  refine List.ext_getElem? fun t => ?_
  rw [List.getElem?_set, mks_len]
  by_cases c : t < cnt L i
  · have g : ∀ h, (mks L h (cnt L i))[t]? = some (UInt8.ofNat (mk L h (L / 8 + t))) := fun h => by simp [mks, c]
    rw [g, g]
    by_cases e : cnt L i - 1 = t
    · subst e
      rw [if_pos rfl, if_pos (by omega), h3, mk_more h hn]
    · rw [if_neg e, mk_full (by omega)]
  · have g : ∀ h, (mks L h (cnt L i))[t]? = none := fun h => by simp [mks]; omega
    rw [g, g, if_neg (by omega)]
/-- where a search by extents stands -/
def pos (L j : Nat) : Nat := if j = 0 then L else (L / 8 + j) * 8
theorem pos_lt {L h j : Nat} : pos L j < h ↔ j < cnt L h := by
  unfold pos cnt
  by_cases c : j = 0
  · rw [if_pos c]; split <;> omega
  · rw [if_neg c]; split <;> omega
theorem pos_div (L j : Nat) : pos L j / 8 = L / 8 + j ∧ pos L j % 8 = L - 8 * (L / 8 + j) := by
  unfold pos
  by_cases c : j = 0
  · rw [if_pos c]; omega
  · rw [if_neg c]; omega
end Go.Proofs.Ytpaakakkcbahcaa.Mk

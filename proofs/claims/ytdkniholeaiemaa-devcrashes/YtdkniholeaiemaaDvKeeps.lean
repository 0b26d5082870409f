/-
  What a crash makes of a sector: it is as it was fixed, or as one of its loose writes says; behind a flush a crash changes nothing: plain facts. No conditions.
-/
import Derived.Test.YtdkniholeaiemaaDvRcrash
namespace Go.Proofs.Ytdkniholeaiemaa.W
open Go.RowKit Oc Dm
set_option linter.unusedVariables false
/-- as it was fixed, or as one of its loose writes says -/
theorem crashTo_one {n : Nat} {S : Nat → Sec} {fs : List Int} (hg : ∀ j, Good (looseOf n S) fs j) : ∀ k i, (crashTo n S fs k i).fixed = (S i).fixed ∨ ∃ j, j < (S i).loose.length ∧ (crashTo n S fs k i).fixed = (S i).loose.getD j []
  | 0, i => .inl rfl
  | k + 1, i => by
    rw [crashTo]
    cases hf : fs[k]? with
    | none => exact crashTo_one hg k i
    | some f =>
      cases hx : (looseOf n S)[k]? with
      | none => exact crashTo_one hg k i
      | some x =>
        dsimp only
        by_cases h : 0 < f
        · rw [if_pos h]
          by_cases e : i = x.1
          · subst e
            rw [upd_same]
            obtain ⟨_, _, m3⟩ := mem_loose.1 (List.mem_of_getElem? hx)
            obtain ⟨_, h2⟩ := hg k f x hf hx
            exact .inr ⟨(f - 1).toNat, by omega, rfl⟩
          · rw [upd_other _ _ e]
            exact crashTo_one hg k i
        · rw [if_neg h]
          exact crashTo_one hg k i
theorem flushS_loose (S : Nat → Sec) (i : Nat) : (flushS S i).loose = [] := by
  unfold flushS
  split
  · assumption
  · rfl
theorem flushS_stands (S : Nat → Sec) (i : Nat) : (flushS S i).stands = (flushS S i).fixed := Sec.stands_fixed (flushS_loose S i)
theorem looseOf_flush (n : Nat) (S : Nat → Sec) : looseOf n (flushS S) = [] := by
  unfold looseOf
  rw [List.filterMap_eq_nil_iff]
  intro i _
  rw [if_pos (flushS_loose S i)]
theorem crash_flush (n : Nat) (S : Nat → Sec) (i : Nat) : (crashTo n (flushS S) [] 0 i).stands = (flushS S i).stands := by
  rw [flushS_stands]
  exact Sec.stands_fixed rfl
end Go.Proofs.Ytdkniholeaiemaa.W

/-
  How a fill wears: plain facts. No conditions.
-/
import Derived.Test.YtapklelkcicjlaaGreatDoorKSa
namespace Go.Proofs.YtapklelkcicjlaaGreatDoor.Pd.Sl
set_option maxRecDepth 100000
open Go.RowKit Oc Dm W Dw W.Hd
set_option linter.unusedVariables false
theorem total_set : ∀ (L : List Slt) (i : Nat) (s s' : Slt), L[i]? = some s → total (L.set i s') + s.r.toNat = total L + s'.r.toNat
  | [], i, s, s', h => by simp at h
  | x :: L, 0, s, s', h => by
    simp at h
    subst h
    show s'.r.toNat + total L + x.r.toNat = x.r.toNat + total L + s'.r.toNat
    omega
  | x :: L, i + 1, s, s', h => by
    have := total_set L i s s' (by simpa using h)
    show x.r.toNat + total (L.set i s') + s.r.toNat = x.r.toNat + total L + s'.r.toNat
    omega
theorem fillS_wear {la i : Nat} {b : Int} {g : Nat} {xs : List UInt8} {r : UInt32} {m : Vs} (hr : r.toNat ≠ 4294967295) : ∃ k : Nat, k ≤ 1 ∧ ((fillS la i b g xs r m).1 = 0 → k = 1) ∧ (fillS la i b g xs r m).2.1.toNat = r.toNat + k := by
  have h1 : (r + 1).toNat = r.toNat + 1 := by
    rw [UInt32.toNat_add]
    have := r.toNat_lt
    show (r.toNat + 1) % 2 ^ 32 = _
    omega
  unfold fillS
  dsimp only
  split
  · rename_i h; exact ⟨0, by omega, fun e => absurd e h, rfl⟩
  split
  · rename_i h; exact ⟨1, by omega, fun _ => rfl, h1⟩
  split
  · exact ⟨1, by omega, fun _ => rfl, h1⟩
  split
  · exact ⟨1, by omega, fun _ => rfl, h1⟩
  exact ⟨1, by omega, fun _ => rfl, h1⟩
/-- a fill wears its slot by one at most, and by one, if it tells that it is done -/
theorem fill_wears (la : Nat) (z b : Int) (g : Nat) (xs : List UInt8) (L : List Slt) (m : Vs) : ∃ k : Nat, k ≤ 1 ∧ ((fill la z b g xs L m).1 = 0 → k = 1) ∧ (wearZ (fill la z b g xs L m).2.1 z).toNat = (wearZ L z).toNat + k ∧ total (fill la z b g xs L m).2.1 = total L + k := by
  unfold fill
  split
  · exact ⟨0, by omega, fun e => absurd e (show ¬ (3 : Int) = 0 by decide), rfl, rfl⟩
  rename_i hz0
  have hz : hasZ L z := Decidable.not_not.1 hz0
  split
  · exact ⟨0, by omega, fun e => absurd e (show ¬ (1 : Int) = 0 by decide), rfl, rfl⟩
  split
  · exact ⟨0, by omega, fun e => absurd e (show ¬ (6 : Int) = 0 by decide), rfl, rfl⟩
  split
  · exact ⟨0, by omega, fun e => absurd e (show ¬ (5 : Int) = 0 by decide), rfl, rfl⟩
  rename_i hr
  obtain ⟨k, k1, k2, k3⟩ := fillS_wear (la := la) (i := z.toNat) (b := b) (g := g) (xs := xs) (m := m) hr
  dsimp only
  have hi : z.toNat < L.length := by obtain ⟨a, b⟩ := hz; omega
  have hg : L[z.toNat]? = some (at0 L z) := by
    unfold at0
    rw [List.getD_eq_getElem?_getD, List.getElem?_eq_getElem hi]
    rfl
  refine ⟨k, k1, k2, ?_, ?_⟩
  · have hz2 : hasZ (L.set z.toNat ⟨(at0 L z).f, (fillS la z.toNat b g xs (at0 L z).r m).2.1⟩) z := by
      show _ ∧ _
      rw [List.length_set]
      exact hz
    unfold wearZ
    rw [if_pos hz2, if_pos hz]
    have e : at0 (L.set z.toNat ⟨(at0 L z).f, (fillS la z.toNat b g xs (at0 L z).r m).2.1⟩) z = ⟨(at0 L z).f, (fillS la z.toNat b g xs (at0 L z).r m).2.1⟩ := by
      show (List.set L z.toNat _).getD z.toNat _ = _
      rw [List.getD_eq_getElem?_getD, List.getElem?_set, if_pos rfl, if_pos hi]
      rfl
    rw [e]
    exact k3
  · have := total_set L z.toNat (at0 L z) ⟨(at0 L z).f, (fillS la z.toNat b g xs (at0 L z).r m).2.1⟩ hg
    have k3' := k3
    simp only at this
    omega
end Go.Proofs.YtapklelkcicjlaaGreatDoor.Pd.Sl

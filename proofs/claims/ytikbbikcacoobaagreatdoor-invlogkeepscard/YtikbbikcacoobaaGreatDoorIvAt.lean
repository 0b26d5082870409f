/-
  Where a sector of the log is. No conditions.
-/
import Derived.Test.YtikbbikcacoobaaGreatDoorIvDoKit
import Derived.Laws.BitsLemmas
import Derived.BigQuiet
namespace Go.Proofs.YtikbbikcacoobaaGreatDoor.Pd.Iv
open Go.RowKit Oc Dm W Dw Sr
set_option linter.unusedVariables false
set_option maxRecDepth 100000
attribute [local go_sem ↓] Go.wp_at_zero Go.wp_at_succ

theorem fork_on {P : Program} {md : Region.Mode} {ops : Array Oper} {Q : Exit → Act → World → Prop} {S : World → Prop} {t : Nat} {i j : Nat} {o o2 : Oper} {fuel : Nat} {listed : Array Bool} {a : Act} {w : World} (hr : Region.ready md ops listed = [i, j]) (ho : ops[i]? = some o) (hg : Region.wanted o (yielded ops a.tmps) = true) (ho2 : ops[j]? = some o2) (hg2 : Region.wanted o2 (yielded ops a.tmps) = true)
    (h : ∀ K : Act → World → Prop, (∀ a' w', (i ≠ t → S w') → Gt.Gate P md ops Q S t fuel (listed.setIfInBounds i true) a' w' → K a' w') → Oper.wp P o a w K Q)
    (h2 : ∀ K : Act → World → Prop, (∀ a' w', (j ≠ t → S w') → Gt.Gate P md ops Q S t fuel (listed.setIfInBounds j true) a' w' → K a' w') → Oper.wp P o2 a w K Q) : Gt.Gate P md ops Q S t (fuel + 1) listed a w := by
  refine ⟨fun h0 => (by rw [hr] at h0; cases h0), fun x hx => ?_⟩
  rw [hr, List.mem_cons, List.mem_singleton] at hx
  rcases hx with rfl | rfl
  · have := h (fun a' w' => (x ≠ t → S w') ∧ Gt.Gate P md ops Q S t fuel (listed.setIfInBounds x true) a' w') (fun a' w' h1 h2 => ⟨h1, h2⟩)
    unfold wpOp
    rw [ho]
    dsimp only
    rw [if_pos hg]
    exact .inl this
  · have := h2 (fun a' w' => (x ≠ t → S w') ∧ Gt.Gate P md ops Q S t fuel (listed.setIfInBounds x true) a' w') (fun a' w' h1 h2 => ⟨h1, h2⟩)
    unfold wpOp
    rw [ho2]
    dsimp only
    rw [if_pos hg2]
    exact .inl this
theorem and1023 (z : Int) : ∃ t : Nat, bits .and .i64 z 1023 = (t : Int) ∧ t ≤ 1023 := by
  have h0 : (BitVec.ofInt 64 1023).toNat = 2 ^ 10 - 1 := by decide
  have key : (BitVec.ofInt 64 z &&& BitVec.ofInt 64 1023).toNat = (z % ((2 ^ 64 : Nat) : Int)).toNat % 2 ^ 10 := by
    rw [BitVec.toNat_and, BitVec.toNat_ofInt, h0, Nat.and_two_pow_sub_one_eq_mod]
  have e : bits .and .i64 z 1023 = IntKind.i64.wrap ((BitVec.ofInt 64 z &&& BitVec.ofInt 64 1023).toNat : Nat) := rfl
  rw [key] at e
  refine ⟨(z % ((2 ^ 64 : Nat) : Int)).toNat % 2 ^ 10, ?_, by omega⟩
  rw [e, IntKind.wrap_i64]
  omega
/-- which sector -/
def atF (la lg : Nat) (z : Int) : Int := (la : Int) + (z.tmod (lg : Int) + (lg : Int)).tmod (lg : Int)
set_option maxHeartbeats 2000000 in
theorem at_any {w : World} {P pw D q E la lg n : Nat} {p : Pn.Pl} {T U : Option Addr} (hh : PHead w P p pw D q E T U) (hp : Pln p la lg n) (z : Int) :
    Calls Tryz.prog 40 #[.pointer (some ⟨P, 0, none⟩), .int .i64 z] w fun e w' => e = .returned (.int .i64 (atF la lg z)) ∧ Below w.heap.size w w' := by
  have c19 : w.cell? ⟨P, 19, none⟩ = some (.int .i64 (la : Int)) := by rw [← hp.h6]; exact (hh.cell 19).1
  have c20 : w.cell? ⟨P, 20, none⟩ = some (.int .i64 (lg : Int)) := by rw [← hp.h7]; exact (hh.cell 20).1
  have h1 := hp.hl
  have h2 := hp.hl2
  have h3 : la ≤ 4096 := by have := hp.hn; have := hp.hn2; omega
  obtain ⟨r, hr⟩ : ∃ r, z.tmod (lg : Int) = r := ⟨_, rfl⟩
  have hr1 : -(lg : Int) < r ∧ r < (lg : Int) := by
    rw [← hr]
    exact ⟨Int.lt_tmod_of_pos z (by omega), Int.tmod_lt_of_pos z (by omega)⟩
  obtain ⟨s, hs⟩ : ∃ s, (r + (lg : Int)).tmod (lg : Int) = s := ⟨_, rfl⟩
  have hs1 : 0 ≤ s ∧ s < (lg : Int) := by
    rw [← hs]
    rw [Int.tmod_eq_emod_of_nonneg (by omega)]
    exact ⟨Int.emod_nonneg _ (by omega), Int.emod_lt_of_pos _ (by omega)⟩
  have E1 : Hid (atF la lg z = (la : Int) + s) := by show _ = _; unfold atF; rw [hr, hs]
  have hl0 : ¬ (lg : Int) = 0 := by omega
  have hl02 : ((lg : Int) == 0) = false := by simp; omega
  obtain ⟨hr2, hr3⟩ := hr1
  obtain ⟨hs2, hs3⟩ := hs1
  clear hh hp
  go_enter Tryz.func40, Tryz.ntmps40
  go_wp2
  go_quiet (fail)
  go_wp2
  go_ret
  refine ⟨?_, below_drewN (Below.refl _ _) nq⟩
  rw [E1.out]
  try rfl
end Go.Proofs.YtikbbikcacoobaaGreatDoor.Pd.Iv

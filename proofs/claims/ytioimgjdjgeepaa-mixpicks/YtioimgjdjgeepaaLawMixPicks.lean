/-
  For any two numbers of 64 bits and any three ints: mix.Pick tells the place that the reference picks, from 0 to below most; mix.All tells as many of them as the reference; the page's examples hold. No conditions.
-/
import Derived.Test.YtioimgjdjgeepaaRows
import Derived.Test.YtioimgjdjgeepaaMixAwake
import Derived.WalkKit
import Derived.ProofKit
import Derived.OpenShut
import Derived.ShutString
import Derived.ChangeOld
import Derived.Below
namespace Go.Proofs.Ytioimgjdjgeepaa.mixPicks
open Go.ChangeShapes Go.WideShapes Go.ChangeAt Go.RowKit Mx Rw W
set_option linter.unusedVariables false

theorem own : ownKnob Try.prog.godebug = none := by kernel_rfl

theorem pick_bounds (s n : Nat) (k most : Int) : 0 ≤ pick s n k most ∧ (¬ most < 1 → pick s n k most < most) := by
  unfold pick
  split
  · exact ⟨Int.le_refl _, fun h => absurd ‹most < 1› h⟩
  · rename_i h
    have := Nat.mod_lt (of (seedAt s k) n) (show most.toNat > 0 by omega)
    exact ⟨by omega, fun _ => by omega⟩
theorem picks_ints (s n : Nat) (most : Int) (c : Nat) : picks s n most c = ((List.range c).map fun k : Nat => pick s n (k : Int) most).map (Value.int .i64) := by
  unfold picks; rw [List.map_map]; rfl
set_option maxHeartbeats 2000000 in
theorem walk (a0 a1 a2 a3 a4 : Int) (w0 : (Lit.int .u64 a0).wf = true) (w1 : (Lit.int .u64 a1).wf = true) (w2 : (Lit.int .i64 a2).wf = true) (w3 : (Lit.int .i64 a3).wf = true) (w4 : (Lit.int .i64 a4).wf = true) (w : World) :
    Calls Try.prog 5 #[.int .u64 a0, .int .u64 a1, .int .i64 a2, .int .i64 a3, .int .i64 a4] w fun e w' => e = .returned (.bool true) ∧ Below w.heap.size w w' := by
  obtain ⟨s, rfl, hs⟩ := nat_u64 w0
  obtain ⟨n, rfl, hn⟩ := nat_u64 w1
  obtain ⟨_, m2⟩ := bounds_i64 w4
  clear w0 w1 w2 w3 w4 hs hn
  obtain ⟨p, hp⟩ : ∃ p, pick s n a2 a4 = p := ⟨_, rfl⟩
  obtain ⟨c, hc⟩ : ∃ c, count a3 = c := ⟨_, rfl⟩
  obtain ⟨p0, p1⟩ := pick_bounds s n a2 a4
  rw [hp] at p0 p1
  have hc64 : c ≤ 64 := by rw [← hc]; unfold count; omega
  have HP := Lib.hid hp
  have HC := Lib.hid hc
  have HM := Lib.hid m2
  have HC64 := Lib.hid hc64
  clear hp hc m2 hc64
  have fin : ∀ (q : ¬ a4 < 1 → p < a4), Calls Try.prog 5 #[.int .u64 (s : Int), .int .u64 (n : Int), .int .i64 a2, .int .i64 a3, .int .i64 a4] w fun e w' => e = .returned (.bool true) ∧ Below w.heap.size w w' := by
    intro q
    by_cases h1 : a4 < 1
    · clear p1 q
      go_enter Try.func5, Try.ntmps5
      go_wp2_with fail
      refine (pick_any s n a2 a4 p _ HM.out HP.out).mono ?_; rintro e w' ⟨rfl, rfl⟩
      go_wp2_with fail
      refine (rpick_any s n a2 a4 p _ HM.out HP.out).mono ?_; rintro e w' ⟨rfl, rfl⟩
      go_wp2_with fail
      refine (all_any s n a3 a4 c _ HM.out HC.out).mono ?_; rintro e w1 ⟨v1, rfl, o1, b1⟩
      have B1 := Lib.hid b1
      have O1 := Lib.hid o1
      clear b1 o1
      go_wp2_with fail
      refine (rall_any s n a3 a4 c _ HM.out HC.out).mono ?_; rintro e w2 ⟨v2, rfl, o2, b2⟩
      have B2 := Lib.hid b2
      obtain ⟨A1, c1, rfl, _, _, s1⟩ := O1.out.form (picks_len _ _ _ _)
      obtain ⟨A2, c2, rfl, _, _, s2⟩ := o2.form (picks_len _ _ _ _)
      have S1 := Lib.hid (s1.below B2.out)
      have S2 := Lib.hid s2
      clear s1 s2 o2 b2
      go_wp2_with fail
      refine (same_yes A1 A2 c c1 c2 ((List.range c).map fun k : Nat => pick s n (k : Int) a4) _ (by have := HC64.out; omega) (by rw [← picks_ints]; exact S1.out) (by rw [← picks_ints]; exact S2.out)).mono ?_; rintro e w3 ⟨rfl, b3⟩
      have B3 := Lib.hid (b3 w.heap.size)
      clear b3
      go_wp2_with fail
      refine (awake_any _).mono ?_; rintro e w4 ⟨rfl, b4⟩
      have B4 := Lib.hid b4
      clear b4
      go_wp2
      go_ret
      exact ⟨rfl, ((B1.out.trans (B2.out.mono B1.out.size)).trans B3.out).trans (B4.out.mono (Nat.le_trans (Nat.le_trans B1.out.size B2.out.size) B3.out.size))⟩
    · have h2 := q h1
      clear p1 q
      go_enter Try.func5, Try.ntmps5
      go_wp2_with fail
      refine (pick_any s n a2 a4 p _ HM.out HP.out).mono ?_; rintro e w' ⟨rfl, rfl⟩
      go_wp2_with fail
      refine (rpick_any s n a2 a4 p _ HM.out HP.out).mono ?_; rintro e w' ⟨rfl, rfl⟩
      go_wp2_with fail
      refine (all_any s n a3 a4 c _ HM.out HC.out).mono ?_; rintro e w1 ⟨v1, rfl, o1, b1⟩
      have B1 := Lib.hid b1
      have O1 := Lib.hid o1
      clear b1 o1
      go_wp2_with fail
      refine (rall_any s n a3 a4 c _ HM.out HC.out).mono ?_; rintro e w2 ⟨v2, rfl, o2, b2⟩
      have B2 := Lib.hid b2
      obtain ⟨A1, c1, rfl, _, _, s1⟩ := O1.out.form (picks_len _ _ _ _)
      obtain ⟨A2, c2, rfl, _, _, s2⟩ := o2.form (picks_len _ _ _ _)
      have S1 := Lib.hid (s1.below B2.out)
      have S2 := Lib.hid s2
      clear s1 s2 o2 b2
      go_wp2_with fail
      refine (same_yes A1 A2 c c1 c2 ((List.range c).map fun k : Nat => pick s n (k : Int) a4) _ (by have := HC64.out; omega) (by rw [← picks_ints]; exact S1.out) (by rw [← picks_ints]; exact S2.out)).mono ?_; rintro e w3 ⟨rfl, b3⟩
      have B3 := Lib.hid (b3 w.heap.size)
      clear b3
      go_wp2_with fail
      refine (awake_any _).mono ?_; rintro e w4 ⟨rfl, b4⟩
      have B4 := Lib.hid b4
      clear b4
      go_wp2
      go_ret
      exact ⟨rfl, ((B1.out.trans (B2.out.mono B1.out.size)).trans B3.out).trans (B4.out.mono (Nat.le_trans (Nat.le_trans B1.out.size B2.out.size) B3.out.size))⟩
  exact fin p1

set_option maxRecDepth 100000 in
theorem lifted (os : Os) (started : os.Started) (H : Type) (enc : TypeId × Value → H) :
    ReturnsInHanded {} Try.checked os 5 .any (Rows.mixPicksSpec.pre6 enc Try.prog Try.f5 Rows.mixPicksRow.domain false) (Rows.mixPicksSpec.post enc Try.prog Try.f5 false true false false) := by
  refine returnsInHanded_of_change (C := Try.checked) own started (by kernel_rfl) Try.func5
    (ChangeSpec.witness6 (enc := enc) (C := Try.checked) false ⟨#[], #[.int .u64 0, .int .u64 0, .int .i64 0, .int .i64 0, .int .i64 0], []⟩ 8 (by kernel_rfl) (by kernel_rfl) (by kernel_rfl) (by kernel_rfl)) ?_
  intro W base args ds gs before hval0 hW hcnd _
  have hval : ∀ (j : Nat) t v, Try.f5.params[j]? = some t → args[j]? = some v → Value.okWide Try.prog W .any base t v := hval0
  have hW' := hW
  obtain ⟨p, q, hA0, hV, rfl, hfz, hnd⟩ := hW
  have hA : DataW.TrodAll enc Try.prog W 0 (fun _ => true) true Try.f5.params.toList args.toList ds p := hA0
  rw [Try.params5] at hA hval
  obtain ⟨v0, vs0, d0, ds0, p0, q0, hargs, rfl, rfl, h0, r0⟩ := trodAll_cons hA
  obtain ⟨v1, vs1, d1, ds1, p1, q1, rfl, rfl, rfl, h1, r1⟩ := trodAll_cons r0
  obtain ⟨v2, vs2, d2, ds2, p2, q2, rfl, rfl, rfl, h2, r2⟩ := trodAll_cons r1
  obtain ⟨v3, vs3, d3, ds3, p3, q3, rfl, rfl, rfl, h3, r3⟩ := trodAll_cons r2
  obtain ⟨v4, vs4, d4, ds4, p4, q4, rfl, rfl, rfl, h4, r4⟩ := trodAll_cons r3
  obtain ⟨rfl, rfl, rfl⟩ := trodAll_nil r4
  obtain rfl : args = #[v0, v1, v2, v3, v4] := by cases args; simp_all
  obtain ⟨rfl, rfl⟩ := trodVars_none hV
  obtain ⟨a0, rfl, rfl, rfl, w0⟩ := open_int Try.underlying22 (hval 0 22 v0 rfl rfl) h0
  obtain ⟨a1, rfl, rfl, rfl, w1⟩ := open_int Try.underlying22 (hval 1 22 v1 rfl rfl) h1
  obtain ⟨a2, rfl, rfl, rfl, w2⟩ := open_int Try.underlying3 (hval 2 3 v2 rfl rfl) h2
  obtain ⟨a3, rfl, rfl, rfl, w3⟩ := open_int Try.underlying3 (hval 3 3 v3 rfl rfl) h3
  obtain ⟨a4, rfl, rfl, rfl, w4⟩ := open_int Try.underlying3 (hval 4 3 v4 rfl rfl) h4
  clear hA0 hval0
  refine (walk a0 a1 a2 a3 a4 w0 w1 w2 w3 w4 W).mono fun e W' ⟨he, bel⟩ => ?_
  subst he
  exact ⟨_, rfl, _, _, _, [], _, [], hW', trodAll_mk1 (shut_bool Try.underlying4 _), (trodAll_cons_mk (shut_int Try.underlying22 w0) (trodAll_cons_mk (shut_int Try.underlying22 w1) (trodAll_cons_mk (shut_int Try.underlying3 w2) (trodAll_cons_mk (shut_int Try.underlying3 w3) (trodAll_cons_mk (shut_int Try.underlying3 w4) trodAll_mk0))))), rfl, bel.frame _, fun h => by cases h⟩

theorem over : Rows.mixPicksRow.holds Try.pinned (OpenSpec.ofChange Rows.mixPicksSpec) :=
  OpenClaim.holds_of_wide 5 Try.f5 rfl rfl rfl rfl rfl rfl rfl ⟨rfl, rfl, rfl, rfl, rfl⟩ rfl rfl rfl rfl rfl (by kernel_rfl) Try.func5 (by kernel_rfl)
    (of_decide_eq_true (by kernel_rfl)) (by unfold Func.isWrapper; first | (rw [if_pos (by decide +kernel)]; kernel_rfl) | (rw [if_neg (by decide +kernel)]; exact ⟨rfl, rfl⟩))
    (fun os started H enc _ => lifted os started H enc)
end Go.Proofs.Ytioimgjdjgeepaa.mixPicks

namespace Go.Proofs.Ytioimgjdjgeepaa
/-- THE STATEMENT -/
theorem mixPicks_holds : Rows.MixPicksSaid := mixPicks.over
#print axioms mixPicks_holds
end Go.Proofs.Ytioimgjdjgeepaa

/-
  For any settings of small numbers that may be and any sector: Where tells what the document's rows hold there on both devices, or 0 where there is no such sector; the rows are as long as the plan tells; a zero Map has nothing on it; the page's example holds. No conditions.
-/
import Derived.Test.YtpaakakkcbahcaaRows
import Derived.Test.YtpaakakkcbahcaaPnWhA
import Derived.Test.YtpaakakkcbahcaaPnWhB
import Derived.Test.YtpaakakkcbahcaaPnWhC
import Derived.WalkKit
import Derived.ProofKit
import Derived.OpenShut
import Derived.ShutString
import Derived.ChangeOld
import Derived.Below
namespace Go.Proofs.Ytpaakakkcbahcaa.planWhere
open Go.ChangeShapes Go.WideShapes Go.ChangeAt Go.RowKit Num W
set_option linter.unusedVariables false

theorem own : ownKnob Try.prog.godebug = none := by kernel_rfl

theorem u16_bd {a : Int} (h : (Lit.int .u16 a).wf = true) : 0 ≤ a ∧ a ≤ 65535 := by
  simp [Lit.wf, IntKind.min, IntKind.max, IntKind.signed, IntKind.bits] at h
  omega
theorem walk (a0 a1 a2 a3 : Int) (w0 : (Lit.int .u16 a0).wf = true) (w1 : (Lit.int .u16 a1).wf = true) (w2 : (Lit.int .u16 a2).wf = true) (w3 : (Lit.int .i64 a3).wf = true) (w : World) :
    Calls Try.prog 6 #[.int .u16 a0, .int .u16 a1, .int .u16 a2, .int .i64 a3] w fun e w' => e = .returned (.bool true) ∧ Below w.heap.size w w' := by
  have h0 := u16_bd w0
  have h1 := u16_bd w1
  have h2 := u16_bd w2
  obtain ⟨nb, np, nl, ng, ns, hg, _⟩ := good_of (1 + a0 % 512) (1 + a1 % 192) (1 + a2 % 256) (by omega) (by omega) (by omega) (by omega) (by omega) (by omega)
  have hm := may_cfOf (b := 1 + a0 % 512) (s := 1 + a1 % 192) (l := 1 + a2 % 256) (by omega) (by omega) (by omega) (by omega) (by omega) (by omega)
  by_cases c : a3 < 0
  · exact where_m a0 a1 a2 a3 _ _ nb np nl ng ns _ _ rfl rfl hm hg rfl rfl w h0.1 h0.2 h1.1 h1.2 h2.1 h2.2 c
  · obtain ⟨k, hk⟩ := Int.eq_ofNat_of_zero_le (show 0 ≤ a3 by omega)
    by_cases c1 : k < nb + 2 * np
    · by_cases c2 : k < 2 + 2 * nl + ng + 2 * ns
      · exact where_yy a0 a1 a2 a3 _ _ nb np nl ng ns _ _ rfl rfl hm hg rfl rfl w h0.1 h0.2 h1.1 h1.2 h2.1 h2.2 k hk c1 c2
      · exact where_yn a0 a1 a2 a3 _ _ nb np nl ng ns _ _ rfl rfl hm hg rfl rfl w h0.1 h0.2 h1.1 h1.2 h2.1 h2.2 k hk c1 c2
    · by_cases c2 : k < 2 + 2 * nl + ng + 2 * ns
      · exact where_ny a0 a1 a2 a3 _ _ nb np nl ng ns _ _ rfl rfl hm hg rfl rfl w h0.1 h0.2 h1.1 h1.2 h2.1 h2.2 k hk c1 c2
      · exact where_nn a0 a1 a2 a3 _ _ nb np nl ng ns _ _ rfl rfl hm hg rfl rfl w h0.1 h0.2 h1.1 h1.2 h2.1 h2.2 k hk c1 c2

set_option maxRecDepth 100000 in
theorem lifted (os : Os) (started : os.Started) (H : Type) (enc : TypeId × Value → H) :
    ReturnsInHanded {} Try.checked os 6 .any (Rows.planWhereSpec.pre6 enc Try.prog Try.f6 Rows.planWhereRow.domain false) (Rows.planWhereSpec.post enc Try.prog Try.f6 false true false false) := by
  refine returnsInHanded_of_change (C := Try.checked) own started (by kernel_rfl) Try.func6
    (ChangeSpec.witness6 (enc := enc) (C := Try.checked) false ⟨#[], #[.int .u16 0, .int .u16 0, .int .u16 0, .int .i64 0], []⟩ 8 (by kernel_rfl) (by kernel_rfl) (by kernel_rfl) (by kernel_rfl)) ?_
  intro W base args ds gs before hval0 hW hcnd _
  have hval : ∀ (j : Nat) t v, Try.f6.params[j]? = some t → args[j]? = some v → Value.okWide Try.prog W .any base t v := hval0
  have hW' := hW
  obtain ⟨p, q, hA0, hV, rfl, hfz, hnd⟩ := hW
  have hA : DataW.TrodAll enc Try.prog W 0 (fun _ => true) true Try.f6.params.toList args.toList ds p := hA0
  rw [Try.params6] at hA hval
  obtain ⟨v0, vs0, d0, ds0, p0, q0, hargs, rfl, rfl, h0, r0⟩ := trodAll_cons hA
  obtain ⟨v1, vs1, d1, ds1, p1, q1, rfl, rfl, rfl, h1, r1⟩ := trodAll_cons r0
  obtain ⟨v2, vs2, d2, ds2, p2, q2, rfl, rfl, rfl, h2, r2⟩ := trodAll_cons r1
  obtain ⟨v3, vs3, d3, ds3, p3, q3, rfl, rfl, rfl, h3, r3⟩ := trodAll_cons r2
  obtain ⟨rfl, rfl, rfl⟩ := trodAll_nil r3
  obtain rfl : args = #[v0, v1, v2, v3] := by cases args; simp_all
  obtain ⟨rfl, rfl⟩ := trodVars_none hV
  obtain ⟨a0, rfl, rfl, rfl, w0⟩ := open_int Try.underlying42 (hval 0 42 v0 rfl rfl) h0
  obtain ⟨a1, rfl, rfl, rfl, w1⟩ := open_int Try.underlying42 (hval 1 42 v1 rfl rfl) h1
  obtain ⟨a2, rfl, rfl, rfl, w2⟩ := open_int Try.underlying42 (hval 2 42 v2 rfl rfl) h2
  obtain ⟨a3, rfl, rfl, rfl, w3⟩ := open_int Try.underlying3 (hval 3 3 v3 rfl rfl) h3
  clear hA0 hval0
  refine (walk a0 a1 a2 a3 w0 w1 w2 w3 W).mono fun e W' ⟨he, bel⟩ => ?_
  subst he
  exact ⟨_, rfl, _, _, _, [], _, [], hW', trodAll_mk1 (shut_bool Try.underlying4 _), (trodAll_cons_mk (shut_int Try.underlying42 w0) (trodAll_cons_mk (shut_int Try.underlying42 w1) (trodAll_cons_mk (shut_int Try.underlying42 w2) (trodAll_cons_mk (shut_int Try.underlying3 w3) trodAll_mk0)))), rfl, bel.frame _, fun h => by cases h⟩

theorem over : Rows.planWhereRow.holds Try.pinned (OpenSpec.ofChange Rows.planWhereSpec) :=
  OpenClaim.holds_of_wide 6 Try.f6 rfl rfl rfl rfl rfl rfl rfl ⟨rfl, rfl, rfl, rfl, rfl⟩ rfl rfl rfl rfl rfl (by kernel_rfl) Try.func6 (by kernel_rfl)
    (of_decide_eq_true (by kernel_rfl)) (by unfold Func.isWrapper; first | (rw [if_pos (by decide +kernel)]; kernel_rfl) | (rw [if_neg (by decide +kernel)]; exact ⟨rfl, rfl⟩))
    (fun os started H enc _ => lifted os started H enc)
end Go.Proofs.Ytpaakakkcbahcaa.planWhere

namespace Go.Proofs.Ytpaakakkcbahcaa
/-- THE STATEMENT -/
theorem planWhere_holds : Rows.PlanWhereSaid := planWhere.over
#print axioms planWhere_holds
end Go.Proofs.Ytpaakakkcbahcaa

/-
  For any number of blocks that may be, any block's number, any number of blocks and any extent's number: Extent and Page tell the extent and the page and the place in it, or zeros and false where there is none, and Masks tells just the document's extents and masks; the page's example holds. No conditions.
-/
import Derived.Test.YtpaakakkcbahcaaRows
import Derived.Test.YtpaakakkcbahcaaPnExtY
import Derived.Test.YtpaakakkcbahcaaPnExtL
import Derived.Test.YtpaakakkcbahcaaPnExtH
import Derived.WalkKit
import Derived.ProofKit
import Derived.OpenShut
import Derived.ShutString
import Derived.ChangeOld
import Derived.Below
namespace Go.Proofs.Ytpaakakkcbahcaa.planExtents
open Go.ChangeShapes Go.WideShapes Go.ChangeAt Go.RowKit Num W
set_option linter.unusedVariables false

theorem own : ownKnob Try.prog.godebug = none := by kernel_rfl

theorem u16_bd {a : Int} (h : (Lit.int .u16 a).wf = true) : 0 ≤ a ∧ a ≤ 65535 := by
  simp [Lit.wf, IntKind.min, IntKind.max, IntKind.signed, IntKind.bits] at h
  omega
theorem i64_bd {a : Int} (h : (Lit.int .i64 a).wf = true) : -9223372036854775808 ≤ a ∧ a ≤ 9223372036854775807 := by
  simp [Lit.wf, IntKind.min, IntKind.max, IntKind.signed, IntKind.bits] at h
  omega
theorem walk (a0 a1 a2 a3 : Int) (w0 : (Lit.int .u16 a0).wf = true) (w1 : (Lit.int .i64 a1).wf = true) (w2 : (Lit.int .i64 a2).wf = true) (w3 : (Lit.int .i64 a3).wf = true) (w : World) :
    Calls Try.prog 5 #[.int .u16 a0, .int .i64 a1, .int .i64 a2, .int .i64 a3] w fun e w' => e = .returned (.bool true) ∧ Below w.heap.size w w' := by
  obtain ⟨u1, u2⟩ := u16_bd w0
  obtain ⟨b1, b2⟩ := i64_bd w1
  obtain ⟨n1, n2⟩ := i64_bd w2
  obtain ⟨x1, x2⟩ := i64_bd w3
  have hm := may_cfOf (b := 1 + a0 % 512) (s := 1) (l := 1) (by omega) (by omega) (by decide) (by decide) (by decide) (by decide)
  obtain ⟨nb, hnb⟩ : ∃ nb : Nat, 1 + a0 % 512 = (nb : Int) := ⟨(1 + a0 % 512).toNat, by omega⟩
  have h0 : (planOf (1 + a0 % 512) 1 1).a0 = (nb : Int) := hnb
  have hb : nb ≤ 512 := by omega
  by_cases c1 : 0 ≤ a1
  · by_cases c2 : a1 < nb
    · by_cases d1 : 0 ≤ a3
      · by_cases d2 : a3 < (planOf (1 + a0 % 512) 1 1).a1
        · exact ext_yy a0 a1 a2 a3 _ _ nb rfl rfl hm h0 hb w u1 u2 b1 b2 n1 n2 x1 x2 c1 c2 d1 d2
        · exact ext_yh a0 a1 a2 a3 _ _ nb rfl rfl hm h0 hb w u1 u2 b1 b2 n1 n2 x1 x2 c1 c2 d1 d2
      · exact ext_yl a0 a1 a2 a3 _ _ nb rfl rfl hm h0 hb w u1 u2 b1 b2 n1 n2 x1 x2 c1 c2 (by omega)
    · by_cases d1 : 0 ≤ a3
      · by_cases d2 : a3 < (planOf (1 + a0 % 512) 1 1).a1
        · exact ext_hy a0 a1 a2 a3 _ _ nb rfl rfl hm h0 hb w u1 u2 b1 b2 n1 n2 x1 x2 c1 c2 d1 d2
        · exact ext_hh a0 a1 a2 a3 _ _ nb rfl rfl hm h0 hb w u1 u2 b1 b2 n1 n2 x1 x2 c1 c2 d1 d2
      · exact ext_hl a0 a1 a2 a3 _ _ nb rfl rfl hm h0 hb w u1 u2 b1 b2 n1 n2 x1 x2 c1 c2 (by omega)
  · by_cases d1 : 0 ≤ a3
    · by_cases d2 : a3 < (planOf (1 + a0 % 512) 1 1).a1
      · exact ext_ly a0 a1 a2 a3 _ _ nb rfl rfl hm h0 hb w u1 u2 b1 b2 n1 n2 x1 x2 (by omega) d1 d2
      · exact ext_lh a0 a1 a2 a3 _ _ nb rfl rfl hm h0 hb w u1 u2 b1 b2 n1 n2 x1 x2 (by omega) d1 d2
    · exact ext_ll a0 a1 a2 a3 _ _ nb rfl rfl hm h0 hb w u1 u2 b1 b2 n1 n2 x1 x2 (by omega) (by omega)

set_option maxRecDepth 100000 in
theorem lifted (os : Os) (started : os.Started) (H : Type) (enc : TypeId × Value → H) :
    ReturnsInHanded {} Try.checked os 5 .any (Rows.planExtentsSpec.pre6 enc Try.prog Try.f5 Rows.planExtentsRow.domain false) (Rows.planExtentsSpec.post enc Try.prog Try.f5 false true false false) := by
  refine returnsInHanded_of_change (C := Try.checked) own started (by kernel_rfl) Try.func5
    (ChangeSpec.witness6 (enc := enc) (C := Try.checked) false ⟨#[], #[.int .u16 0, .int .i64 0, .int .i64 0, .int .i64 0], []⟩ 8 (by kernel_rfl) (by kernel_rfl) (by kernel_rfl) (by kernel_rfl)) ?_
  intro W base args ds gs before hval0 hW hcnd _
  have hval : ∀ (j : Nat) t v, Try.f5.params[j]? = some t → args[j]? = some v → Value.okWide Try.prog W .any base t v := hval0
  have hW' := hW
  obtain ⟨p, q, hA0, hV, rfl, hfz, hnd⟩ := hW
  have hA : DataW.TrodAll enc Try.prog W 0 (fun _ => true) true Try.f5.params.toList args.toList ds p := hA0
  rw [Try.params5] at hA hval
  obtain ⟨v0, vs0, d0, ds0, p0, q0, hargs, rfl, rfl, h0, r0⟩ := trodAll_cons hA
  obtain ⟨v1, vs1, d1, ds1, p1, q1, rfl, rfl, rfl, h1, r1⟩ := trodAll_cons r0
  obtain ⟨v2, vs2, d2, ds2, p2, q2, rfl, rfl, rfl, h2, r2⟩ := trodAll_cons r1
  obtain ⟨v3, vs3, d3, ds3, p3, q3, rfl, rfl, rfl, h3, r3⟩ := trodAll_cons r2
  obtain ⟨rfl, rfl, rfl⟩ := trodAll_nil r3
  obtain rfl : args = #[v0, v1, v2, v3] := by cases args; simp_all
  obtain ⟨rfl, rfl⟩ := trodVars_none hV
  obtain ⟨a0, rfl, rfl, rfl, w0⟩ := open_int Try.underlying42 (hval 0 42 v0 rfl rfl) h0
  obtain ⟨a1, rfl, rfl, rfl, w1⟩ := open_int Try.underlying3 (hval 1 3 v1 rfl rfl) h1
  obtain ⟨a2, rfl, rfl, rfl, w2⟩ := open_int Try.underlying3 (hval 2 3 v2 rfl rfl) h2
  obtain ⟨a3, rfl, rfl, rfl, w3⟩ := open_int Try.underlying3 (hval 3 3 v3 rfl rfl) h3
  clear hA0 hval0
  refine (walk a0 a1 a2 a3 w0 w1 w2 w3 W).mono fun e W' ⟨he, bel⟩ => ?_
  subst he
  exact ⟨_, rfl, _, _, _, [], _, [], hW', trodAll_mk1 (shut_bool Try.underlying4 _), (trodAll_cons_mk (shut_int Try.underlying42 w0) (trodAll_cons_mk (shut_int Try.underlying3 w1) (trodAll_cons_mk (shut_int Try.underlying3 w2) (trodAll_cons_mk (shut_int Try.underlying3 w3) trodAll_mk0)))), rfl, bel.frame _, fun h => by cases h⟩

theorem over : Rows.planExtentsRow.holds Try.pinned (OpenSpec.ofChange Rows.planExtentsSpec) :=
  OpenClaim.holds_of_wide 5 Try.f5 rfl rfl rfl rfl rfl rfl rfl ⟨rfl, rfl, rfl, rfl, rfl⟩ rfl rfl rfl rfl rfl (by kernel_rfl) Try.func5 (by kernel_rfl)
    (of_decide_eq_true (by kernel_rfl)) (by unfold Func.isWrapper; first | (rw [if_pos (by decide +kernel)]; kernel_rfl) | (rw [if_neg (by decide +kernel)]; exact ⟨rfl, rfl⟩))
    (fun os started H enc _ => lifted os started H enc)
end Go.Proofs.Ytpaakakkcbahcaa.planExtents

namespace Go.Proofs.Ytpaakakkcbahcaa
/-- THE STATEMENT -/
theorem planExtents_holds : Rows.PlanExtentsSaid := planExtents.over
#print axioms planExtents_holds
end Go.Proofs.Ytpaakakkcbahcaa

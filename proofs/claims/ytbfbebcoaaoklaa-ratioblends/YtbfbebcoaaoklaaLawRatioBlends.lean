/-
  For any three floats, told by their bits: ratio.Blend tells the mean that the reference tells (they are one in the order of floats, NaN too); the page's examples hold. No conditions.
-/
import Derived.Test.YtbfbebcoaaoklaaRows
import Derived.Test.YtbfbebcoaaoklaaRatioBlend
import Derived.WalkKit
import Derived.ProofKit
import Derived.OpenShut
import Derived.ShutString
import Derived.ChangeOld
import Derived.Below
namespace Go.Proofs.Ytbfbebcoaaoklaa.ratioBlends
open Go.ChangeShapes Go.WideShapes Go.ChangeAt Go.RowKit Flt W
set_option linter.unusedVariables false

theorem own : ownKnob Try.prog.godebug = none := by kernel_rfl

set_option maxHeartbeats 1000000 in
theorem walk (a0 a1 a2 : Int) (w0 : (Lit.int .u64 a0).wf = true) (w1 : (Lit.int .u64 a1).wf = true) (w2 : (Lit.int .u64 a2).wf = true) (w : World) :
    Calls Try.prog 7 #[.int .u64 a0, .int .u64 a1, .int .u64 a2] w fun e w' => e = .returned (.bool true) ∧ Below w.heap.size w w' := by
  obtain ⟨l0, u0⟩ := bounds_u64 w0
  obtain ⟨l1, u1⟩ := bounds_u64 w1
  obtain ⟨l2, u2⟩ := bounds_u64 w2
  obtain ⟨x, ex⟩ : ∃ x, a0.toNat = x := ⟨_, rfl⟩
  obtain ⟨y, ey⟩ : ∃ x, a1.toNat = x := ⟨_, rfl⟩
  obtain ⟨z, ez⟩ : ∃ x, a2.toNat = x := ⟨_, rfl⟩
  have X := Lib.hid (show x < 18446744073709551616 by omega)
  have Y := Lib.hid (show y < 18446744073709551616 by omega)
  have Z := Lib.hid (show z < 18446744073709551616 by omega)
  have EX := Lib.hid ex
  have EY := Lib.hid ey
  have EZ := Lib.hid ez
  clear w0 w1 w2 l0 u0 l1 u1 l2 u2 ex ey ez
  have B1 : ∀ w, Calls Try.prog 23 #[.float .f64 x, .float .f64 y, .float .f64 z] w fun e w' => ∃ r, e = .returned (.float .f64 r) ∧ Hid (r < 18446744073709551616 ∧ rk r = blendRk x y z) ∧ Hid (∀ B, Below B w w') := blend_any x y z X.out Y.out Z.out
  have B2 : ∀ w, Calls Try.prog 24 #[.float .f64 x, .float .f64 y, .float .f64 z] w fun e w' => ∃ r, e = .returned (.float .f64 r) ∧ Hid (r < 18446744073709551616 ∧ rk r = blendRk x y z) ∧ Hid (∀ B, Below B w w') := rblend_any x y z X.out Y.out Z.out
  have B1 := Lib.hid B1
  have B2 := Lib.hid B2
  go_enter Try.func7, Try.ntmps7
  go_wp2_with fail
  refine (lawf_at EX.out _).mono ?_; rintro e w' ⟨rfl, rfl⟩
  go_wp2_with fail
  refine (lawf_at EY.out _).mono ?_; rintro e w' ⟨rfl, rfl⟩
  go_wp2_with fail
  refine (lawf_at EZ.out _).mono ?_; rintro e w' ⟨rfl, rfl⟩
  go_wp2_with fail
  refine (B1.out _).mono ?_; rintro e wa ⟨r1, rfl, i1, b1⟩
  go_wp2_with fail
  refine (lawf_at EX.out _).mono ?_; rintro e w' ⟨rfl, rfl⟩
  go_wp2_with fail
  refine (lawf_at EY.out _).mono ?_; rintro e w' ⟨rfl, rfl⟩
  go_wp2_with fail
  refine (lawf_at EZ.out _).mono ?_; rintro e w' ⟨rfl, rfl⟩
  go_wp2_with fail
  refine (B2.out _).mono ?_; rintro e wb ⟨r2, rfl, i2, b2⟩
  go_wp2_with fail
  refine (rsame_yes i1.out.1 i2.out.1 (i1.out.2.trans i2.out.2.symm) _).mono ?_; rintro e w' ⟨rfl, rfl⟩
  go_wp2_with fail
  refine (awake_any _).mono ?_; rintro e we ⟨rfl, hb⟩
  have HB := Lib.hid hb
  clear hb
  go_wp2
  go_ret
  exact ⟨rfl, (b1.out _).trans ((b2.out _).trans (HB.out _))⟩

set_option maxRecDepth 100000 in
theorem lifted (os : Os) (started : os.Started) (H : Type) (enc : TypeId × Value → H) :
    ReturnsInHanded {} Try.checked os 7 .any (Rows.ratioBlendsSpec.pre6 enc Try.prog Try.f7 Rows.ratioBlendsRow.domain false) (Rows.ratioBlendsSpec.post enc Try.prog Try.f7 false true false false) := by
  refine returnsInHanded_of_change (C := Try.checked) own started (by kernel_rfl) Try.func7
    (ChangeSpec.witness6 (enc := enc) (C := Try.checked) false ⟨#[], #[.int .u64 0, .int .u64 0, .int .u64 0], []⟩ 8 (by kernel_rfl) (by kernel_rfl) (by kernel_rfl) (by kernel_rfl)) ?_
  intro W base args ds gs before hval0 hW hcnd _
  have hval : ∀ (j : Nat) t v, Try.f7.params[j]? = some t → args[j]? = some v → Value.okWide Try.prog W .any base t v := hval0
  have hW' := hW
  obtain ⟨p, q, hA0, hV, rfl, hfz, hnd⟩ := hW
  have hA : DataW.TrodAll enc Try.prog W 0 (fun _ => true) true Try.f7.params.toList args.toList ds p := hA0
  rw [Try.params7] at hA hval
  obtain ⟨v0, vs0, d0, ds0, p0, q0, hargs, rfl, rfl, h0, r0⟩ := trodAll_cons hA
  obtain ⟨v1, vs1, d1, ds1, p1, q1, rfl, rfl, rfl, h1, r1⟩ := trodAll_cons r0
  obtain ⟨v2, vs2, d2, ds2, p2, q2, rfl, rfl, rfl, h2, r2⟩ := trodAll_cons r1
  obtain ⟨rfl, rfl, rfl⟩ := trodAll_nil r2
  obtain rfl : args = #[v0, v1, v2] := by cases args; simp_all
  obtain ⟨rfl, rfl⟩ := trodVars_none hV
  obtain ⟨a0, rfl, rfl, rfl, w0⟩ := open_int Try.underlying22 (hval 0 22 v0 rfl rfl) h0
  obtain ⟨a1, rfl, rfl, rfl, w1⟩ := open_int Try.underlying22 (hval 1 22 v1 rfl rfl) h1
  obtain ⟨a2, rfl, rfl, rfl, w2⟩ := open_int Try.underlying22 (hval 2 22 v2 rfl rfl) h2
  clear hA0 hval0
  refine (walk a0 a1 a2 w0 w1 w2 W).mono fun e W' ⟨he, bel⟩ => ?_
  subst he
  exact ⟨_, rfl, _, _, _, [], _, [], hW', trodAll_mk1 (shut_bool Try.underlying4 _), (trodAll_cons_mk (shut_int Try.underlying22 w0) (trodAll_cons_mk (shut_int Try.underlying22 w1) (trodAll_cons_mk (shut_int Try.underlying22 w2) trodAll_mk0))), rfl, bel.frame _, fun h => by cases h⟩

theorem over : Rows.ratioBlendsRow.holds Try.pinned (OpenSpec.ofChange Rows.ratioBlendsSpec) :=
  OpenClaim.holds_of_wide 7 Try.f7 rfl rfl rfl rfl rfl rfl rfl ⟨rfl, rfl, rfl, rfl, rfl⟩ rfl rfl rfl rfl rfl (by kernel_rfl) Try.func7 (by kernel_rfl)
    (of_decide_eq_true (by kernel_rfl)) (by unfold Func.isWrapper; first | (rw [if_pos (by decide +kernel)]; kernel_rfl) | (rw [if_neg (by decide +kernel)]; exact ⟨rfl, rfl⟩))
    (fun os started H enc _ => lifted os started H enc)
end Go.Proofs.Ytbfbebcoaaoklaa.ratioBlends

namespace Go.Proofs.Ytbfbebcoaaoklaa
/-- THE STATEMENT -/
theorem ratioBlends_holds : Rows.RatioBlendsSaid := ratioBlends.over
#print axioms ratioBlends_holds
end Go.Proofs.Ytbfbebcoaaoklaa

/-
  For any two ints and any float, told by its bits: ratio.Rate tells the rate that the reference tells (they are one in the order of floats, NaN too); ratio.Over tells, as the reference does, whether the one int, times the float, is greater than the other; the page's examples hold. No conditions.
-/
import Derived.Test.YtbfbebcoaaoklaaRows
import Derived.Test.YtbfbebcoaaoklaaRatioLawKit
import Derived.WalkKit
import Derived.ProofKit
import Derived.OpenShut
import Derived.ShutString
import Derived.ChangeOld
import Derived.Below
namespace Go.Proofs.Ytbfbebcoaaoklaa.ratioRates
open Go.ChangeShapes Go.WideShapes Go.ChangeAt Go.RowKit Flt W
set_option linter.unusedVariables false

theorem own : ownKnob Try.prog.godebug = none := by kernel_rfl

set_option maxHeartbeats 1000000 in
theorem walk_over (v : Bool) (a0 a1 a2 : Int) (w2 : (Lit.int .u64 a2).wf = true) (hv : overN a0 a2.toNat a1 = v) (w : World) :
    Calls Try.prog 6 #[.int .i64 a0, .int .i64 a1, .int .u64 a2] w fun e w' => e = .returned (.bool true) ∧ Below w.heap.size w w' := by
  obtain ⟨l2, u2⟩ := bounds_u64 w2
  obtain ⟨x, ex⟩ : ∃ x, a2.toNat = x := ⟨_, rfl⟩
  have X := Lib.hid (show x < 18446744073709551616 by omega)
  rw [ex] at hv
  have EX := Lib.hid ex
  have R1 : ∀ w, Calls Try.prog 19 #[.int .i64 a0, .int .i64 a1] w fun e w' => ∃ r, e = .returned (.float .f64 r) ∧ Hid (Is (rateN a0 a1) r) ∧ Hid (∀ B, Below B w w') := rate_any a0 a1
  have R2 : ∀ w, Calls Try.prog 20 #[.int .i64 a0, .int .i64 a1] w fun e w' => ∃ r, e = .returned (.float .f64 r) ∧ Hid (Is (rateN a0 a1) r) ∧ Hid (∀ B, Below B w w') := rrate_any a0 a1
  have O1 : ∀ w, Calls Try.prog 21 #[.int .i64 a0, .float .f64 x, .int .i64 a1] w fun e w' => e = .returned (.bool v) ∧ Hid (∀ B, Below B w w') := fun w => by have := over_any a0 x a1 w; rwa [hv] at this
  have O2 : ∀ w, Calls Try.prog 22 #[.int .i64 a0, .float .f64 x, .int .i64 a1] w fun e w' => e = .returned (.bool v) ∧ Hid (∀ B, Below B w w') := fun w => by have := rover_any a0 x a1 w; rwa [hv] at this
  have R1 := Lib.hid R1
  have R2 := Lib.hid R2
  have O1 := Lib.hid O1
  have O2 := Lib.hid O2
  clear w2 l2 u2 ex hv
  cases v
  all_goals
    go_enter Try.func6, Try.ntmps6
    go_wp2_with fail
    refine (R1.out _).mono ?_; rintro e wa ⟨r1, rfl, i1, b1⟩
    go_wp2_with fail
    refine (R2.out _).mono ?_; rintro e wb ⟨r2, rfl, i2, b2⟩
    go_wp2_with fail
    refine (rsame_yes i1.out.1 i2.out.1 (Is_rk i1.out i2.out) _).mono ?_; rintro e w' ⟨rfl, rfl⟩
    go_wp2_with fail
    refine (lawf_at EX.out _).mono ?_; rintro e w' ⟨rfl, rfl⟩
    go_wp2_with fail
    refine (O1.out _).mono ?_; rintro e wc ⟨rfl, b3⟩
    go_wp2_with fail
    refine (lawf_at EX.out _).mono ?_; rintro e w' ⟨rfl, rfl⟩
    go_wp2_with fail
    refine (O2.out _).mono ?_; rintro e wd ⟨rfl, b4⟩
    go_wp2_with fail
    refine (awake_any _).mono ?_; rintro e we ⟨rfl, hb⟩
    have HB := Lib.hid hb
    clear hb
    go_wp2
    go_ret
    exact ⟨rfl, (b1.out _).trans ((b2.out _).trans ((b3.out _).trans ((b4.out _).trans (HB.out _))))⟩

theorem walk (a0 a1 a2 : Int) (w0 : (Lit.int .i64 a0).wf = true) (w1 : (Lit.int .i64 a1).wf = true) (w2 : (Lit.int .u64 a2).wf = true) (w : World) :
    Calls Try.prog 6 #[.int .i64 a0, .int .i64 a1, .int .u64 a2] w fun e w' => e = .returned (.bool true) ∧ Below w.heap.size w w' :=
  walk_over _ a0 a1 a2 w2 rfl w

set_option maxRecDepth 100000 in
theorem lifted (os : Os) (started : os.Started) (H : Type) (enc : TypeId × Value → H) :
    ReturnsInHanded {} Try.checked os 6 .any (Rows.ratioRatesSpec.pre6 enc Try.prog Try.f6 Rows.ratioRatesRow.domain false) (Rows.ratioRatesSpec.post enc Try.prog Try.f6 false true false false) := by
  refine returnsInHanded_of_change (C := Try.checked) own started (by kernel_rfl) Try.func6
    (ChangeSpec.witness6 (enc := enc) (C := Try.checked) false ⟨#[], #[.int .i64 0, .int .i64 0, .int .u64 0], []⟩ 8 (by kernel_rfl) (by kernel_rfl) (by kernel_rfl) (by kernel_rfl)) ?_
  intro W base args ds gs before hval0 hW hcnd _
  have hval : ∀ (j : Nat) t v, Try.f6.params[j]? = some t → args[j]? = some v → Value.okWide Try.prog W .any base t v := hval0
  have hW' := hW
  obtain ⟨p, q, hA0, hV, rfl, hfz, hnd⟩ := hW
  have hA : DataW.TrodAll enc Try.prog W 0 (fun _ => true) true Try.f6.params.toList args.toList ds p := hA0
  rw [Try.params6] at hA hval
  obtain ⟨v0, vs0, d0, ds0, p0, q0, hargs, rfl, rfl, h0, r0⟩ := trodAll_cons hA
  obtain ⟨v1, vs1, d1, ds1, p1, q1, rfl, rfl, rfl, h1, r1⟩ := trodAll_cons r0
  obtain ⟨v2, vs2, d2, ds2, p2, q2, rfl, rfl, rfl, h2, r2⟩ := trodAll_cons r1
  obtain ⟨rfl, rfl, rfl⟩ := trodAll_nil r2
  obtain rfl : args = #[v0, v1, v2] := by cases args; simp_all
  obtain ⟨rfl, rfl⟩ := trodVars_none hV
  obtain ⟨a0, rfl, rfl, rfl, w0⟩ := open_int Try.underlying3 (hval 0 3 v0 rfl rfl) h0
  obtain ⟨a1, rfl, rfl, rfl, w1⟩ := open_int Try.underlying3 (hval 1 3 v1 rfl rfl) h1
  obtain ⟨a2, rfl, rfl, rfl, w2⟩ := open_int Try.underlying22 (hval 2 22 v2 rfl rfl) h2
  clear hA0 hval0
  refine (walk a0 a1 a2 w0 w1 w2 W).mono fun e W' ⟨he, bel⟩ => ?_
  subst he
  exact ⟨_, rfl, _, _, _, [], _, [], hW', trodAll_mk1 (shut_bool Try.underlying4 _), (trodAll_cons_mk (shut_int Try.underlying3 w0) (trodAll_cons_mk (shut_int Try.underlying3 w1) (trodAll_cons_mk (shut_int Try.underlying22 w2) trodAll_mk0))), rfl, bel.frame _, fun h => by cases h⟩

theorem over : Rows.ratioRatesRow.holds Try.pinned (OpenSpec.ofChange Rows.ratioRatesSpec) :=
  OpenClaim.holds_of_wide 6 Try.f6 rfl rfl rfl rfl rfl rfl rfl ⟨rfl, rfl, rfl, rfl, rfl⟩ rfl rfl rfl rfl rfl (by kernel_rfl) Try.func6 (by kernel_rfl)
    (of_decide_eq_true (by kernel_rfl)) (by unfold Func.isWrapper; first | (rw [if_pos (by decide +kernel)]; kernel_rfl) | (rw [if_neg (by decide +kernel)]; exact ⟨rfl, rfl⟩))
    (fun os started H enc _ => lifted os started H enc)
end Go.Proofs.Ytbfbebcoaaoklaa.ratioRates

namespace Go.Proofs.Ytbfbebcoaaoklaa
/-- THE STATEMENT -/
theorem ratioRates_holds : Rows.RatioRatesSaid := ratioRates.over
#print axioms ratioRates_holds
end Go.Proofs.Ytbfbebcoaaoklaa

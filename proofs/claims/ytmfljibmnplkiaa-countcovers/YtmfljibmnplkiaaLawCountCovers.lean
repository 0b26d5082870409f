/-
  For any ints n and by: count.Up and count.Rest tell how many times by covers n and what is left of it, as the reference reckons them; Up times by is not below n, and one time fewer is; the page's examples hold. No conditions.
-/
import Derived.Test.YtmfljibmnplkiaaRows
import Derived.Test.YtmfljibmnplkiaaCountAwake
import Derived.Test.YtmfljibmnplkiaaCountRmul
import Derived.WalkKit
import Derived.ProofKit
import Derived.OpenShut
import Derived.ShutString
import Derived.ChangeOld
import Derived.Below
namespace Go.Proofs.Ytmfljibmnplkiaa.countCovers
open Go.ChangeShapes Go.WideShapes Go.ChangeAt Go.RowKit Num W
set_option linter.unusedVariables false

theorem own : ownKnob Try.prog.godebug = none := by kernel_rfl

theorem up_facts {n d : Int} (h1 : ¬ n < 1) (h2 : ¬ d < 1) (hn : n ≤ 9223372036854775807) :
    1 ≤ upN n d ∧ upN n d ≤ n ∧ n ≤ sat (upN n d * d) ∧ sat ((upN n d - 1) * d) < n := by
  rw [upN_1 h1 h2]
  have q1 : 0 ≤ (n - 1) / d := Int.ediv_nonneg (by omega) (by omega)
  have q2 : (n - 1) / d ≤ n - 1 := Int.ediv_le_self _ (by omega)
  have q3 := Int.ediv_mul_le (n - 1) (b := d) (by omega)
  have q4 := Int.lt_ediv_add_one_mul_self (n - 1) (b := d) (by omega)
  have q5 : 0 ≤ (n - 1) / d * d := Int.mul_nonneg q1 (by omega)
  refine ⟨by omega, by omega, ?_, ?_⟩
  · by_cases c : ((n - 1) / d + 1) * d ≤ 9223372036854775807
    · rw [sat_in _ (by omega) c]; omega
    · rw [sat_hi _ (by omega)]; omega
  · rw [show (n - 1) / d + 1 - 1 = (n - 1) / d by omega, sat_in _ (by omega) (by omega)]; omega

set_option maxHeartbeats 1000000 in
theorem walk (a0 a1 : Int) (w0 : (Lit.int .i64 a0).wf = true) (w1 : (Lit.int .i64 a1).wf = true) (w : World) :
    Calls Try.prog 6 #[.int .i64 a0, .int .i64 a1] w fun e w' => e = .returned (.bool true) ∧ Below w.heap.size w w' := by
  obtain ⟨l0, u0⟩ := bounds_i64 w0
  obtain ⟨l1, u1⟩ := bounds_i64 w1
  clear w0 w1
  by_cases c : a0 < 1 ∨ a1 < 1
  · have e0 := upN_0 c
    have e1 : upN a0 a1 < 1 := by omega
    clear e0 c
    go_enter Try.func6, Try.ntmps6
    go_wp2_with fail
    refine (up_any _ _ _ l0 u0 u1).mono ?_; rintro e w' ⟨rfl, rfl⟩
    go_wp2_with fail
    refine (rup_any _ _ _ l0 u0 u1).mono ?_; rintro e w' ⟨rfl, rfl⟩
    go_wp2_with fail
    refine (rest_any _ _ _ l0 u0 u1).mono ?_; rintro e w' ⟨rfl, rfl⟩
    go_wp2_with fail
    refine (rrest_any _ _ _ l0 u0 u1).mono ?_; rintro e w' ⟨rfl, rfl⟩
    go_wp2_with fail
    refine (awake_any _).mono ?_; rintro e w' ⟨rfl, hb⟩
    go_wp2
    go_ret
    exact ⟨rfl, hb⟩
  · obtain ⟨f1, f2, f3, f4⟩ := up_facts (n := a0) (d := a1) (by omega) (by omega) u0
    have f5 : ¬ upN a0 a1 < 1 := by omega
    clear c
    go_enter Try.func6, Try.ntmps6
    go_wp2_with fail
    refine (up_any _ _ _ l0 u0 u1).mono ?_; rintro e w' ⟨rfl, rfl⟩
    go_wp2_with fail
    refine (rup_any _ _ _ l0 u0 u1).mono ?_; rintro e w' ⟨rfl, rfl⟩
    go_wp2_with fail
    refine (rest_any _ _ _ l0 u0 u1).mono ?_; rintro e w' ⟨rfl, rfl⟩
    go_wp2_with fail
    refine (rrest_any _ _ _ l0 u0 u1).mono ?_; rintro e w' ⟨rfl, rfl⟩
    go_wp2_with fail
    refine (awake_any _).mono ?_; rintro e w' ⟨rfl, hb⟩
    have HB := Lib.hid hb
    clear hb
    go_wp2_with fail
    refine (rmul_any _ _ _ (by omega) (by omega) l1 u1).mono ?_; rintro e w' ⟨rfl, rfl⟩
    go_wp2_with fail
    refine (rmul_any _ _ _ (by omega) (by omega) l1 u1).mono ?_; rintro e w' ⟨rfl, rfl⟩
    go_wp2
    go_ret
    exact ⟨rfl, HB.out⟩

set_option maxRecDepth 100000 in
theorem lifted (os : Os) (started : os.Started) (H : Type) (enc : TypeId × Value → H) :
    ReturnsInHanded {} Try.checked os 6 .any (Rows.countCoversSpec.pre6 enc Try.prog Try.f6 Rows.countCoversRow.domain false) (Rows.countCoversSpec.post enc Try.prog Try.f6 false true false false) := by
  refine returnsInHanded_of_change (C := Try.checked) own started (by kernel_rfl) Try.func6
    (ChangeSpec.witness6 (enc := enc) (C := Try.checked) false ⟨#[], #[.int .i64 0, .int .i64 0], []⟩ 8 (by kernel_rfl) (by kernel_rfl) (by kernel_rfl) (by kernel_rfl)) ?_
  intro W base args ds gs before hval0 hW hcnd _
  have hval : ∀ (j : Nat) t v, Try.f6.params[j]? = some t → args[j]? = some v → Value.okWide Try.prog W .any base t v := hval0
  have hW' := hW
  obtain ⟨p, q, hA0, hV, rfl, hfz, hnd⟩ := hW
  have hA : DataW.TrodAll enc Try.prog W 0 (fun _ => true) true Try.f6.params.toList args.toList ds p := hA0
  rw [Try.params6] at hA hval
  obtain ⟨v0, vs0, d0, ds0, p0, q0, hargs, rfl, rfl, h0, r0⟩ := trodAll_cons hA
  obtain ⟨v1, vs1, d1, ds1, p1, q1, rfl, rfl, rfl, h1, r1⟩ := trodAll_cons r0
  obtain ⟨rfl, rfl, rfl⟩ := trodAll_nil r1
  obtain rfl : args = #[v0, v1] := by cases args; simp_all
  obtain ⟨rfl, rfl⟩ := trodVars_none hV
  obtain ⟨a0, rfl, rfl, rfl, w0⟩ := open_int Try.underlying3 (hval 0 3 v0 rfl rfl) h0
  obtain ⟨a1, rfl, rfl, rfl, w1⟩ := open_int Try.underlying3 (hval 1 3 v1 rfl rfl) h1
  clear hA0 hval0
  refine (walk a0 a1 w0 w1 W).mono fun e W' ⟨he, bel⟩ => ?_
  subst he
  exact ⟨_, rfl, _, _, _, [], _, [], hW', trodAll_mk1 (shut_bool Try.underlying4 _), (trodAll_cons_mk (shut_int Try.underlying3 w0) (trodAll_cons_mk (shut_int Try.underlying3 w1) trodAll_mk0)), rfl, bel.frame _, fun h => by cases h⟩

theorem over : Rows.countCoversRow.holds Try.pinned (OpenSpec.ofChange Rows.countCoversSpec) :=
  OpenClaim.holds_of_wide 6 Try.f6 rfl rfl rfl rfl rfl rfl rfl ⟨rfl, rfl, rfl, rfl, rfl⟩ rfl rfl rfl rfl rfl (by kernel_rfl) Try.func6 (by kernel_rfl)
    (of_decide_eq_true (by kernel_rfl)) (by unfold Func.isWrapper; first | (rw [if_pos (by decide +kernel)]; kernel_rfl) | (rw [if_neg (by decide +kernel)]; exact ⟨rfl, rfl⟩))
    (fun os started H enc _ => lifted os started H enc)
end Go.Proofs.Ytmfljibmnplkiaa.countCovers

namespace Go.Proofs.Ytmfljibmnplkiaa
/-- THE STATEMENT -/
theorem countCovers_holds : Rows.CountCoversSaid := countCovers.over
#print axioms countCovers_holds
end Go.Proofs.Ytmfljibmnplkiaa

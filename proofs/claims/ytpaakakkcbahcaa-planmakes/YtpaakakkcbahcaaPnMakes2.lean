/-
  The walk of PlanMakes, where the settings may be. No conditions.
-/
import Derived.Test.YtpaakakkcbahcaaPnMakes
namespace Go.Proofs.Ytpaakakkcbahcaa.W
open Go.RowKit Num
set_option linter.unusedVariables false
attribute [local go_sem] eq_arr

set_option maxHeartbeats 8000000 in
theorem makes_yes (c : Cf) (p : Pl) (hp : p = planOf c.c0 c.c1 c.c2) (hm : May c) (h5 : c.c5 = .int .u64 0 ∧ c.c6 = .float .f64 0 ∧ c.c7 = .float .f64 0 ∧ c.c8 = .float .f64 0) (w : World) :
    Calls Try.prog 3 #[.int .i64 c.c0, .int .i64 c.c1, .int .i64 c.c2, .int .i64 c.c3, .int .i64 c.c4, .int .i64 c.c9] w fun e w' => e = .returned (.bool true) ∧ Below w.heap.size w w' := by
  have HM := Lib.hid hm
  have HP := Lib.hid hp
  have HC := Lib.hid (show (#[.int .i64 c.c0, .int .i64 c.c1, .int .i64 c.c2, .int .i64 c.c3, .int .i64 c.c4, .int .u64 0, .float .f64 0, .float .f64 0, .float .f64 0, .int .i64 c.c9] : Array Value) = #[.int .i64 c.c0, .int .i64 c.c1, .int .i64 c.c2, .int .i64 c.c3, .int .i64 c.c4, c.c5, c.c6, c.c7, c.c8, .int .i64 c.c9] by rw [h5.1, h5.2.1, h5.2.2.1, h5.2.2.2])
  clear hm h5 hp
  go_enter Try.func3, Try.ntmps3
  go_wp2_with (first | ((with_reducible apply L_storeRow (N := 10) info_conf); exact rfl; exact rfl; exact heap_alloc_new _ _; exact rfl; exact rfl; (simp [Value.oneCell']); intro w1 h1 g1; rw [HC.out] at h1; have H1 := Lib.hid h1; have B1 := Lib.hid ((balloc _ _).grown g1 (by simp) (fun k e => by injection e with e; omega)); clear h1 g1) | ((with_reducible apply L_loadConf); exact rfl; exact H1.out; exact rfl))
  have K1 : Hid (Ks w [(w.heap.size, #[.int .i64 c.c0, .int .i64 c.c1, .int .i64 c.c2, .int .i64 c.c3, .int .i64 c.c4, c.c5, c.c6, c.c7, c.c8, .int .i64 c.c9], 25)] w1) := ⟨B1.out, fun x hx => by simp at hx; subst hx; exact H1.out⟩
  clear H1 B1 HC
  refine (of_yes c p HP.out HM.out _).mono ?_; rintro e w2 ⟨rfl, b2⟩
  have K2 := Lib.hid (K1.out.step b2)
  clear b2 K1
  go_wp2_with ((with_reducible apply L_loadConf); exact rfl; exact (K2.out.alloc _ _).h1; exact rfl)
  refine (may_yes c _ HM.out).mono ?_; rintro e w3 ⟨rfl, b3⟩
  have K3 : Hid (Ks w [(w2.heap.size, #[.int .i64 p.a0, .int .i64 p.a1, .int .i64 p.a2, .int .i64 p.a3, .int .i64 p.a4, .int .i64 p.a5, .int .i64 p.a6, .int .i64 p.a7, .int .i64 p.a8, .int .i64 p.a9, .int .i64 p.a10, .int .i64 p.a11, .int .i64 p.a12], 32), (w.heap.size, #[.int .i64 c.c0, .int .i64 c.c1, .int .i64 c.c2, .int .i64 c.c3, .int .i64 c.c4, c.c5, c.c6, c.c7, c.c8, .int .i64 c.c9], 25)] w3) := (K2.out.alloc #[.int .i64 p.a0, .int .i64 p.a1, .int .i64 p.a2, .int .i64 p.a3, .int .i64 p.a4, .int .i64 p.a5, .int .i64 p.a6, .int .i64 p.a7, .int .i64 p.a8, .int .i64 p.a9, .int .i64 p.a10, .int .i64 p.a11, .int .i64 p.a12] 32).step b3
  clear b3 K2
  have HR := fun w => Lib.hid (rof_any c p HP.out w HM.out.1.1 HM.out.1.2 HM.out.2.1.1 HM.out.2.1.2 HM.out.2.2.1.1 HM.out.2.2.1.2)
  go_wp2_with fail
  go_region_held (fun w' => w'.cell? ⟨w.heap.size, 0, none⟩ = some (.int .i64 c.c0) ∧ w'.cell? ⟨w.heap.size, 1, none⟩ = some (.int .i64 c.c1) ∧ w'.cell? ⟨w.heap.size, 2, none⟩ = some (.int .i64 c.c2) ∧ w'.cell? ⟨w.heap.size, 3, none⟩ = some (.int .i64 c.c3) ∧ w'.cell? ⟨w.heap.size, 4, none⟩ = some (.int .i64 c.c4) ∧ w'.cell? ⟨w.heap.size, 5, none⟩ = some (c.c5) ∧ w'.cell? ⟨w.heap.size, 6, none⟩ = some (c.c6) ∧ w'.cell? ⟨w.heap.size, 7, none⟩ = some (c.c7) ∧ w'.cell? ⟨w.heap.size, 8, none⟩ = some (c.c8) ∧ w'.cell? ⟨w.heap.size, 9, none⟩ = some (.int .i64 c.c9) ∧ w'.cell? ⟨w2.heap.size, 0, none⟩ = some (.int .i64 p.a0) ∧ w'.cell? ⟨w2.heap.size, 1, none⟩ = some (.int .i64 p.a1) ∧ w'.cell? ⟨w2.heap.size, 2, none⟩ = some (.int .i64 p.a2) ∧ w'.cell? ⟨w2.heap.size, 3, none⟩ = some (.int .i64 p.a3) ∧ w'.cell? ⟨w2.heap.size, 4, none⟩ = some (.int .i64 p.a4) ∧ w'.cell? ⟨w2.heap.size, 5, none⟩ = some (.int .i64 p.a5) ∧ w'.cell? ⟨w2.heap.size, 6, none⟩ = some (.int .i64 p.a6) ∧ w'.cell? ⟨w2.heap.size, 7, none⟩ = some (.int .i64 p.a7) ∧ w'.cell? ⟨w2.heap.size, 8, none⟩ = some (.int .i64 p.a8) ∧ w'.cell? ⟨w2.heap.size, 9, none⟩ = some (.int .i64 p.a9) ∧ w'.cell? ⟨w2.heap.size, 10, none⟩ = some (.int .i64 p.a10) ∧ w'.cell? ⟨w2.heap.size, 11, none⟩ = some (.int .i64 p.a11) ∧ w'.cell? ⟨w2.heap.size, 12, none⟩ = some (.int .i64 p.a12)) (first | exact (K3.out.drew).cm | exact K4.out.cm | exact K6.out.cm | exact K7.out.cm | exact K8.out.cm) (first
    | (go_at_call 9; (with_reducible refine (check_yes c _ HM.out).mono ?_); rintro e w4 ⟨rfl, b4⟩; have K4 := Lib.hid (K3.out.drew.step b4); clear b4)
    | (go_at_call 10; (with_reducible refine (plan_any p _).mono ?_); rintro e w6 ⟨rfl, b6⟩; (first | (have K6 := Lib.hid (K7.out.step b6)) | (have K6 := Lib.hid (K4.out.step b6))); clear b6)
    | (go_at_call 12; (with_reducible refine (HR _).out.mono ?_); rintro e w7 ⟨rfl, b7⟩; (first | (have K7 := Lib.hid (K6.out.step b7)) | (have K7 := Lib.hid (K4.out.step b7))); clear b7)
    | (go_at_call 11; (with_reducible refine (awake_any _).mono ?_); rintro e w8 ⟨rfl, b8⟩; (first | (have K8 := Lib.hid (K7.out.step b8)) | (have K8 := Lib.hid (K6.out.step b8))); clear b8))
  all_goals go_wp2
  all_goals go_ret
  all_goals exact ⟨rfl, K8.out.1⟩
end Go.Proofs.Ytpaakakkcbahcaa.W

/-
  The walks of PlanWhere, part A. No conditions.
-/
import Derived.Test.YtpaakakkcbahcaaPnWhKit
namespace Go.Proofs.Ytpaakakkcbahcaa.W
open Go.RowKit Num
set_option linter.unusedVariables false
attribute [local go_sem] eq_arr
set_option maxRecDepth 100000 in
set_option maxHeartbeats 8000000 in
theorem where_yy (x y z : Int) (s : Int) (c : Cf) (p : Pl) (nb np nl ng ns N1 N2 : Nat) (hc : c = cfOf (1 + x % 512) (1 + y % 192) (1 + z % 256)) (hp : p = planOf c.c0 c.c1 c.c2) (hm : May c) (hg : Good p nb np nl ng ns) (hN1 : nb + 2 * np = N1) (hN2 : 2 + 2 * nl + ng + 2 * ns = N2) (w : World)
    (hx : 0 ≤ x) (hx2 : x ≤ 65535) (hy : 0 ≤ y) (hy2 : y ≤ 65535) (hz : 0 ≤ z) (hz2 : z ≤ 65535) (k : Nat) (hs : s = k) (hk1 : k < N1) (hk2 : k < N2) :
    Calls Try.prog 6 #[.int .u16 x, .int .u16 y, .int .u16 z, .int .i64 s] w fun e w' => e = .returned (.bool true) ∧ Below w.heap.size w w' := by
  subst hs
  obtain ⟨vb, hvb⟩ : ∃ vb, (backF nb k).k = vb := ⟨_, rfl⟩
  obtain ⟨vc, hvc⟩ : ∃ vc, (cacheF nl ng k).k = vc := ⟨_, rfl⟩
  have WB := Lib.hid (fun w => by have h := wback_way hg (k : Int) w; rw [if_pos (by omega), Int.toNat_natCast, hvb] at h; exact h)
  have WC := Lib.hid (fun w => by have h := wcache_way hg (k : Int) w; rw [if_pos (by omega), Int.toNat_natCast, hvc] at h; exact h)
  have ONE := Lib.hid (show (#[.int .i64 c.c0, .int .i64 c.c1, .int .i64 c.c2, .int .i64 c.c3, .int .i64 c.c4, c.c5, c.c6, c.c7, c.c8, .int .i64 c.c9] : Array Value).all (fun x => x.oneCell') = true by rw [hc]; simp [cfOf, Value.oneCell'])
  have CONF := Lib.hid (fun w => conf_any x y z c hc w hx hx2 hy hy2 hz hz2)
  have OF := Lib.hid (fun w => of_yes c p hp hm w)
  have ROF := Lib.hid (fun w => rof_any c p hp w hm.1.1 hm.1.2 hm.2.1.1 hm.2.1.2 hm.2.2.1.1 hm.2.2.1.2)
  have BACK := Lib.hid (fun w => by have h := rback_any p nb np hg.a0 hg.a2 hg.b0.1 (by have := hg.b0; omega) (by have := hg.b2; omega) w; rw [hN1] at h; exact h)
  have CACHE := Lib.hid (fun w => by have h := rcache_any p nl ng ns hg.a5 hg.a7 hg.a9 (by have := hg.b5; omega) (by have := hg.b7; omega) (by have := hg.b9; omega) w; rw [hN2] at h; exact h)
  have l1 : N1 ≤ 100000 := by have := hg.b0; have := hg.b2; omega
  have l2 : N2 ≤ 100000 := by have := hg.b5; have := hg.b7; have := hg.b9; omega
  have e1 : ((N1 : Int) != p.a4) = false := by have := hg.a4; simp; omega
  have e2 : ((N2 : Int) != p.a12) = false := by have := hg.a12; simp; omega
  have f4 := field_4 p
  have f11 := field_11 p
  have HVB := Lib.hid hvb
  clear hvb
  have HVC := Lib.hid hvc
  clear hvc
  clear hc hp hm hg hx hx2 hy hy2 hz hz2 hN1 hN2
  go_enter Try.func6, Try.ntmps6
  go_wp2_with fail
  refine (CONF.out _).mono ?_; rintro e w1 ⟨rfl, b1⟩
  have K1 := Lib.hid ((Ks.nil w).step b1)
  clear b1
  go_wp2_with (first | ((with_reducible apply L_storeRow (N := 10) info_conf); exact rfl; exact rfl; exact heap_alloc_new _ _; exact rfl; exact rfl; exact ONE.out; intro w2 h2 g2; have H2 := Lib.hid h2; have B2 := Lib.hid (bthen K1.out.1 ((balloc _ _).grown g2 (by simp) (fun k e => by injection e with e; omega))); clear h2 g2) | ((with_reducible apply L_loadConf); exact rfl; exact H2.out; exact rfl))
  have K2 : Hid (Ks w [(w1.heap.size, #[.int .i64 c.c0, .int .i64 c.c1, .int .i64 c.c2, .int .i64 c.c3, .int .i64 c.c4, c.c5, c.c6, c.c7, c.c8, .int .i64 c.c9], 25)] w2) := ⟨B2.out, fun x hx => by simp at hx; subst hx; exact H2.out⟩
  clear H2 B2 K1
  refine (OF.out _).mono ?_; rintro e w3 ⟨rfl, b3⟩
  have K3 := Lib.hid (K2.out.step b3)
  clear b3 K2
  go_wp2_with ((with_reducible apply L_loadConf); exact rfl; exact (K3.out.alloc _ _).h1; exact rfl)
  refine (ROF.out _).mono ?_; rintro e w4 ⟨rfl, b4⟩
  have K4 : Hid (Ks w [(w3.heap.size, #[.int .i64 p.a0, .int .i64 p.a1, .int .i64 p.a2, .int .i64 p.a3, .int .i64 p.a4, .int .i64 p.a5, .int .i64 p.a6, .int .i64 p.a7, .int .i64 p.a8, .int .i64 p.a9, .int .i64 p.a10, .int .i64 p.a11, .int .i64 p.a12], 32), (w1.heap.size, #[.int .i64 c.c0, .int .i64 c.c1, .int .i64 c.c2, .int .i64 c.c3, .int .i64 c.c4, c.c5, c.c6, c.c7, c.c8, .int .i64 c.c9], 25)] w4) := (K3.out.alloc #[.int .i64 p.a0, .int .i64 p.a1, .int .i64 p.a2, .int .i64 p.a3, .int .i64 p.a4, .int .i64 p.a5, .int .i64 p.a6, .int .i64 p.a7, .int .i64 p.a8, .int .i64 p.a9, .int .i64 p.a10, .int .i64 p.a11, .int .i64 p.a12] 32).step b4
  clear b4 K3
  go_wp2_with fail
  have K5 := Lib.hid (K4.out.alloc #[.int .i64 p.a0, .int .i64 p.a1, .int .i64 p.a2, .int .i64 p.a3, .int .i64 p.a4, .int .i64 p.a5, .int .i64 p.a6, .int .i64 p.a7, .int .i64 p.a8, .int .i64 p.a9, .int .i64 p.a10, .int .i64 p.a11, .int .i64 p.a12] 28)
  generalize w4.alloc (.cells #[.int .i64 p.a0, .int .i64 p.a1, .int .i64 p.a2, .int .i64 p.a3, .int .i64 p.a4, .int .i64 p.a5, .int .i64 p.a6, .int .i64 p.a7, .int .i64 p.a8, .int .i64 p.a9, .int .i64 p.a10, .int .i64 p.a11, .int .i64 p.a12] 28) = w5 at K5 ⊢
  clear K4
  go_region_held (fun w' => w'.cell? ⟨w4.heap.size, 0, none⟩ = some (.int .i64 p.a0) ∧ w'.cell? ⟨w4.heap.size, 1, none⟩ = some (.int .i64 p.a1) ∧ w'.cell? ⟨w4.heap.size, 2, none⟩ = some (.int .i64 p.a2) ∧ w'.cell? ⟨w4.heap.size, 3, none⟩ = some (.int .i64 p.a3) ∧ w'.cell? ⟨w4.heap.size, 4, none⟩ = some (.int .i64 p.a4) ∧ w'.cell? ⟨w4.heap.size, 5, none⟩ = some (.int .i64 p.a5) ∧ w'.cell? ⟨w4.heap.size, 6, none⟩ = some (.int .i64 p.a6) ∧ w'.cell? ⟨w4.heap.size, 7, none⟩ = some (.int .i64 p.a7) ∧ w'.cell? ⟨w4.heap.size, 8, none⟩ = some (.int .i64 p.a8) ∧ w'.cell? ⟨w4.heap.size, 9, none⟩ = some (.int .i64 p.a9) ∧ w'.cell? ⟨w4.heap.size, 10, none⟩ = some (.int .i64 p.a10) ∧ w'.cell? ⟨w4.heap.size, 11, none⟩ = some (.int .i64 p.a11) ∧ w'.cell? ⟨w4.heap.size, 12, none⟩ = some (.int .i64 p.a12)) (first | exact (K5.out.drew).cp | exact K6.out.cp | exact K7.out.1.cp) (first
    | (go_at_call 14; (with_reducible refine (BACK.out _).mono ?_); rintro e w6 ⟨g1, c1, rfl, r1, b6⟩; have K6 := Lib.hid (K5.out.drew.step b6); have R6 := Lib.hid r1; clear r1 b6)
    | (go_at_call 15; (with_reducible refine (CACHE.out _).mono ?_); rintro e w7 ⟨g2, c2, rfl, r2, b7⟩; have K7 : Hid (Kr w p w3.heap.size w4.heap.size g1 N1 g2 N2 (backF nb) (cacheF nl ng) w7) := ⟨(K6.out.step b7).two, R6.out.step b7, r2⟩; clear r2 b7))
  clear K5 K6 R6
  obtain ⟨q0, q1, q2, q3, q4, q5, q6, q7, q8, q9, q10, q11, q12⟩ := cm13 K7.out.hm
  go_wp2_with fail
  refine (plan_any p _).mono ?_; rintro e w8 ⟨rfl, b⟩
  clear q0 q1 q2 q3 q4 q5 q6 q7 q8 q9 q10 q11 q12
  have K8 := Lib.hid (K7.out.step b)
  clear b K7
  obtain ⟨q0, q1, q2, q3, q4, q5, q6, q7, q8, q9, q10, q11, q12⟩ := cm13 K8.out.hm
  go_wp2_with fail
  refine (plan_any p _).mono ?_; rintro e w9 ⟨rfl, b⟩
  clear q0 q1 q2 q3 q4 q5 q6 q7 q8 q9 q10 q11 q12
  have K9 := Lib.hid (K8.out.step b)
  clear b K8
  have z1 : w9.cell? ⟨g1, k * 3, none⟩ = some (.int .i64 vb) := by rw [← HVB.out]; exact (K9.out.2.1.cells hk1).1
  have z2 : w9.cell? ⟨g2, k * 3, none⟩ = some (.int .i64 vc) := by rw [← HVC.out]; exact (K9.out.2.2.cells hk2).1
  go_wp2_with ((with_reducible apply L_loadMap); exact rfl; exact K9.out.hm; exact rfl)
  refine (WB.out _).mono ?_; rintro e w10 ⟨rfl, b⟩
  have K10 := Lib.hid (K9.out.step b)
  clear b K9
  obtain ⟨q0, q1, q2, q3, q4, q5, q6, q7, q8, q9, q10, q11, q12⟩ := cm13 K10.out.hm
  go_wp2_with fail
  refine (WC.out _).mono ?_; rintro e w11 ⟨rfl, b⟩
  clear q0 q1 q2 q3 q4 q5 q6 q7 q8 q9 q10 q11 q12
  have B11 := Lib.hid (K10.out.step b).bel
  clear b K10
  go_wp2_with ((with_reducible apply L_loadMap); exact rfl; exact heap_alloc_new _ _; exact rfl)
  refine (none_log _).mono ?_; rintro e w12 ⟨rfl, b⟩
  have N12 : Hid (Ks w [(w11.heap.size, #[.int .i64 0, .int .i64 0, .int .i64 0, .int .i64 0, .int .i64 0, .int .i64 0, .int .i64 0, .int .i64 0, .int .i64 0, .int .i64 0, .int .i64 0, .int .i64 0, .int .i64 0], 32)] w12) := ((Ks.alloc (L := []) ⟨B11.out, fun _ h => by cases h⟩ #[.int .i64 0, .int .i64 0, .int .i64 0, .int .i64 0, .int .i64 0, .int .i64 0, .int .i64 0, .int .i64 0, .int .i64 0, .int .i64 0, .int .i64 0, .int .i64 0, .int .i64 0] 32).step b)
  clear b B11
  go_wp2_with ((with_reducible apply L_loadMap); exact rfl; exact N12.out.h0; exact rfl)
  refine (none_leaf _).mono ?_; rintro e w13 ⟨rfl, b⟩
  have N13 := Lib.hid (N12.out.step b)
  clear b N12
  go_wp2_with ((with_reducible apply L_loadMap); exact rfl; exact N13.out.h0; exact rfl)
  refine (none_slot _).mono ?_; rintro e w14 ⟨rfl, b⟩
  have N14 := Lib.hid (N13.out.step b)
  clear b N13
  go_wp2_with ((with_reducible apply L_loadMap); exact rfl; exact N14.out.h0; exact rfl)
  refine (none_masks _).mono ?_; rintro e w15 ⟨A0, k0, v0, rfl, b⟩
  have N15 := Lib.hid (N14.out.step b)
  clear b N14
  obtain ⟨q0, q1, q2, q3, q4, q5, q6, q7, q8, q9, q10, q11, q12⟩ := cz13 N15.out.h0
  go_wp2_with fail
  refine (none_where _).mono ?_; rintro e w16 ⟨rfl, b⟩
  clear q0 q1 q2 q3 q4 q5 q6 q7 q8 q9 q10 q11 q12
  have N16 := Lib.hid (N15.out.step b)
  clear b N15
  obtain ⟨q0, q1, q2, q3, q4, q5, q6, q7, q8, q9, q10, q11, q12⟩ := cz13 N16.out.h0
  go_wp2_with fail
  refine (none_plan _).mono ?_; rintro e w17 ⟨rfl, b⟩
  clear q0 q1 q2 q3 q4 q5 q6 q7 q8 q9 q10 q11 q12
  have N17 := Lib.hid (N16.out.step b)
  clear b N16
  go_wp2_with fail
  refine (awake_any _).mono ?_; rintro e w18 ⟨rfl, b⟩
  have N18 := Lib.hid (N17.out.step b)
  clear b N17
  go_wp2
  go_ret
  exact ⟨rfl, N18.out.1⟩
set_option maxRecDepth 100000 in
set_option maxHeartbeats 8000000 in
theorem where_yn (x y z : Int) (s : Int) (c : Cf) (p : Pl) (nb np nl ng ns N1 N2 : Nat) (hc : c = cfOf (1 + x % 512) (1 + y % 192) (1 + z % 256)) (hp : p = planOf c.c0 c.c1 c.c2) (hm : May c) (hg : Good p nb np nl ng ns) (hN1 : nb + 2 * np = N1) (hN2 : 2 + 2 * nl + ng + 2 * ns = N2) (w : World)
    (hx : 0 ≤ x) (hx2 : x ≤ 65535) (hy : 0 ≤ y) (hy2 : y ≤ 65535) (hz : 0 ≤ z) (hz2 : z ≤ 65535) (k : Nat) (hs : s = k) (hk1 : k < N1) (hk2 : ¬ k < N2) :
    Calls Try.prog 6 #[.int .u16 x, .int .u16 y, .int .u16 z, .int .i64 s] w fun e w' => e = .returned (.bool true) ∧ Below w.heap.size w w' := by
  subst hs
  obtain ⟨vb, hvb⟩ : ∃ vb, (backF nb k).k = vb := ⟨_, rfl⟩
  have WB := Lib.hid (fun w => by have h := wback_way hg (k : Int) w; rw [if_pos (by omega), Int.toNat_natCast, hvb] at h; exact h)
  have WC := Lib.hid (fun w => by have h := wcache_way hg (k : Int) w; rw [if_neg (by omega)] at h; exact h)
  have ONE := Lib.hid (show (#[.int .i64 c.c0, .int .i64 c.c1, .int .i64 c.c2, .int .i64 c.c3, .int .i64 c.c4, c.c5, c.c6, c.c7, c.c8, .int .i64 c.c9] : Array Value).all (fun x => x.oneCell') = true by rw [hc]; simp [cfOf, Value.oneCell'])
  have CONF := Lib.hid (fun w => conf_any x y z c hc w hx hx2 hy hy2 hz hz2)
  have OF := Lib.hid (fun w => of_yes c p hp hm w)
  have ROF := Lib.hid (fun w => rof_any c p hp w hm.1.1 hm.1.2 hm.2.1.1 hm.2.1.2 hm.2.2.1.1 hm.2.2.1.2)
  have BACK := Lib.hid (fun w => by have h := rback_any p nb np hg.a0 hg.a2 hg.b0.1 (by have := hg.b0; omega) (by have := hg.b2; omega) w; rw [hN1] at h; exact h)
  have CACHE := Lib.hid (fun w => by have h := rcache_any p nl ng ns hg.a5 hg.a7 hg.a9 (by have := hg.b5; omega) (by have := hg.b7; omega) (by have := hg.b9; omega) w; rw [hN2] at h; exact h)
  have l1 : N1 ≤ 100000 := by have := hg.b0; have := hg.b2; omega
  have l2 : N2 ≤ 100000 := by have := hg.b5; have := hg.b7; have := hg.b9; omega
  have e1 : ((N1 : Int) != p.a4) = false := by have := hg.a4; simp; omega
  have e2 : ((N2 : Int) != p.a12) = false := by have := hg.a12; simp; omega
  have f4 := field_4 p
  have f11 := field_11 p
  have HVB := Lib.hid hvb
  clear hvb
  clear hc hp hm hg hx hx2 hy hy2 hz hz2 hN1 hN2
  go_enter Try.func6, Try.ntmps6
  go_wp2_with fail
  refine (CONF.out _).mono ?_; rintro e w1 ⟨rfl, b1⟩
  have K1 := Lib.hid ((Ks.nil w).step b1)
  clear b1
  go_wp2_with (first | ((with_reducible apply L_storeRow (N := 10) info_conf); exact rfl; exact rfl; exact heap_alloc_new _ _; exact rfl; exact rfl; exact ONE.out; intro w2 h2 g2; have H2 := Lib.hid h2; have B2 := Lib.hid (bthen K1.out.1 ((balloc _ _).grown g2 (by simp) (fun k e => by injection e with e; omega))); clear h2 g2) | ((with_reducible apply L_loadConf); exact rfl; exact H2.out; exact rfl))
  have K2 : Hid (Ks w [(w1.heap.size, #[.int .i64 c.c0, .int .i64 c.c1, .int .i64 c.c2, .int .i64 c.c3, .int .i64 c.c4, c.c5, c.c6, c.c7, c.c8, .int .i64 c.c9], 25)] w2) := ⟨B2.out, fun x hx => by simp at hx; subst hx; exact H2.out⟩
  clear H2 B2 K1
  refine (OF.out _).mono ?_; rintro e w3 ⟨rfl, b3⟩
  have K3 := Lib.hid (K2.out.step b3)
  clear b3 K2
  go_wp2_with ((with_reducible apply L_loadConf); exact rfl; exact (K3.out.alloc _ _).h1; exact rfl)
  refine (ROF.out _).mono ?_; rintro e w4 ⟨rfl, b4⟩
  have K4 : Hid (Ks w [(w3.heap.size, #[.int .i64 p.a0, .int .i64 p.a1, .int .i64 p.a2, .int .i64 p.a3, .int .i64 p.a4, .int .i64 p.a5, .int .i64 p.a6, .int .i64 p.a7, .int .i64 p.a8, .int .i64 p.a9, .int .i64 p.a10, .int .i64 p.a11, .int .i64 p.a12], 32), (w1.heap.size, #[.int .i64 c.c0, .int .i64 c.c1, .int .i64 c.c2, .int .i64 c.c3, .int .i64 c.c4, c.c5, c.c6, c.c7, c.c8, .int .i64 c.c9], 25)] w4) := (K3.out.alloc #[.int .i64 p.a0, .int .i64 p.a1, .int .i64 p.a2, .int .i64 p.a3, .int .i64 p.a4, .int .i64 p.a5, .int .i64 p.a6, .int .i64 p.a7, .int .i64 p.a8, .int .i64 p.a9, .int .i64 p.a10, .int .i64 p.a11, .int .i64 p.a12] 32).step b4
  clear b4 K3
  go_wp2_with fail
  have K5 := Lib.hid (K4.out.alloc #[.int .i64 p.a0, .int .i64 p.a1, .int .i64 p.a2, .int .i64 p.a3, .int .i64 p.a4, .int .i64 p.a5, .int .i64 p.a6, .int .i64 p.a7, .int .i64 p.a8, .int .i64 p.a9, .int .i64 p.a10, .int .i64 p.a11, .int .i64 p.a12] 28)
  generalize w4.alloc (.cells #[.int .i64 p.a0, .int .i64 p.a1, .int .i64 p.a2, .int .i64 p.a3, .int .i64 p.a4, .int .i64 p.a5, .int .i64 p.a6, .int .i64 p.a7, .int .i64 p.a8, .int .i64 p.a9, .int .i64 p.a10, .int .i64 p.a11, .int .i64 p.a12] 28) = w5 at K5 ⊢
  clear K4
  go_region_held (fun w' => w'.cell? ⟨w4.heap.size, 0, none⟩ = some (.int .i64 p.a0) ∧ w'.cell? ⟨w4.heap.size, 1, none⟩ = some (.int .i64 p.a1) ∧ w'.cell? ⟨w4.heap.size, 2, none⟩ = some (.int .i64 p.a2) ∧ w'.cell? ⟨w4.heap.size, 3, none⟩ = some (.int .i64 p.a3) ∧ w'.cell? ⟨w4.heap.size, 4, none⟩ = some (.int .i64 p.a4) ∧ w'.cell? ⟨w4.heap.size, 5, none⟩ = some (.int .i64 p.a5) ∧ w'.cell? ⟨w4.heap.size, 6, none⟩ = some (.int .i64 p.a6) ∧ w'.cell? ⟨w4.heap.size, 7, none⟩ = some (.int .i64 p.a7) ∧ w'.cell? ⟨w4.heap.size, 8, none⟩ = some (.int .i64 p.a8) ∧ w'.cell? ⟨w4.heap.size, 9, none⟩ = some (.int .i64 p.a9) ∧ w'.cell? ⟨w4.heap.size, 10, none⟩ = some (.int .i64 p.a10) ∧ w'.cell? ⟨w4.heap.size, 11, none⟩ = some (.int .i64 p.a11) ∧ w'.cell? ⟨w4.heap.size, 12, none⟩ = some (.int .i64 p.a12)) (first | exact (K5.out.drew).cp | exact K6.out.cp | exact K7.out.1.cp) (first
    | (go_at_call 14; (with_reducible refine (BACK.out _).mono ?_); rintro e w6 ⟨g1, c1, rfl, r1, b6⟩; have K6 := Lib.hid (K5.out.drew.step b6); have R6 := Lib.hid r1; clear r1 b6)
    | (go_at_call 15; (with_reducible refine (CACHE.out _).mono ?_); rintro e w7 ⟨g2, c2, rfl, r2, b7⟩; have K7 : Hid (Kr w p w3.heap.size w4.heap.size g1 N1 g2 N2 (backF nb) (cacheF nl ng) w7) := ⟨(K6.out.step b7).two, R6.out.step b7, r2⟩; clear r2 b7))
  clear K5 K6 R6
  obtain ⟨q0, q1, q2, q3, q4, q5, q6, q7, q8, q9, q10, q11, q12⟩ := cm13 K7.out.hm
  go_wp2_with fail
  refine (plan_any p _).mono ?_; rintro e w8 ⟨rfl, b⟩
  clear q0 q1 q2 q3 q4 q5 q6 q7 q8 q9 q10 q11 q12
  have K8 := Lib.hid (K7.out.step b)
  clear b K7
  obtain ⟨q0, q1, q2, q3, q4, q5, q6, q7, q8, q9, q10, q11, q12⟩ := cm13 K8.out.hm
  go_wp2_with fail
  refine (plan_any p _).mono ?_; rintro e w9 ⟨rfl, b⟩
  clear q0 q1 q2 q3 q4 q5 q6 q7 q8 q9 q10 q11 q12
  have K9 := Lib.hid (K8.out.step b)
  clear b K8
  have z1 : w9.cell? ⟨g1, k * 3, none⟩ = some (.int .i64 vb) := by rw [← HVB.out]; exact (K9.out.2.1.cells hk1).1
  go_wp2_with ((with_reducible apply L_loadMap); exact rfl; exact K9.out.hm; exact rfl)
  refine (WB.out _).mono ?_; rintro e w10 ⟨rfl, b⟩
  have K10 := Lib.hid (K9.out.step b)
  clear b K9
  obtain ⟨q0, q1, q2, q3, q4, q5, q6, q7, q8, q9, q10, q11, q12⟩ := cm13 K10.out.hm
  go_wp2_with fail
  refine (WC.out _).mono ?_; rintro e w11 ⟨rfl, b⟩
  clear q0 q1 q2 q3 q4 q5 q6 q7 q8 q9 q10 q11 q12
  have B11 := Lib.hid (K10.out.step b).bel
  clear b K10
  go_wp2_with ((with_reducible apply L_loadMap); exact rfl; exact heap_alloc_new _ _; exact rfl)
  refine (none_log _).mono ?_; rintro e w12 ⟨rfl, b⟩
  have N12 : Hid (Ks w [(w11.heap.size, #[.int .i64 0, .int .i64 0, .int .i64 0, .int .i64 0, .int .i64 0, .int .i64 0, .int .i64 0, .int .i64 0, .int .i64 0, .int .i64 0, .int .i64 0, .int .i64 0, .int .i64 0], 32)] w12) := ((Ks.alloc (L := []) ⟨B11.out, fun _ h => by cases h⟩ #[.int .i64 0, .int .i64 0, .int .i64 0, .int .i64 0, .int .i64 0, .int .i64 0, .int .i64 0, .int .i64 0, .int .i64 0, .int .i64 0, .int .i64 0, .int .i64 0, .int .i64 0] 32).step b)
  clear b B11
  go_wp2_with ((with_reducible apply L_loadMap); exact rfl; exact N12.out.h0; exact rfl)
  refine (none_leaf _).mono ?_; rintro e w13 ⟨rfl, b⟩
  have N13 := Lib.hid (N12.out.step b)
  clear b N12
  go_wp2_with ((with_reducible apply L_loadMap); exact rfl; exact N13.out.h0; exact rfl)
  refine (none_slot _).mono ?_; rintro e w14 ⟨rfl, b⟩
  have N14 := Lib.hid (N13.out.step b)
  clear b N13
  go_wp2_with ((with_reducible apply L_loadMap); exact rfl; exact N14.out.h0; exact rfl)
  refine (none_masks _).mono ?_; rintro e w15 ⟨A0, k0, v0, rfl, b⟩
  have N15 := Lib.hid (N14.out.step b)
  clear b N14
  obtain ⟨q0, q1, q2, q3, q4, q5, q6, q7, q8, q9, q10, q11, q12⟩ := cz13 N15.out.h0
  go_wp2_with fail
  refine (none_where _).mono ?_; rintro e w16 ⟨rfl, b⟩
  clear q0 q1 q2 q3 q4 q5 q6 q7 q8 q9 q10 q11 q12
  have N16 := Lib.hid (N15.out.step b)
  clear b N15
  obtain ⟨q0, q1, q2, q3, q4, q5, q6, q7, q8, q9, q10, q11, q12⟩ := cz13 N16.out.h0
  go_wp2_with fail
  refine (none_plan _).mono ?_; rintro e w17 ⟨rfl, b⟩
  clear q0 q1 q2 q3 q4 q5 q6 q7 q8 q9 q10 q11 q12
  have N17 := Lib.hid (N16.out.step b)
  clear b N16
  go_wp2_with fail
  refine (awake_any _).mono ?_; rintro e w18 ⟨rfl, b⟩
  have N18 := Lib.hid (N17.out.step b)
  clear b N17
  go_wp2
  go_ret
  exact ⟨rfl, N18.out.1⟩
end Go.Proofs.Ytpaakakkcbahcaa.W

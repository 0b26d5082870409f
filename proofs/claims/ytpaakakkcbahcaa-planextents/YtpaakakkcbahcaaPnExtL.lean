/-
  The walk of PlanExtents, where the block is below 0. No conditions.
-/
import Derived.Test.YtpaakakkcbahcaaPnSame
namespace Go.Proofs.Ytpaakakkcbahcaa.W
open Go.RowKit Num Rw Mk
set_option linter.unusedVariables false
set_option maxRecDepth 100000 in
set_option maxHeartbeats 8000000 in
theorem ext_ly (u lba n x : Int) (c : Cf) (p : Pl) (nb : Nat) (hc : c = cfOf (1 + u % 512) 1 1) (hp : p = planOf c.c0 c.c1 c.c2) (hm : May c) (h0 : p.a0 = nb) (hb : nb ≤ 512) (w : World) (hu : 0 ≤ u) (hu2 : u ≤ 65535)
    (h1 : -9223372036854775808 ≤ lba) (h2 : lba ≤ 9223372036854775807) (h3 : -9223372036854775808 ≤ n) (h4 : n ≤ 9223372036854775807) (h5 : -9223372036854775808 ≤ x) (h6 : x ≤ 9223372036854775807) (ha : lba < 0) (hq : 0 ≤ x) (hq2 : x < p.a1) :
    Calls Try.prog 5 #[.int .u16 u, .int .i64 lba, .int .i64 n, .int .i64 x] w fun e w' => e = .returned (.bool true) ∧ Below w.heap.size w w' := by
  obtain ⟨k, zs, ms, hk, m1, m2⟩ := masks_two p lba n nb h0 hb h1 h2 h3 h4
  have M1 := Lib.hid m1
  have M2 := Lib.hid m2
  have A0 := Lib.hid h0
  have ONE := Lib.hid (show (#[.int .i64 c.c0, .int .i64 c.c1, .int .i64 c.c2, .int .i64 c.c3, .int .i64 c.c4, c.c5, c.c6, c.c7, c.c8, .int .i64 c.c9] : Array Value).all (fun x => x.oneCell') = true by rw [hc]; simp [cfOf, Value.oneCell'])
  have CONF := Lib.hid (fun w => conf_any u 0 0 c hc w hu hu2 (by decide) (by decide) (by decide) (by decide))
  have OF := Lib.hid (fun w => of_yes c p hp hm w)
  have ROF := Lib.hid (fun w => rof_any c p hp w hm.1.1 hm.1.2 hm.2.1.1 hm.2.1.2 hm.2.2.1.1 hm.2.2.1.2)
  clear m1 m2 hc hp hm hu hu2 h0
  go_enter Try.func5, Try.ntmps5
  go_wp2_with fail
  refine (CONF.out _).mono ?_; rintro e w1 ⟨rfl, b1⟩
  have K1 := Lib.hid ((Ks.nil w).step b1)
  clear b1
  go_wp2_with (first | ((with_reducible apply L_storeRow (N := 10) info_conf); exact rfl; exact rfl; exact heap_alloc_new _ _; exact rfl; exact rfl; exact ONE.out; intro w2 h2 g2; have H2 := Lib.hid h2; have B2 := Lib.hid (bthen K1.out.1 ((balloc _ _).grown g2 (by simp) (fun k e => by injection e with e; omega))); clear h2 g2) | ((with_reducible apply L_loadConf); exact rfl; exact H2.out; exact rfl))
  have K2 : Hid (Ks w [(w1.heap.size, #[.int .i64 c.c0, .int .i64 c.c1, .int .i64 c.c2, .int .i64 c.c3, .int .i64 c.c4, c.c5, c.c6, c.c7, c.c8, .int .i64 c.c9], 25)] w2) := ⟨B2.out, fun x hx => by simp at hx; subst hx; exact H2.out⟩
  clear H2 B2 K1
  refine (OF.out _).mono ?_; rintro e w3 ⟨rfl, b3⟩
  have K3 := Lib.hid (K2.out.step b3)
  clear b3 K2
  go_wp2_with ((with_reducible apply L_loadConf); exact rfl; exact (K3.out.alloc _ _).h1; exact rfl)
  refine (ROF.out _).mono ?_; rintro e w4 ⟨rfl, b4⟩
  have K4 : Hid (Ks w [(w3.heap.size, #[.int .i64 p.a0, .int .i64 p.a1, .int .i64 p.a2, .int .i64 p.a3, .int .i64 p.a4, .int .i64 p.a5, .int .i64 p.a6, .int .i64 p.a7, .int .i64 p.a8, .int .i64 p.a9, .int .i64 p.a10, .int .i64 p.a11, .int .i64 p.a12], 32), (w1.heap.size, #[.int .i64 c.c0, .int .i64 c.c1, .int .i64 c.c2, .int .i64 c.c3, .int .i64 c.c4, c.c5, c.c6, c.c7, c.c8, .int .i64 c.c9], 25)] w4) := (K3.out.alloc #[.int .i64 p.a0, .int .i64 p.a1, .int .i64 p.a2, .int .i64 p.a3, .int .i64 p.a4, .int .i64 p.a5, .int .i64 p.a6, .int .i64 p.a7, .int .i64 p.a8, .int .i64 p.a9, .int .i64 p.a10, .int .i64 p.a11, .int .i64 p.a12] 32).step b4
  clear b4 K3
  go_wp2_with ((with_reducible apply L_loadMap); exact rfl; exact (K4.out.alloc _ _).h1; exact rfl)
  refine (extent_no p lba _ (by rw [A0.out]; omega)).mono ?_; rintro e w5 ⟨rfl, b5⟩
  have K5 : Hid (Ks w [(w4.heap.size, #[.int .i64 p.a0, .int .i64 p.a1, .int .i64 p.a2, .int .i64 p.a3, .int .i64 p.a4, .int .i64 p.a5, .int .i64 p.a6, .int .i64 p.a7, .int .i64 p.a8, .int .i64 p.a9, .int .i64 p.a10, .int .i64 p.a11, .int .i64 p.a12], 28), (w3.heap.size, #[.int .i64 p.a0, .int .i64 p.a1, .int .i64 p.a2, .int .i64 p.a3, .int .i64 p.a4, .int .i64 p.a5, .int .i64 p.a6, .int .i64 p.a7, .int .i64 p.a8, .int .i64 p.a9, .int .i64 p.a10, .int .i64 p.a11, .int .i64 p.a12], 32), (w1.heap.size, #[.int .i64 c.c0, .int .i64 c.c1, .int .i64 c.c2, .int .i64 c.c3, .int .i64 c.c4, c.c5, c.c6, c.c7, c.c8, .int .i64 c.c9], 25)] w5) := (K4.out.alloc #[.int .i64 p.a0, .int .i64 p.a1, .int .i64 p.a2, .int .i64 p.a3, .int .i64 p.a4, .int .i64 p.a5, .int .i64 p.a6, .int .i64 p.a7, .int .i64 p.a8, .int .i64 p.a9, .int .i64 p.a10, .int .i64 p.a11, .int .i64 p.a12] 28).step b5
  clear b5 K4
  have y0 : w5.cell? ⟨w4.heap.size, 0, none⟩ = some (.int .i64 (nb : Int)) := by rw [← A0.out]; exact heap_cell K5.out.h0 rfl
  go_wp2_with ((with_reducible apply L_loadMap); exact rfl; exact K5.out.h1; exact rfl)
  refine (page_yes p x _ hq hq2 h6).mono ?_; rintro e w6 ⟨rfl, b6⟩
  have K6 := Lib.hid (K5.out.step b6)
  clear b6 K5 y0
  have y1 : w6.cell? ⟨w4.heap.size, 1, none⟩ = some (.int .i64 p.a1) := heap_cell K6.out.h0 rfl
  go_wp2_with ((with_reducible apply L_loadMap); exact rfl; exact K6.out.h1; exact rfl)
  refine (M1.out _).mono ?_; rintro e w7 ⟨A1, c1, A2, c2, rfl, s1, o1, b7⟩
  have K7 := Lib.hid (K6.out.step b7)
  have S1 := Lib.hid s1
  have O1 := Lib.hid o1
  clear b7 K6 y1 s1 o1
  go_wp2_with ((with_reducible apply L_loadPlan); exact rfl; exact K7.out.h0; exact rfl)
  refine (M2.out _).mono ?_; rintro e w8 ⟨A3, c3, A4, c4, rfl, s3, o3, b8⟩
  have K8 := Lib.hid (K7.out.step b8)
  have S2 := Lib.hid (S1.out.below b8)
  have O2 := Lib.hid (O1.out.below b8)
  have S3 := Lib.hid s3
  have O3 := Lib.hid o3
  clear b8 K7 S1 O1 s3 o3
  go_wp2_with fail
  refine (same_yes A1 A3 k c1 c3 zs _ (by omega) S2.out S3.out).mono ?_; rintro e w9 ⟨rfl, b9⟩
  have K9 := Lib.hid (K8.out.step b9)
  have cv1 := (O2.out.below b9).conv bt Try.underlying9 c2
  have cv2 := (O3.out.below b9).conv bt Try.underlying9 c4
  clear b9 K8 S2 S3 O2 O3
  go_wp2_with fail
  refine (awake_any _).mono ?_; rintro e w10 ⟨rfl, b10⟩
  have K10 := Lib.hid (K9.out.step b10)
  clear b10 K9 cv1 cv2
  go_wp2
  go_ret
  exact ⟨rfl, K10.out.1⟩
set_option maxRecDepth 100000 in
set_option maxHeartbeats 8000000 in
theorem ext_ll (u lba n x : Int) (c : Cf) (p : Pl) (nb : Nat) (hc : c = cfOf (1 + u % 512) 1 1) (hp : p = planOf c.c0 c.c1 c.c2) (hm : May c) (h0 : p.a0 = nb) (hb : nb ≤ 512) (w : World) (hu : 0 ≤ u) (hu2 : u ≤ 65535)
    (h1 : -9223372036854775808 ≤ lba) (h2 : lba ≤ 9223372036854775807) (h3 : -9223372036854775808 ≤ n) (h4 : n ≤ 9223372036854775807) (h5 : -9223372036854775808 ≤ x) (h6 : x ≤ 9223372036854775807) (ha : lba < 0) (hq : x < 0) :
    Calls Try.prog 5 #[.int .u16 u, .int .i64 lba, .int .i64 n, .int .i64 x] w fun e w' => e = .returned (.bool true) ∧ Below w.heap.size w w' := by
  obtain ⟨k, zs, ms, hk, m1, m2⟩ := masks_two p lba n nb h0 hb h1 h2 h3 h4
  have M1 := Lib.hid m1
  have M2 := Lib.hid m2
  have A0 := Lib.hid h0
  have ONE := Lib.hid (show (#[.int .i64 c.c0, .int .i64 c.c1, .int .i64 c.c2, .int .i64 c.c3, .int .i64 c.c4, c.c5, c.c6, c.c7, c.c8, .int .i64 c.c9] : Array Value).all (fun x => x.oneCell') = true by rw [hc]; simp [cfOf, Value.oneCell'])
  have CONF := Lib.hid (fun w => conf_any u 0 0 c hc w hu hu2 (by decide) (by decide) (by decide) (by decide))
  have OF := Lib.hid (fun w => of_yes c p hp hm w)
  have ROF := Lib.hid (fun w => rof_any c p hp w hm.1.1 hm.1.2 hm.2.1.1 hm.2.1.2 hm.2.2.1.1 hm.2.2.1.2)
  clear m1 m2 hc hp hm hu hu2 h0
  go_enter Try.func5, Try.ntmps5
  go_wp2_with fail
  refine (CONF.out _).mono ?_; rintro e w1 ⟨rfl, b1⟩
  have K1 := Lib.hid ((Ks.nil w).step b1)
  clear b1
  go_wp2_with (first | ((with_reducible apply L_storeRow (N := 10) info_conf); exact rfl; exact rfl; exact heap_alloc_new _ _; exact rfl; exact rfl; exact ONE.out; intro w2 h2 g2; have H2 := Lib.hid h2; have B2 := Lib.hid (bthen K1.out.1 ((balloc _ _).grown g2 (by simp) (fun k e => by injection e with e; omega))); clear h2 g2) | ((with_reducible apply L_loadConf); exact rfl; exact H2.out; exact rfl))
  have K2 : Hid (Ks w [(w1.heap.size, #[.int .i64 c.c0, .int .i64 c.c1, .int .i64 c.c2, .int .i64 c.c3, .int .i64 c.c4, c.c5, c.c6, c.c7, c.c8, .int .i64 c.c9], 25)] w2) := ⟨B2.out, fun x hx => by simp at hx; subst hx; exact H2.out⟩
  clear H2 B2 K1
  refine (OF.out _).mono ?_; rintro e w3 ⟨rfl, b3⟩
  have K3 := Lib.hid (K2.out.step b3)
  clear b3 K2
  go_wp2_with ((with_reducible apply L_loadConf); exact rfl; exact (K3.out.alloc _ _).h1; exact rfl)
  refine (ROF.out _).mono ?_; rintro e w4 ⟨rfl, b4⟩
  have K4 : Hid (Ks w [(w3.heap.size, #[.int .i64 p.a0, .int .i64 p.a1, .int .i64 p.a2, .int .i64 p.a3, .int .i64 p.a4, .int .i64 p.a5, .int .i64 p.a6, .int .i64 p.a7, .int .i64 p.a8, .int .i64 p.a9, .int .i64 p.a10, .int .i64 p.a11, .int .i64 p.a12], 32), (w1.heap.size, #[.int .i64 c.c0, .int .i64 c.c1, .int .i64 c.c2, .int .i64 c.c3, .int .i64 c.c4, c.c5, c.c6, c.c7, c.c8, .int .i64 c.c9], 25)] w4) := (K3.out.alloc #[.int .i64 p.a0, .int .i64 p.a1, .int .i64 p.a2, .int .i64 p.a3, .int .i64 p.a4, .int .i64 p.a5, .int .i64 p.a6, .int .i64 p.a7, .int .i64 p.a8, .int .i64 p.a9, .int .i64 p.a10, .int .i64 p.a11, .int .i64 p.a12] 32).step b4
  clear b4 K3
  go_wp2_with ((with_reducible apply L_loadMap); exact rfl; exact (K4.out.alloc _ _).h1; exact rfl)
  refine (extent_no p lba _ (by rw [A0.out]; omega)).mono ?_; rintro e w5 ⟨rfl, b5⟩
  have K5 : Hid (Ks w [(w4.heap.size, #[.int .i64 p.a0, .int .i64 p.a1, .int .i64 p.a2, .int .i64 p.a3, .int .i64 p.a4, .int .i64 p.a5, .int .i64 p.a6, .int .i64 p.a7, .int .i64 p.a8, .int .i64 p.a9, .int .i64 p.a10, .int .i64 p.a11, .int .i64 p.a12], 28), (w3.heap.size, #[.int .i64 p.a0, .int .i64 p.a1, .int .i64 p.a2, .int .i64 p.a3, .int .i64 p.a4, .int .i64 p.a5, .int .i64 p.a6, .int .i64 p.a7, .int .i64 p.a8, .int .i64 p.a9, .int .i64 p.a10, .int .i64 p.a11, .int .i64 p.a12], 32), (w1.heap.size, #[.int .i64 c.c0, .int .i64 c.c1, .int .i64 c.c2, .int .i64 c.c3, .int .i64 c.c4, c.c5, c.c6, c.c7, c.c8, .int .i64 c.c9], 25)] w5) := (K4.out.alloc #[.int .i64 p.a0, .int .i64 p.a1, .int .i64 p.a2, .int .i64 p.a3, .int .i64 p.a4, .int .i64 p.a5, .int .i64 p.a6, .int .i64 p.a7, .int .i64 p.a8, .int .i64 p.a9, .int .i64 p.a10, .int .i64 p.a11, .int .i64 p.a12] 28).step b5
  clear b5 K4
  have y0 : w5.cell? ⟨w4.heap.size, 0, none⟩ = some (.int .i64 (nb : Int)) := by rw [← A0.out]; exact heap_cell K5.out.h0 rfl
  go_wp2_with ((with_reducible apply L_loadMap); exact rfl; exact K5.out.h1; exact rfl)
  refine (page_no p x _ (by omega)).mono ?_; rintro e w6 ⟨rfl, b6⟩
  have K6 := Lib.hid (K5.out.step b6)
  clear b6 K5 y0
  have y1 : w6.cell? ⟨w4.heap.size, 1, none⟩ = some (.int .i64 p.a1) := heap_cell K6.out.h0 rfl
  go_wp2_with ((with_reducible apply L_loadMap); exact rfl; exact K6.out.h1; exact rfl)
  refine (M1.out _).mono ?_; rintro e w7 ⟨A1, c1, A2, c2, rfl, s1, o1, b7⟩
  have K7 := Lib.hid (K6.out.step b7)
  have S1 := Lib.hid s1
  have O1 := Lib.hid o1
  clear b7 K6 y1 s1 o1
  go_wp2_with ((with_reducible apply L_loadPlan); exact rfl; exact K7.out.h0; exact rfl)
  refine (M2.out _).mono ?_; rintro e w8 ⟨A3, c3, A4, c4, rfl, s3, o3, b8⟩
  have K8 := Lib.hid (K7.out.step b8)
  have S2 := Lib.hid (S1.out.below b8)
  have O2 := Lib.hid (O1.out.below b8)
  have S3 := Lib.hid s3
  have O3 := Lib.hid o3
  clear b8 K7 S1 O1 s3 o3
  go_wp2_with fail
  refine (same_yes A1 A3 k c1 c3 zs _ (by omega) S2.out S3.out).mono ?_; rintro e w9 ⟨rfl, b9⟩
  have K9 := Lib.hid (K8.out.step b9)
  have cv1 := (O2.out.below b9).conv bt Try.underlying9 c2
  have cv2 := (O3.out.below b9).conv bt Try.underlying9 c4
  clear b9 K8 S2 S3 O2 O3
  go_wp2_with fail
  refine (awake_any _).mono ?_; rintro e w10 ⟨rfl, b10⟩
  have K10 := Lib.hid (K9.out.step b10)
  clear b10 K9 cv1 cv2
  go_wp2
  go_ret
  exact ⟨rfl, K10.out.1⟩
set_option maxRecDepth 100000 in
set_option maxHeartbeats 8000000 in
theorem ext_lh (u lba n x : Int) (c : Cf) (p : Pl) (nb : Nat) (hc : c = cfOf (1 + u % 512) 1 1) (hp : p = planOf c.c0 c.c1 c.c2) (hm : May c) (h0 : p.a0 = nb) (hb : nb ≤ 512) (w : World) (hu : 0 ≤ u) (hu2 : u ≤ 65535)
    (h1 : -9223372036854775808 ≤ lba) (h2 : lba ≤ 9223372036854775807) (h3 : -9223372036854775808 ≤ n) (h4 : n ≤ 9223372036854775807) (h5 : -9223372036854775808 ≤ x) (h6 : x ≤ 9223372036854775807) (ha : lba < 0) (hq : 0 ≤ x) (hq2 : ¬ x < p.a1) :
    Calls Try.prog 5 #[.int .u16 u, .int .i64 lba, .int .i64 n, .int .i64 x] w fun e w' => e = .returned (.bool true) ∧ Below w.heap.size w w' := by
  obtain ⟨k, zs, ms, hk, m1, m2⟩ := masks_two p lba n nb h0 hb h1 h2 h3 h4
  have M1 := Lib.hid m1
  have M2 := Lib.hid m2
  have A0 := Lib.hid h0
  have ONE := Lib.hid (show (#[.int .i64 c.c0, .int .i64 c.c1, .int .i64 c.c2, .int .i64 c.c3, .int .i64 c.c4, c.c5, c.c6, c.c7, c.c8, .int .i64 c.c9] : Array Value).all (fun x => x.oneCell') = true by rw [hc]; simp [cfOf, Value.oneCell'])
  have CONF := Lib.hid (fun w => conf_any u 0 0 c hc w hu hu2 (by decide) (by decide) (by decide) (by decide))
  have OF := Lib.hid (fun w => of_yes c p hp hm w)
  have ROF := Lib.hid (fun w => rof_any c p hp w hm.1.1 hm.1.2 hm.2.1.1 hm.2.1.2 hm.2.2.1.1 hm.2.2.1.2)
  clear m1 m2 hc hp hm hu hu2 h0
  go_enter Try.func5, Try.ntmps5
  go_wp2_with fail
  refine (CONF.out _).mono ?_; rintro e w1 ⟨rfl, b1⟩
  have K1 := Lib.hid ((Ks.nil w).step b1)
  clear b1
  go_wp2_with (first | ((with_reducible apply L_storeRow (N := 10) info_conf); exact rfl; exact rfl; exact heap_alloc_new _ _; exact rfl; exact rfl; exact ONE.out; intro w2 h2 g2; have H2 := Lib.hid h2; have B2 := Lib.hid (bthen K1.out.1 ((balloc _ _).grown g2 (by simp) (fun k e => by injection e with e; omega))); clear h2 g2) | ((with_reducible apply L_loadConf); exact rfl; exact H2.out; exact rfl))
  have K2 : Hid (Ks w [(w1.heap.size, #[.int .i64 c.c0, .int .i64 c.c1, .int .i64 c.c2, .int .i64 c.c3, .int .i64 c.c4, c.c5, c.c6, c.c7, c.c8, .int .i64 c.c9], 25)] w2) := ⟨B2.out, fun x hx => by simp at hx; subst hx; exact H2.out⟩
  clear H2 B2 K1
  refine (OF.out _).mono ?_; rintro e w3 ⟨rfl, b3⟩
  have K3 := Lib.hid (K2.out.step b3)
  clear b3 K2
  go_wp2_with ((with_reducible apply L_loadConf); exact rfl; exact (K3.out.alloc _ _).h1; exact rfl)
  refine (ROF.out _).mono ?_; rintro e w4 ⟨rfl, b4⟩
  have K4 : Hid (Ks w [(w3.heap.size, #[.int .i64 p.a0, .int .i64 p.a1, .int .i64 p.a2, .int .i64 p.a3, .int .i64 p.a4, .int .i64 p.a5, .int .i64 p.a6, .int .i64 p.a7, .int .i64 p.a8, .int .i64 p.a9, .int .i64 p.a10, .int .i64 p.a11, .int .i64 p.a12], 32), (w1.heap.size, #[.int .i64 c.c0, .int .i64 c.c1, .int .i64 c.c2, .int .i64 c.c3, .int .i64 c.c4, c.c5, c.c6, c.c7, c.c8, .int .i64 c.c9], 25)] w4) := (K3.out.alloc #[.int .i64 p.a0, .int .i64 p.a1, .int .i64 p.a2, .int .i64 p.a3, .int .i64 p.a4, .int .i64 p.a5, .int .i64 p.a6, .int .i64 p.a7, .int .i64 p.a8, .int .i64 p.a9, .int .i64 p.a10, .int .i64 p.a11, .int .i64 p.a12] 32).step b4
  clear b4 K3
  go_wp2_with ((with_reducible apply L_loadMap); exact rfl; exact (K4.out.alloc _ _).h1; exact rfl)
  refine (extent_no p lba _ (by rw [A0.out]; omega)).mono ?_; rintro e w5 ⟨rfl, b5⟩
  have K5 : Hid (Ks w [(w4.heap.size, #[.int .i64 p.a0, .int .i64 p.a1, .int .i64 p.a2, .int .i64 p.a3, .int .i64 p.a4, .int .i64 p.a5, .int .i64 p.a6, .int .i64 p.a7, .int .i64 p.a8, .int .i64 p.a9, .int .i64 p.a10, .int .i64 p.a11, .int .i64 p.a12], 28), (w3.heap.size, #[.int .i64 p.a0, .int .i64 p.a1, .int .i64 p.a2, .int .i64 p.a3, .int .i64 p.a4, .int .i64 p.a5, .int .i64 p.a6, .int .i64 p.a7, .int .i64 p.a8, .int .i64 p.a9, .int .i64 p.a10, .int .i64 p.a11, .int .i64 p.a12], 32), (w1.heap.size, #[.int .i64 c.c0, .int .i64 c.c1, .int .i64 c.c2, .int .i64 c.c3, .int .i64 c.c4, c.c5, c.c6, c.c7, c.c8, .int .i64 c.c9], 25)] w5) := (K4.out.alloc #[.int .i64 p.a0, .int .i64 p.a1, .int .i64 p.a2, .int .i64 p.a3, .int .i64 p.a4, .int .i64 p.a5, .int .i64 p.a6, .int .i64 p.a7, .int .i64 p.a8, .int .i64 p.a9, .int .i64 p.a10, .int .i64 p.a11, .int .i64 p.a12] 28).step b5
  clear b5 K4
  have y0 : w5.cell? ⟨w4.heap.size, 0, none⟩ = some (.int .i64 (nb : Int)) := by rw [← A0.out]; exact heap_cell K5.out.h0 rfl
  go_wp2_with ((with_reducible apply L_loadMap); exact rfl; exact K5.out.h1; exact rfl)
  refine (page_no p x _ (by omega)).mono ?_; rintro e w6 ⟨rfl, b6⟩
  have K6 := Lib.hid (K5.out.step b6)
  clear b6 K5 y0
  have y1 : w6.cell? ⟨w4.heap.size, 1, none⟩ = some (.int .i64 p.a1) := heap_cell K6.out.h0 rfl
  go_wp2_with ((with_reducible apply L_loadMap); exact rfl; exact K6.out.h1; exact rfl)
  refine (M1.out _).mono ?_; rintro e w7 ⟨A1, c1, A2, c2, rfl, s1, o1, b7⟩
  have K7 := Lib.hid (K6.out.step b7)
  have S1 := Lib.hid s1
  have O1 := Lib.hid o1
  clear b7 K6 y1 s1 o1
  go_wp2_with ((with_reducible apply L_loadPlan); exact rfl; exact K7.out.h0; exact rfl)
  refine (M2.out _).mono ?_; rintro e w8 ⟨A3, c3, A4, c4, rfl, s3, o3, b8⟩
  have K8 := Lib.hid (K7.out.step b8)
  have S2 := Lib.hid (S1.out.below b8)
  have O2 := Lib.hid (O1.out.below b8)
  have S3 := Lib.hid s3
  have O3 := Lib.hid o3
  clear b8 K7 S1 O1 s3 o3
  go_wp2_with fail
  refine (same_yes A1 A3 k c1 c3 zs _ (by omega) S2.out S3.out).mono ?_; rintro e w9 ⟨rfl, b9⟩
  have K9 := Lib.hid (K8.out.step b9)
  have cv1 := (O2.out.below b9).conv bt Try.underlying9 c2
  have cv2 := (O3.out.below b9).conv bt Try.underlying9 c4
  clear b9 K8 S2 S3 O2 O3
  go_wp2_with fail
  refine (awake_any _).mono ?_; rintro e w10 ⟨rfl, b10⟩
  have K10 := Lib.hid (K9.out.step b10)
  clear b10 K9 cv1 cv2
  go_wp2
  go_ret
  exact ⟨rfl, K10.out.1⟩
end Go.Proofs.Ytpaakakkcbahcaa.W

/-
  The walk of PlanPlaces. No conditions.
-/
import Derived.Test.YtpaakakkcbahcaaPnGood
namespace Go.Proofs.Ytpaakakkcbahcaa.W
open Go.RowKit Num
set_option linter.unusedVariables false

/-- cell by cell: a plan -/
theorem Ks.cp {w0 w : World} {L : List (Nat × Array Value × TypeId)} {pb : Nat} {p : Pl} (h : Ks w0 ((pb, #[.int .i64 p.a0, .int .i64 p.a1, .int .i64 p.a2, .int .i64 p.a3, .int .i64 p.a4, .int .i64 p.a5, .int .i64 p.a6, .int .i64 p.a7, .int .i64 p.a8, .int .i64 p.a9, .int .i64 p.a10, .int .i64 p.a11, .int .i64 p.a12], 28) :: L) w) : (fun w' => w'.cell? ⟨pb, 0, none⟩ = some (.int .i64 p.a0) ∧ w'.cell? ⟨pb, 1, none⟩ = some (.int .i64 p.a1) ∧ w'.cell? ⟨pb, 2, none⟩ = some (.int .i64 p.a2) ∧ w'.cell? ⟨pb, 3, none⟩ = some (.int .i64 p.a3) ∧ w'.cell? ⟨pb, 4, none⟩ = some (.int .i64 p.a4) ∧ w'.cell? ⟨pb, 5, none⟩ = some (.int .i64 p.a5) ∧ w'.cell? ⟨pb, 6, none⟩ = some (.int .i64 p.a6) ∧ w'.cell? ⟨pb, 7, none⟩ = some (.int .i64 p.a7) ∧ w'.cell? ⟨pb, 8, none⟩ = some (.int .i64 p.a8) ∧ w'.cell? ⟨pb, 9, none⟩ = some (.int .i64 p.a9) ∧ w'.cell? ⟨pb, 10, none⟩ = some (.int .i64 p.a10) ∧ w'.cell? ⟨pb, 11, none⟩ = some (.int .i64 p.a11) ∧ w'.cell? ⟨pb, 12, none⟩ = some (.int .i64 p.a12)) w := by
  have hm : ∀ j v, (#[.int .i64 p.a0, .int .i64 p.a1, .int .i64 p.a2, .int .i64 p.a3, .int .i64 p.a4, .int .i64 p.a5, .int .i64 p.a6, .int .i64 p.a7, .int .i64 p.a8, .int .i64 p.a9, .int .i64 p.a10, .int .i64 p.a11, .int .i64 p.a12] : Array Value)[j]? = some v → w.cell? ⟨pb, j, none⟩ = some v := fun j v e => heap_cell h.h0 e
  exact ⟨hm 0 _ rfl, hm 1 _ rfl, hm 2 _ rfl, hm 3 _ rfl, hm 4 _ rfl, hm 5 _ rfl, hm 6 _ rfl, hm 7 _ rfl, hm 8 _ rfl, hm 9 _ rfl, hm 10 _ rfl, hm 11 _ rfl, hm 12 _ rfl⟩
/-- what is kept from then on: the settings, the map, the plan, both rows -/
def Kr (w0 : World) (p : Pl) (mb pb g1 N1 g2 N2 : Nat) (f1 f2 : Nat → Th) (w : World) : Prop := Ks w0 [(pb, #[.int .i64 p.a0, .int .i64 p.a1, .int .i64 p.a2, .int .i64 p.a3, .int .i64 p.a4, .int .i64 p.a5, .int .i64 p.a6, .int .i64 p.a7, .int .i64 p.a8, .int .i64 p.a9, .int .i64 p.a10, .int .i64 p.a11, .int .i64 p.a12], 28), (mb, #[.int .i64 p.a0, .int .i64 p.a1, .int .i64 p.a2, .int .i64 p.a3, .int .i64 p.a4, .int .i64 p.a5, .int .i64 p.a6, .int .i64 p.a7, .int .i64 p.a8, .int .i64 p.a9, .int .i64 p.a10, .int .i64 p.a11, .int .i64 p.a12], 32)] w ∧ TRow w g1 N1 f1 ∧ TRow w g2 N2 f2
theorem Kr.step {w0 w w' : World} {p : Pl} {mb pb g1 N1 g2 N2 : Nat} {f1 f2 : Nat → Th} (h : Kr w0 p mb pb g1 N1 g2 N2 f1 f2 w) (b : Below w.heap.size w w') : Kr w0 p mb pb g1 N1 g2 N2 f1 f2 w' := ⟨h.1.step b, h.2.1.step b, h.2.2.step b⟩
theorem Kr.hm {w0 w : World} {p : Pl} {mb pb g1 N1 g2 N2 : Nat} {f1 f2 : Nat → Th} (h : Kr w0 p mb pb g1 N1 g2 N2 f1 f2 w) : w.heap[mb]? = some (.cells #[.int .i64 p.a0, .int .i64 p.a1, .int .i64 p.a2, .int .i64 p.a3, .int .i64 p.a4, .int .i64 p.a5, .int .i64 p.a6, .int .i64 p.a7, .int .i64 p.a8, .int .i64 p.a9, .int .i64 p.a10, .int .i64 p.a11, .int .i64 p.a12] 32 (0, 0)) := h.1.h1
theorem Kr.hp {w0 w : World} {p : Pl} {mb pb g1 N1 g2 N2 : Nat} {f1 f2 : Nat → Th} (h : Kr w0 p mb pb g1 N1 g2 N2 f1 f2 w) : w.heap[pb]? = some (.cells #[.int .i64 p.a0, .int .i64 p.a1, .int .i64 p.a2, .int .i64 p.a3, .int .i64 p.a4, .int .i64 p.a5, .int .i64 p.a6, .int .i64 p.a7, .int .i64 p.a8, .int .i64 p.a9, .int .i64 p.a10, .int .i64 p.a11, .int .i64 p.a12] 28 (0, 0)) := h.1.h0
theorem Kr.bel {w0 w : World} {p : Pl} {mb pb g1 N1 g2 N2 : Nat} {f1 f2 : Nat → Th} (h : Kr w0 p mb pb g1 N1 g2 N2 f1 f2 w) : Below w0.heap.size w0 w := h.1.1
theorem Ks.two {w0 w : World} {x y z : Nat × Array Value × TypeId} (h : Ks w0 [x, y, z] w) : Ks w0 [x, y] w := ⟨h.1, fun q hq => h.2 q (by simp at hq ⊢; rcases hq with rfl | rfl <;> simp)⟩

set_option maxRecDepth 100000 in
set_option maxHeartbeats 8000000 in
theorem places_any (x y z : Int) (n k q : Int) (c : Cf) (p : Pl) (nb np nl ng ns : Nat) (hc : c = cfOf (1 + x % 512) (1 + y % 192) (1 + z % 256)) (hp : p = planOf c.c0 c.c1 c.c2) (hm : May c) (hg : Good p nb np nl ng ns) (w : World)
    (hx : 0 ≤ x) (hx2 : x ≤ 65535) (hy : 0 ≤ y) (hy2 : y ≤ 65535) (hz : 0 ≤ z) (hz2 : z ≤ 65535) (hq : 0 ≤ q) (hq2 : q ≤ 18446744073709551615) :
    Calls Try.prog 4 #[.int .u16 x, .int .u16 y, .int .u16 z, .int .i64 n, .int .i64 k, .int .u64 q] w fun e w' => e = .returned (.bool true) ∧ Below w.heap.size w w' := by
  obtain ⟨v1, v2, t1, s1, s2, cop⟩ := copies_way hg n
  obtain ⟨v3, t3, s3, com⟩ := commit_way hg n
  obtain ⟨v4, t4, s4, lea⟩ := leaf_way hg n k
  obtain ⟨v5, t5, s5, log⟩ := log_way hg q hq hq2
  obtain ⟨v6, v7, t6, s6, s7, slo⟩ := slot_way hg n
  have S1 := Lib.hid s1
  have S2 := Lib.hid s2
  have S3 := Lib.hid s3
  have S4 := Lib.hid s4
  have S5 := Lib.hid s5
  have S6 := Lib.hid s6
  have S7 := Lib.hid s7
  have COP := Lib.hid cop
  have COM := Lib.hid com
  have LEA := Lib.hid lea
  have LOG := Lib.hid log
  have SLO := Lib.hid slo
  have ONE := Lib.hid (show (#[.int .i64 c.c0, .int .i64 c.c1, .int .i64 c.c2, .int .i64 c.c3, .int .i64 c.c4, c.c5, c.c6, c.c7, c.c8, .int .i64 c.c9] : Array Value).all (fun x => x.oneCell') = true by rw [hc]; simp [cfOf, Value.oneCell'])
  have CONF := Lib.hid (fun w => conf_any x y z c hc w hx hx2 hy hy2 hz hz2)
  have OF := Lib.hid (fun w => of_yes c p hp hm w)
  have ROF := Lib.hid (fun w => rof_any c p hp w hm.1.1 hm.1.2 hm.2.1.1 hm.2.1.2 hm.2.2.1.1 hm.2.2.1.2)
  have BACK := Lib.hid (fun w => rback_any p nb np hg.a0 hg.a2 hg.b0.1 (by have := hg.b0; omega) (by have := hg.b2; omega) w)
  have CACHE := Lib.hid (fun w => rcache_any p nl ng ns hg.a5 hg.a7 hg.a9 (by have := hg.b5; omega) (by have := hg.b7; omega) (by have := hg.b9; omega) w)
  have N1 : Hid (nb + 2 * np ≤ 100000) := by show _ ≤ _; have := hg.b0; have := hg.b2; omega
  have N2 : Hid (2 + 2 * nl + ng + 2 * ns ≤ 100000) := by show _ ≤ _; have := hg.b5; have := hg.b7; have := hg.b9; omega
  have A7 := Lib.hid hg.a7
  have hg7 := hg.b7
  have m1 := Int.emod_nonneg q (b := (ng : Int)) (by omega)
  have m2 := Int.emod_lt_of_pos q (b := (ng : Int)) (by omega)
  clear s1 s2 s3 s4 s5 s6 s7 cop com lea log slo hc hp hm hg hx hx2 hy hy2 hz hz2
  go_enter Try.func4, Try.ntmps4
  go_wp2_with fail
  refine (CONF.out _).mono ?_; rintro e w1 ⟨rfl, b1⟩
  have K1 := Lib.hid ((Ks.nil w).step b1)
  clear b1
  go_wp2_with (first | ((with_reducible apply L_storeRow (N := 10) info_conf); exact rfl; exact rfl; exact heap_alloc_new _ _; exact rfl; exact rfl; (first | exact ONE.out | (simp [Value.oneCell'])); intro w2 h2 g2; have H2 := Lib.hid h2; have B2 := Lib.hid (bthen K1.out.1 ((balloc _ _).grown g2 (by simp) (fun k e => by injection e with e; omega))); clear h2 g2) | ((with_reducible apply L_loadConf); exact rfl; exact H2.out; exact rfl))
  have K2 : Hid (Ks w [(w1.heap.size, #[.int .i64 c.c0, .int .i64 c.c1, .int .i64 c.c2, .int .i64 c.c3, .int .i64 c.c4, c.c5, c.c6, c.c7, c.c8, .int .i64 c.c9], 25)] w2) := ⟨B2.out, fun x hx => by simp at hx; subst hx; exact H2.out⟩
  clear H2 B2 K1
  refine (OF.out _).mono ?_; rintro e w3 ⟨rfl, b3⟩
  have K3 := Lib.hid (K2.out.step b3)
  clear b3 K2
  go_wp2_with ((with_reducible apply L_loadConf); exact rfl; exact (K3.out.alloc _ _).h1; exact rfl)
  refine (ROF.out _).mono ?_; rintro e w4 ⟨rfl, b4⟩
  have K4 : Hid (Ks w [(w3.heap.size, #[.int .i64 p.a0, .int .i64 p.a1, .int .i64 p.a2, .int .i64 p.a3, .int .i64 p.a4, .int .i64 p.a5, .int .i64 p.a6, .int .i64 p.a7, .int .i64 p.a8, .int .i64 p.a9, .int .i64 p.a10, .int .i64 p.a11, .int .i64 p.a12], 32), (w1.heap.size, #[.int .i64 c.c0, .int .i64 c.c1, .int .i64 c.c2, .int .i64 c.c3, .int .i64 c.c4, c.c5, c.c6, c.c7, c.c8, .int .i64 c.c9], 25)] w4) := (K3.out.alloc #[.int .i64 p.a0, .int .i64 p.a1, .int .i64 p.a2, .int .i64 p.a3, .int .i64 p.a4, .int .i64 p.a5, .int .i64 p.a6, .int .i64 p.a7, .int .i64 p.a8, .int .i64 p.a9, .int .i64 p.a10, .int .i64 p.a11, .int .i64 p.a12] 32).step b4
  clear b4 K3
  go_wp2_with fail
  have K5 := Lib.hid (K4.out.alloc #[.int .i64 p.a0, .int .i64 p.a1, .int .i64 p.a2, .int .i64 p.a3, .int .i64 p.a4, .int .i64 p.a5, .int .i64 p.a6, .int .i64 p.a7, .int .i64 p.a8, .int .i64 p.a9, .int .i64 p.a10, .int .i64 p.a11, .int .i64 p.a12] 28)
  generalize w4.alloc (.cells #[.int .i64 p.a0, .int .i64 p.a1, .int .i64 p.a2, .int .i64 p.a3, .int .i64 p.a4, .int .i64 p.a5, .int .i64 p.a6, .int .i64 p.a7, .int .i64 p.a8, .int .i64 p.a9, .int .i64 p.a10, .int .i64 p.a11, .int .i64 p.a12] 28) = w5 at K5 ⊢
  clear K4
  go_region_held (fun w' => w'.cell? ⟨w4.heap.size, 0, none⟩ = some (.int .i64 p.a0) ∧ w'.cell? ⟨w4.heap.size, 1, none⟩ = some (.int .i64 p.a1) ∧ w'.cell? ⟨w4.heap.size, 2, none⟩ = some (.int .i64 p.a2) ∧ w'.cell? ⟨w4.heap.size, 3, none⟩ = some (.int .i64 p.a3) ∧ w'.cell? ⟨w4.heap.size, 4, none⟩ = some (.int .i64 p.a4) ∧ w'.cell? ⟨w4.heap.size, 5, none⟩ = some (.int .i64 p.a5) ∧ w'.cell? ⟨w4.heap.size, 6, none⟩ = some (.int .i64 p.a6) ∧ w'.cell? ⟨w4.heap.size, 7, none⟩ = some (.int .i64 p.a7) ∧ w'.cell? ⟨w4.heap.size, 8, none⟩ = some (.int .i64 p.a8) ∧ w'.cell? ⟨w4.heap.size, 9, none⟩ = some (.int .i64 p.a9) ∧ w'.cell? ⟨w4.heap.size, 10, none⟩ = some (.int .i64 p.a10) ∧ w'.cell? ⟨w4.heap.size, 11, none⟩ = some (.int .i64 p.a11) ∧ w'.cell? ⟨w4.heap.size, 12, none⟩ = some (.int .i64 p.a12)) (first | exact (K5.out.drew).cp | exact K6.out.cp | exact K7.out.1.cp) (first
    | (go_at_call 14; (with_reducible refine (BACK.out _).mono ?_); rintro e w6 ⟨g1, c1, rfl, r1, b6⟩; have K6 := Lib.hid (K5.out.drew.step b6); have R6 := Lib.hid r1; clear r1 b6)
    | (go_at_call 15; (with_reducible refine (CACHE.out _).mono ?_); rintro e w7 ⟨g2, c2, rfl, r2, b7⟩; have K7 : Hid (Kr w p w3.heap.size w4.heap.size g1 _ g2 _ _ _ w7) := ⟨(K6.out.step b7).two, R6.out.step b7, r2⟩; clear r2 b7))
  clear K5 K6 R6
  go_wp2_with ((with_reducible apply L_loadMap); exact rfl; exact K7.out.hm; exact rfl)
  refine (COP.out _).mono ?_; rintro e w8 ⟨rfl, b⟩
  have K8 := Lib.hid (K7.out.step b)
  clear b K7
  go_wp2_with ((with_reducible apply L_loadMap); exact rfl; exact K8.out.hm; exact rfl)
  refine (COM.out _).mono ?_; rintro e w9 ⟨rfl, b⟩
  have K9 := Lib.hid (K8.out.step b)
  clear b K8
  go_wp2_with ((with_reducible apply L_loadMap); exact rfl; exact K9.out.hm; exact rfl)
  refine (LEA.out _).mono ?_; rintro e w10 ⟨rfl, b⟩
  have K10 := Lib.hid (K9.out.step b)
  clear b K9
  go_wp2_with ((with_reducible apply L_loadMap); exact rfl; exact K10.out.hm; exact rfl)
  refine (LOG.out _).mono ?_; rintro e w11 ⟨rfl, b⟩
  have K11 := Lib.hid (K10.out.step b)
  clear b K10
  go_wp2_with ((with_reducible apply L_loadMap); exact rfl; exact K11.out.hm; exact rfl)
  refine (SLO.out _).mono ?_; rintro e w12 ⟨rfl, b⟩
  have K12 := Lib.hid (K11.out.step b)
  clear b K11
  go_wp2_with fail
  refine (place_any _ N1.out K12.out.2.1 S1.out).mono ?_; rintro e w13 ⟨rfl, b⟩
  have K13 := Lib.hid (K12.out.step b)
  clear b K12
  go_wp2_with fail
  refine (place_any _ N1.out K13.out.2.1 S2.out).mono ?_; rintro e w14 ⟨rfl, b⟩
  have K14 := Lib.hid (K13.out.step b)
  clear b K13
  go_wp2_with fail
  refine (place_any _ N2.out K14.out.2.2 S3.out).mono ?_; rintro e w15 ⟨rfl, b⟩
  have K15 := Lib.hid (K14.out.step b)
  clear b K14
  go_wp2_with fail
  refine (place_any _ N2.out K15.out.2.2 S4.out).mono ?_; rintro e w16 ⟨rfl, b⟩
  have K16 := Lib.hid (K15.out.step b)
  clear b K15
  have y7 : w16.cell? ⟨w4.heap.size, 7, none⟩ = some (.int .i64 (ng : Int)) := by rw [← A7.out]; exact heap_cell K16.out.hp rfl
  go_wp2_with fail
  refine (place_any _ N2.out K16.out.2.2 S5.out).mono ?_; rintro e w17 ⟨rfl, b⟩
  have K17 := Lib.hid (K16.out.step b)
  clear y7 b K16
  go_wp2_with fail
  refine (place_any _ N2.out K17.out.2.2 S6.out).mono ?_; rintro e w18 ⟨rfl, b⟩
  have K18 := Lib.hid (K17.out.step b)
  clear b K17
  go_wp2_with fail
  refine (place_any _ N2.out K18.out.2.2 S7.out).mono ?_; rintro e w19 ⟨rfl, b⟩
  have K19 := Lib.hid (K18.out.step b)
  clear b K18
  go_wp2_with fail
  refine (awake_any _).mono ?_; rintro e w20 ⟨rfl, b⟩
  have K20 := Lib.hid (K19.out.step b)
  clear b K19
  go_wp2
  go_ret
  exact ⟨rfl, K20.out.bel⟩
end Go.Proofs.Ytpaakakkcbahcaa.W

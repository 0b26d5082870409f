/-
  Contracts of Of, of the reference's Of; the example. No conditions but bounds of the numbers.
-/
import Derived.Test.YtpaakakkcbahcaaPnPlan3
namespace Go.Proofs.Ytpaakakkcbahcaa.W
open Go.RowKit Num
set_option linter.unusedVariables false

theorem lt1 (w : World) (A : Obj) : w.heap.size < (w.alloc A).heap.size := by show _ < (w.heap.push A).size; simp
theorem lt2 (w : World) (A B : Obj) : w.heap.size < ((w.alloc A).alloc B).heap.size := by show _ < ((w.heap.push A).push B).size; simp; omega
theorem lt2' (w : World) (A B : Obj) : w.heap.size + 1 < ((w.alloc A).alloc B).heap.size := by show _ < ((w.heap.push A).push B).size; simp
theorem of_yes (c : Cf) (p : Pl) (hp : p = planOf c.c0 c.c1 c.c2) (h : May c) (w : World) : Calls Try.prog 7 #[(.agg #[.int .i64 c.c0, .int .i64 c.c1, .int .i64 c.c2, .int .i64 c.c3, .int .i64 c.c4, c.c5, c.c6, c.c7, c.c8, .int .i64 c.c9])] w fun e w' => e = .returned (.tuple #[(.agg #[.int .i64 p.a0, .int .i64 p.a1, .int .i64 p.a2, .int .i64 p.a3, .int .i64 p.a4, .int .i64 p.a5, .int .i64 p.a6, .int .i64 p.a7, .int .i64 p.a8, .int .i64 p.a9, .int .i64 p.a10, .int .i64 p.a11, .int .i64 p.a12]), .int .i64 0]) ∧ Below w.heap.size w w' := by
  have H := Lib.hid h
  have HP := Lib.hid hp
  clear h hp
  go_enter Try.func7, Try.ntmps7
  go_wp2_with fail
  refine (check_yes c _ H.out).mono ?_; rintro e w1 ⟨rfl, b1⟩
  have X1 := Lib.hid ((b1.block _ (lt2 _ _ _)).trans (heap_alloc2_old _ _ _))
  have Y1 := Lib.hid ((b1.block _ (lt2' _ _ _)).trans (heap_alloc2_new _ _ _))
  have B1 := Lib.hid (bthen (bthen (balloc _ _) (balloc _ _)) b1)
  clear b1
  have x0 := heap_cell X1.out (j := 0) rfl
  have x1 := heap_cell X1.out (j := 1) rfl
  have x2 := heap_cell X1.out (j := 2) rfl
  go_wp2_with fail
  refine (lay_any _ _ _ p HP.out _ H.out.1.1 H.out.1.2 H.out.2.1.1 H.out.2.1.2 H.out.2.2.1.1 H.out.2.2.1.2).mono ?_; rintro e w2 ⟨rfl, b2⟩
  have Y2 := Lib.hid ((b2.block _ (Array.getElem?_eq_some_iff.1 Y1.out).1).trans Y1.out)
  have B2 := Lib.hid (bthen B1.out b2)
  clear b2 x0 x1 x2 X1 Y1 B1
  go_wp2_with ((with_reducible apply L_storeRow (N := 13) info_map); exact rfl; exact rfl; exact Y2.out; exact rfl; exact rfl; (simp [Value.oneCell']); intro w3 h3 g3; have H3 := Lib.hid h3; have G3 := Lib.hid g3; clear h3 g3)
  refine bodyPost_ret (results_cell_tmp_row rfl _ _ _ _ rfl (run_loadVar_row _ _ _ _ _ _ _ H3.out Try.underlying32 rfl info_map)) rfl ?_
  exact ⟨rfl, B2.out.grown G3.out B2.out.size (fun k e => by injection e with e; omega)⟩
theorem of_no (c : Cf) (h : ¬ May c) (w : World) : Calls Try.prog 7 #[(.agg #[.int .i64 c.c0, .int .i64 c.c1, .int .i64 c.c2, .int .i64 c.c3, .int .i64 c.c4, c.c5, c.c6, c.c7, c.c8, .int .i64 c.c9])] w fun e w' => e = .returned (.tuple #[(.agg #[.int .i64 noPlan.a0, .int .i64 noPlan.a1, .int .i64 noPlan.a2, .int .i64 noPlan.a3, .int .i64 noPlan.a4, .int .i64 noPlan.a5, .int .i64 noPlan.a6, .int .i64 noPlan.a7, .int .i64 noPlan.a8, .int .i64 noPlan.a9, .int .i64 noPlan.a10, .int .i64 noPlan.a11, .int .i64 noPlan.a12]), .int .i64 100]) ∧ Below w.heap.size w w' := by
  have H := Lib.hid h
  clear h
  go_enter Try.func7, Try.ntmps7
  go_wp2_with fail
  refine (check_no c _ H.out).mono ?_; rintro e w1 ⟨rfl, b1⟩
  have Y1 := Lib.hid ((b1.block _ (lt2' _ _ _)).trans (heap_alloc2_new _ _ _))
  have B1 := Lib.hid (bthen (bthen (balloc _ _) (balloc _ _)) b1)
  clear b1
  go_wp2_with ((with_reducible apply L_storeRow (N := 13) info_map); exact rfl; exact rfl; exact Y1.out; exact rfl; exact rfl; (simp [Value.oneCell']); intro w3 h3 g3; have H3 := Lib.hid h3; have G3 := Lib.hid g3; clear h3 g3)
  refine bodyPost_ret (results_cell_tmp_row rfl _ _ _ _ rfl (run_loadVar_row _ _ _ _ _ _ _ H3.out Try.underlying32 rfl info_map)) rfl ?_
  exact ⟨rfl, B1.out.grown G3.out B1.out.size (fun k e => by injection e with e; omega)⟩

set_option maxHeartbeats 2000000 in
theorem rof_any (c : Cf) (p : Pl) (hp : p = planOf c.c0 c.c1 c.c2) (w : World) (hb : 1 ≤ c.c0) (hb2 : c.c0 ≤ 512) (hs : 1 ≤ c.c1) (hs2 : c.c1 ≤ 192) (hl : 1 ≤ c.c2) (hl2 : c.c2 ≤ 256) :
    Calls Try.prog 12 #[(.agg #[.int .i64 c.c0, .int .i64 c.c1, .int .i64 c.c2, .int .i64 c.c3, .int .i64 c.c4, c.c5, c.c6, c.c7, c.c8, .int .i64 c.c9])] w fun e w' => e = .returned (.agg #[.int .i64 p.a0, .int .i64 p.a1, .int .i64 p.a2, .int .i64 p.a3, .int .i64 p.a4, .int .i64 p.a5, .int .i64 p.a6, .int .i64 p.a7, .int .i64 p.a8, .int .i64 p.a9, .int .i64 p.a10, .int .i64 p.a11, .int .i64 p.a12]) ∧ Below w.heap.size w w' := by
  have HP := Lib.hid hp
  clear hp
  obtain ⟨e1, e2⟩ := ups_bd (n := c.c0) (d := 8) hb (by decide)
  obtain ⟨g1, g2⟩ := ups_bd (n := ups c.c0 8) (d := 6) e1 (by decide)
  obtain ⟨v1, v2⟩ := ups_bd (n := c.c1) (d := 3) hs (by decide)
  go_enter Try.func12, Try.ntmps12
  go_wp2_with fail
  refine (rup_any _ _ _ hb (by omega) (by decide) (by decide)).mono ?_; rintro e w' ⟨rfl, rfl⟩
  go_wp2_with fail
  refine (rup_any _ _ _ e1 (by omega) (by decide) (by decide)).mono ?_; rintro e w' ⟨rfl, rfl⟩
  go_wp2_with fail
  refine (rup_any _ _ _ hs (by omega) (by decide) (by decide)).mono ?_; rintro e w' ⟨rfl, rfl⟩
  go_wp2
  refine bodyPost_ret (results_cell_row rfl _ _ _ _ _ _ _ rfl ((heap_alloc_old _ _ (lt2' _ _ _)).trans (heap_alloc2_new _ _ _)) Try.underlying28 rfl info_plan) rfl ?_
  have hp := HP.out
  subst hp
  exact ⟨ret_mv rfl rfl rfl rfl rfl rfl rfl rfl rfl rfl rfl rfl rfl, bthen (bthen (balloc _ _) (balloc _ _)) (balloc _ _)⟩

theorem may_cfOf {b s l : Int} (hb : 1 ≤ b) (hb2 : b ≤ 512) (hs : 1 ≤ s) (hs2 : s ≤ 192) (hl : 1 ≤ l) (hl2 : l ≤ 256) : May (cfOf b s l) :=
  by
  refine ⟨⟨hb, hb2⟩, ⟨hs, hs2⟩, ⟨hl, hl2⟩, ?_, ?_, ?_⟩ <;> simp [cfOf]
set_option maxHeartbeats 2000000 in
theorem awake_any (w : World) : Calls Try.prog 11 #[] w fun e w' => e = .returned (.bool true) ∧ Below w.heap.size w w' := by
  obtain ⟨c, hc⟩ : ∃ c, c = cfOf 10 4 5 := ⟨_, rfl⟩
  obtain ⟨p, hp⟩ : ∃ p, p = planOf 10 4 5 := ⟨_, rfl⟩
  have HC := Lib.hid hc
  have HM := Lib.hid (show May c by rw [hc]; exact may_cfOf (by decide) (by decide) (by decide) (by decide) (by decide) (by decide))
  have HP := Lib.hid (show p = planOf c.c0 c.c1 c.c2 by rw [hc, hp]; rfl)
  have k0 := Lib.hid (show p.a0 = 10 by rw [hp]; rfl)
  have k1 := Lib.hid (show p.a1 = 2 by rw [hp]; rfl)
  have k2 := Lib.hid (show p.a2 = 1 by rw [hp]; rfl)
  have k4 := Lib.hid (show p.a4 = 12 by rw [hp]; rfl)
  have k5 := Lib.hid (show p.a5 = 2 by rw [hp]; rfl)
  have k12 := Lib.hid (show p.a12 = 19 by rw [hp]; rfl)
  clear hc hp
  go_enter Try.func11, Try.ntmps11
  go_wp2_with fail
  refine (conf_any 9 3 4 c HC.out _ (by decide) (by decide) (by decide) (by decide) (by decide) (by decide)).mono ?_; rintro e w1 ⟨rfl, b1⟩
  have B1 := Lib.hid b1
  clear b1
  go_wp2_with fail
  refine (of_yes c p HP.out HM.out _).mono ?_; rintro e w2 ⟨rfl, b2⟩
  have B2 := Lib.hid (bthen B1.out b2)
  clear b2 B1
  go_wp2_with fail
  refine (plan_any p _).mono ?_; rintro e w3 ⟨rfl, b3⟩
  have X3 := Lib.hid ((b3.block _ (lt1 _ _)).trans (heap_alloc_new _ _))
  have B3 := Lib.hid (bthen (bthen B2.out (balloc _ _)) b3)
  clear b3 B2
  go_wp2_with ((with_reducible apply L_loadMap); exact rfl; exact (heap_alloc_old _ _ (Array.getElem?_eq_some_iff.1 X3.out).1).trans X3.out; exact rfl)
  refine (extent_yes p 9 _ (by decide) (by rw [k0.out]; decide) (by decide)).mono ?_; rintro e w4 ⟨rfl, b4⟩
  have Y4 := Lib.hid ((b4.block _ (lt1 _ _)).trans (heap_alloc_new _ _))
  have B4 := Lib.hid (bthen (bthen B3.out (balloc _ _)) b4)
  clear b4 B3 X3
  have y1 := heap_cell Y4.out (j := 1) rfl
  have y2 := heap_cell Y4.out (j := 2) rfl
  have y4 := heap_cell Y4.out (j := 4) rfl
  have y5 := heap_cell Y4.out (j := 5) rfl
  have y12 := heap_cell Y4.out (j := 12) rfl
  rw [k1.out] at y1
  rw [k2.out] at y2
  rw [k4.out] at y4
  rw [k5.out] at y5
  rw [k12.out] at y12
  go_wp2
  go_ret
  exact ⟨rfl, B4.out⟩
end Go.Proofs.Ytpaakakkcbahcaa.W

/-
  The document's records read. No conditions.
-/
import Derived.Test.YtikbbikcacoobaaGreatDoorIvOpen
import Derived.Test.YtikbbikcacoobaaGreatDoorKRef
namespace Go.Proofs.YtikbbikcacoobaaGreatDoor.Pd.Iv
open Go.RowKit Oc Dm W Dw Sr
set_option linter.unusedVariables false
set_option maxRecDepth 100000
attribute [local go_sem ↓] Go.wp_at_zero Go.wp_at_succ

section
variable {w w' : World} {G : Nat → Prop} {E q n N la lg f ep : Nat} {m : Vs} {p : Pn.Pl}
set_option maxHeartbeats 8000000 in
theorem rread_any (h : RD w G E q n N m) (hp : Pln p la lg n) (hz : ∀ i, i < n → (m.S i).stands.length = 64) (hf : f ≤ most) (hep : ep ≤ most) (R : List Rc × Vs) (hR : rdl la lg ep lg f 0 m = R) :
    Calls Tryz.prog 91 #[.pointer (some ⟨E, 0, none⟩), (.agg #[.int .i64 p.a0, .int .i64 p.a1, .int .i64 p.a2, .int .i64 p.a3, .int .i64 p.a4, .int .i64 p.a5, .int .i64 p.a6, .int .i64 p.a7, .int .i64 p.a8, .int .i64 p.a9, .int .i64 p.a10, .int .i64 p.a11, .int .i64 p.a12]), .int .u64 (f : Int), .int .u64 (ep : Int)] w fun e w' => ∃ v, e = .returned v ∧ OwnS w' 31 5 w.heap.size v (R.1.map rcs) ∧ RD w' G E q n N R.2 ∧ Chg G w w' := by
  have H := Lib.hid h
  have HP := Lib.hid hp
  have HZ := Lib.hid hz
  have HR : Hid (rdA la lg ep lg f 0 m [] = R) := hR
  have HB : Hid (∀ k, G k → k < w.heap.size) := fun k x => h.bound k (.inl x)
  have HQ : Hid (q < w.heap.size) := h.qw.lt
  have hlg : lg ≤ 256 := hp.hl2
  have hlg1 : 1 ≤ lg := hp.hl
  have hla : la ≤ 4096 := by have := hp.hn; have := hp.hn2; omega
  have hf2 : f ≤ 4611686014132420608 := hf
  have hep2 : ep ≤ 4611686014132420608 := hep
  clear h hp hz hR hf hep
  go_enter Tryz.func91, Tryz.ntmps91
  go_wp2
  have B1 := Lib.hid (balloc w (.cells #[.int .i64 p.a0, .int .i64 p.a1, .int .i64 p.a2, .int .i64 p.a3, .int .i64 p.a4, .int .i64 p.a5, .int .i64 p.a6, .int .i64 p.a7, .int .i64 p.a8, .int .i64 p.a9, .int .i64 p.a10, .int .i64 p.a11, .int .i64 p.a12] 39))
  have Y1 := Lib.hid (heap_alloc_new w (.cells #[.int .i64 p.a0, .int .i64 p.a1, .int .i64 p.a2, .int .i64 p.a3, .int .i64 p.a4, .int .i64 p.a5, .int .i64 p.a6, .int .i64 p.a7, .int .i64 p.a8, .int .i64 p.a9, .int .i64 p.a10, .int .i64 p.a11, .int .i64 p.a12] 39))
  generalize w.alloc (.cells #[.int .i64 p.a0, .int .i64 p.a1, .int .i64 p.a2, .int .i64 p.a3, .int .i64 p.a4, .int .i64 p.a5, .int .i64 p.a6, .int .i64 p.a7, .int .i64 p.a8, .int .i64 p.a9, .int .i64 p.a10, .int .i64 p.a11, .int .i64 p.a12] 39) = w1 at B1 Y1 ⊢
  have P1 := Lib.hid (H.out.below B1.out)
  have YL : Hid (w.heap.size < w1.heap.size) := lt_of_heap Y1.out
  have CY : Hid (∀ y : World, y.heap[w.heap.size]? = some (.cells #[.int .i64 p.a0, .int .i64 p.a1, .int .i64 p.a2, .int .i64 p.a3, .int .i64 p.a4, .int .i64 p.a5, .int .i64 p.a6, .int .i64 p.a7, .int .i64 p.a8, .int .i64 p.a9, .int .i64 p.a10, .int .i64 p.a11, .int .i64 p.a12] 39 (0, 0)) → y.cell? ⟨w.heap.size, 6, none⟩ = some (.int .i64 (la : Int)) ∧ y.cell? ⟨w.heap.size, 7, none⟩ = some (.int .i64 (lg : Int))) := fun y hy => by
    constructor
    · rw [cell_of_row _ _ 6 _ _ _ hy, ← HP.out.h6]; rfl
    · rw [cell_of_row _ _ 7 _ _ _ hy, ← HP.out.h7]; rfl
  go_loopw [9, 10, 11] (fun v s8 s14 wr => ∃ j h : Nat, j ≤ lg ∧ s14 = .int .i64 (j : Int) ∧ s8 = .int .u64 (h : Int) ∧ ∃ mj L, Hid (RD wr G E q n N mj) ∧ Hid (Chg G w1 wr) ∧ Hid (OwnS wr 31 5 w1.heap.size v (L.map rcs)) ∧ Hid (L.length = j) ∧ Hid (mj.S = m.S) ∧ Hid (rdA la lg ep (lg - j) (f + j) h mj L = R)) (fun _ _ s14 _ => lg - (intOf s14).toNat)
  case atStart => exact ⟨0, 0, by omega, rfl, rfl, m, [], P1, Chg.refl _ _, OwnS.nil _ _ _ _, rfl, rfl, HR⟩
  case round =>
    obtain ⟨j, h, hj, rfl, rfl, mj, L, PJ, CJ, OJ, LJ, SJ, RJ⟩ := hrel
    have YJ := Lib.hid ((CJ.out.block _ YL.out (fun x => by have := HB.out _ x; omega)).trans Y1.out)
    obtain ⟨y6, y7⟩ := CY.out _ YJ.out
    by_cases hlt : j < lg
    · have hlt2 : (j : Int) < (lg : Int) := by omega
      obtain ⟨v1, xs, m', hr⟩ : ∃ v xs m', rd1 mj (la + (f + j) % lg) = (v, xs, m') := ⟨_, _, _, rfl⟩
      have HV := Lib.hid hr
      have RJ2 := Lib.hid RJ.out
      rw [show lg - j = (lg - (j + 1)) + 1 by omega] at RJ2
      obtain ⟨s1, s2⟩ := spot_lt HP.out (f + j)
      have SM : Hid (m'.S = m.S) := by
        have := rd1_S mj (la + (f + j) % lg)
        rw [hr] at this
        exact this.trans SJ.out
      have L1 : Hid (v1 = 0 → xs.length = 64) := fun e => by
        have := rd1_len (m := mj) (i := la + (f + j) % lg) (by rw [SJ.out]; exact HZ.out _ s1) (by rw [hr]; exact e)
        rwa [hr] at this
      obtain ⟨t, ht⟩ : ∃ t, (f + j) % lg = t := ⟨_, rfl⟩
      have htl : t < lg := by rw [← ht]; exact Nat.mod_lt _ (by omega)
      have hrem : ((f : Int) + (j : Int)) % (lg : Int) = (t : Int) := by rw [← ht]; simp
      have KR : Hid (∀ y, RD y G E q n N mj → Calls Tryz.prog 110 #[.pointer (some ⟨E, 0, none⟩), .int .i64 ((la : Int) + (t : Int))] y fun e y' => ∃ B, e = .returned (.tuple #[.string B, .int .i64 v1]) ∧ tx xs = .string B ∧ RD y' G E q n N m' ∧ Chg G y y') := fun y hy => by
        have := hy.read (la + (f + j) % lg) s1
        rw [hr] at this
        rwa [ht, show ((la + t : Nat) : Int) = (la : Int) + (t : Int) by omega] at this
      have hl0 : ¬ (lg : Int) = 0 := by omega
      have hl02 : ((lg : Int) == 0) = false := by simp; omega
      have hw7 : IntKind.u64.wrap (lg : Int) = (lg : Int) := IntWalk.u64_in _ ⟨by omega, by omega⟩
      have hwt : IntKind.u64.wrap (t : Int) = (t : Int) := IntWalk.u64_in _ ⟨by omega, by omega⟩
      have hwt2 : IntKind.i64.wrap (t : Int) = (t : Int) := IntWalk.i64_in _ ⟨by omega, by omega⟩
      have hlt9 : IntKind.i64.wrap ((la : Int) + (t : Int)) = (la : Int) + (t : Int) := IntWalk.i64_in _ ⟨by omega, by omega⟩
      clear hr s1 s2 ht
      go_wp2_with fail
      go_region_held (fun x => x.cell? ⟨w.heap.size, 6, none⟩ = some (.int .i64 (la : Int)) ∧ x.cell? ⟨w.heap.size, 7, none⟩ = some (.int .i64 (lg : Int))) (first | go_keep | exact CY.out _ Y3.out)
        (first
          | (go_at_call 110; (with_reducible refine (KR.out _ PJ.out.drew).mono ?_); rintro e w3 ⟨B, rfl, hB, p3, c3⟩; have HBB := Lib.hid hB; have P3 := Lib.hid p3; have C3 := Lib.hid (CJ.out.trans (show Chg G wr w3 from ⟨c3.os, c3.tape, c3.output, c3.size, c3.block⟩) (fun _ _ x => x)); have Y3 := Lib.hid ((C3.out.block _ YL.out (fun x => by have := HB.out _ x; omega)).trans Y1.out); have O3 := Lib.hid (OJ.out.keep (w' := w3) (fun g hg => c3.block g (OJ.out.ge g hg).2 (fun x => by have := HB.out g x; have := (OJ.out.ge g hg).1; have := B1.out.size; omega))); clear hB p3 c3))
      all_goals
        clear y6 y7 hw7 hwt hwt2 hlt9 hl0 hl02 hrem
        have HL3 : Hid (w1.heap.size ≤ w3.heap.size) := C3.out.size
        have END : Hid (∀ w5, Below w3.heap.size w3 w5 → R = (L, m') → OwnS w5 31 5 w.heap.size u9 (R.1.map rcs) ∧ RD w5 G E q n N R.2 ∧ Chg G w w5) := fun w5 b5 hR => by
          subst hR
          exact ⟨(O3.out.below b5).more B1.out.size, P3.out.below b5, (Chg.of_below (F := G) B1.out).trans (C3.out.trans (Chg.of_below (F := G) b5) (fun _ _ x => x)) (fun _ _ x => x)⟩
        by_cases hv : v1 = 0
        · subst hv
          have M1 := L1.out rfl
          obtain ⟨r, E', hg⟩ : ∃ r E', gd xs = (r, E') := ⟨_, _, rfl⟩
          have GW := Lib.hid (gd_way xs)
          rw [hg] at GW
          have HV2 := Lib.hid (gt_got HV.out hg)
          obtain ⟨cB, w4, hrun, hcB, oB, bB⟩ := bytes_of w3 xs B HBB.out M1
          have OB := Lib.hid oB
          have B4 := Lib.hid bB
          clear hg oB bB
          go_wp2_with fail
          refine (rrget_any _ 64 cB xs r E' w4 (by omega) hcB OB.out GW.out).mono ?_; rintro e w5 ⟨rfl, b5⟩
          have B5 := Lib.hid (bthen B4.out b5)
          clear b5 hrun
          by_cases hE : E' = 0
          · subst hE
            by_cases f1 : r.q = f + j
            · have t1 : ((r.q : Int) != (f : Int) + (j : Int)) = false := by simp; omega
              by_cases f2 : h ≤ r.h
              · have t2 : ¬ (r.h : Int) < (h : Int) := by omega
                by_cases hh : r.h ≤ ep
                · have t3 : ¬ (ep : Int) < (r.h : Int) := by omega
                  have RK : Hid (rdA la lg ep (lg - (j + 1)) (f + (j + 1)) r.h m' (L ++ [r]) = R) := by
                    have e := RJ2.out
                    rw [rdA_yes HV2.out f1 f2 hh] at e
                    exact e
                  have O5 := Lib.hid (O3.out.below B5.out)
                  have P5 := Lib.hid (P3.out.below B5.out)
                  have C5 := Lib.hid (C3.out.trans (Chg.of_below (F := G) B5.out) (fun _ _ x => x))
                  have S5 := B5.out.size
                  have L5 : Hid (w1.heap.size ≤ w5.heap.size) := by have := HL3.out; show _ ≤ _; omega
                  have N5 : Hid (∀ g, Value.ownBlock u9 = some g → w5.heap.size ≠ g) := fun g hg e => by have := (O5.out.ge g hg).2; omega
                  clear f1 f2 END HV HV2
                  go_wp2_with (first
                    | ((with_reducible apply W.L_storeRow (N := 5) W.info_rc); exact rfl; exact rfl; exact heap_alloc_new _ _; exact rfl; exact rfl; (simp [Value.oneCell']); intro w6 h6 g6; have H6 := Lib.hid h6; have G6 := Lib.hid ((World.grownBy_alloc w5 _ (some w5.heap.size)).trans g6); obtain ⟨x0, x1, x2, x3, x4⟩ := rc_cells h6; clear h6 g6 x2 x3 x4)
                    | ((with_reducible apply W.L_loadRc); exact rfl; exact H6.out; exact rfl)
                    | (at_builtin; refine wpList_append_S2 rfl _ _ _ rfl rc_elk rfl (O5.out.keep (w' := w6) (fun g hg => G6.out.block g (O5.out.ge g hg).2 (fun e => by injection e with e; have := (O5.out.ge g hg).2; omega))) (Nat.le_trans L5.out G6.out.size) _ rfl (c := rcs r) rfl rfl (rcs_one r) (by rw [List.length_map, LJ.out]; omega) ?_; intro v7 w7 o7 g7; have O7 := Lib.hid o7; have G7 := Lib.hid g7; have x1 : w7.cell? ⟨w5.heap.size, 1, none⟩ = some (.int .u64 (r.h : Int)) := cell_of_row _ _ 1 _ _ _ ((g7.block _ (lt_of_heap H6.out) (fun e => N5.out _ e.symm rfl)).trans H6.out); clear o7 g7))
                  have hb6 : ∀ b, some w5.heap.size = some b → w1.heap.size ≤ b := fun b e => by injection e with e; have := L5.out; omega
                  have hb7 : ∀ b, Value.ownBlock u9 = some b → w1.heap.size ≤ b := fun b e => (O5.out.ge b e).1
                  have C7 := Lib.hid (chg_row (chg_row C5.out G6.out hb6) G7.out hb7)
                  have P7 := Lib.hid (rd_row HB.out HQ.out (rd_row HB.out HQ.out P5.out G6.out (fun b e => Nat.le_trans B1.out.size (hb6 b e))) G7.out (fun b e => Nat.le_trans B1.out.size (hb7 b e)))
                  clear hb6 hb7
                  go_roundw
                  case rel => exact ⟨j + 1, r.h, by omega, by go_num, rfl, m', L ++ [r], P7, C7, by show OwnS _ _ _ _ _ _; rw [List.map_append]; exact O7.out, by show _ = _; rw [List.length_append, LJ.out]; rfl, SM, RK⟩
                  case measure => simp [intOf]; omega
                · have t3 : (ep : Int) < (r.h : Int) := by omega
                  have RK : Hid (R = (L, m')) := by
                    have e := RJ2.out
                    rw [rdA_no HV2.out (fun x => hh x.2.2.2)] at e
                    exact e.symm
                  clear HV HV2
                  try clear f1
                  go_wp2_with (((with_reducible apply W.L_storeRow (N := 5) W.info_rc); exact rfl; exact rfl; exact heap_alloc_new _ _; exact rfl; exact rfl; (simp [Value.oneCell']); intro w6 h6 g6; have H6 := Lib.hid h6; have G6 := Lib.hid ((World.grownBy_alloc w5 _ (some w5.heap.size)).trans g6); obtain ⟨x0, x1, x2, x3, x4⟩ := rc_cells h6; clear h6 g6 x2 x3 x4))
                  go_ret
                  exact ⟨_, rfl, END.out _ (below_up B5.out G6.out B5.out.size) RK.out⟩
              · have t2 : (r.h : Int) < (h : Int) := by omega
                have RK : Hid (R = (L, m')) := by
                  have e := RJ2.out
                  rw [rdA_no HV2.out (fun x => f2 x.2.2.1)] at e
                  exact e.symm
                clear HV HV2
                try clear f1
                go_wp2_with (((with_reducible apply W.L_storeRow (N := 5) W.info_rc); exact rfl; exact rfl; exact heap_alloc_new _ _; exact rfl; exact rfl; (simp [Value.oneCell']); intro w6 h6 g6; have H6 := Lib.hid h6; have G6 := Lib.hid ((World.grownBy_alloc w5 _ (some w5.heap.size)).trans g6); obtain ⟨x0, x1, x2, x3, x4⟩ := rc_cells h6; clear h6 g6 x2 x3 x4))
                go_ret
                exact ⟨_, rfl, END.out _ (below_up B5.out G6.out B5.out.size) RK.out⟩
            · have t1 : ((r.q : Int) != (f : Int) + (j : Int)) = true := by simp; omega
              have RK : Hid (R = (L, m')) := by
                have e := RJ2.out
                rw [rdA_no HV2.out (fun x => f1 x.2.1)] at e
                exact e.symm
              clear HV HV2
              try clear f1
              go_wp2_with (((with_reducible apply W.L_storeRow (N := 5) W.info_rc); exact rfl; exact rfl; exact heap_alloc_new _ _; exact rfl; exact rfl; (simp [Value.oneCell']); intro w6 h6 g6; have H6 := Lib.hid h6; have G6 := Lib.hid ((World.grownBy_alloc w5 _ (some w5.heap.size)).trans g6); obtain ⟨x0, x1, x2, x3, x4⟩ := rc_cells h6; clear h6 g6 x2 x3 x4))
              go_ret
              exact ⟨_, rfl, END.out _ (below_up B5.out G6.out B5.out.size) RK.out⟩
          · have tE : (E' != 0) = true := by simp; exact hE
            have RK : Hid (R = (L, m')) := by
              have e := RJ2.out
              rw [rdA_no HV2.out (fun x => hE (of_decide_eq_true x.1))] at e
              exact e.symm
            clear HV HV2
            try clear f1
            go_wp2_with (((with_reducible apply W.L_storeRow (N := 5) W.info_rc); exact rfl; exact rfl; exact heap_alloc_new _ _; exact rfl; exact rfl; (simp [Value.oneCell']); intro w6 h6 g6; have H6 := Lib.hid h6; have G6 := Lib.hid ((World.grownBy_alloc w5 _ (some w5.heap.size)).trans g6); obtain ⟨x0, x1, x2, x3, x4⟩ := rc_cells h6; clear h6 g6 x2 x3 x4))
            go_ret
            exact ⟨_, rfl, END.out _ (below_up B5.out G6.out B5.out.size) RK.out⟩
        · have RK : Hid (R = (L, m')) := by
            have e := RJ2.out
            rw [rdA_no (gt_err HV.out hv) (fun x => by cases x.1)] at e
            exact e.symm
          go_wp2
          go_ret
          exact ⟨_, rfl, END.out _ (Below.refl _ _) RK.out⟩
    · have hlt2 : ¬ (j : Int) < (lg : Int) := by omega
      have RK : Hid (R = (L, mj)) := by
        have e := RJ.out
        rw [show lg - j = 0 by omega, rdA_zero] at e
        exact e.symm
      go_wp2
      go_ret
      rw [RK.out]
      exact ⟨_, rfl, OJ.out.more B1.out.size, PJ.out, (Chg.of_below (F := G) B1.out).trans CJ.out (fun _ _ x => x)⟩
end
end Go.Proofs.YtikbbikcacoobaaGreatDoor.Pd.Iv

/-
  The records read; Open. No conditions.
-/
import Derived.Test.YtikbbikcacoobaaGreatDoorIvPut
namespace Go.Proofs.YtikbbikcacoobaaGreatDoor.Pd.Iv
open Go.RowKit Oc Dm W Dw Sr
set_option linter.unusedVariables false
set_option maxRecDepth 100000

/-- does a record follow? -/
theorem follows_bool (r : Rc) (q h : Nat) : ∃ b : Bool, b = (decide (r.q = q) && decide (h ≤ r.h)) ∧ (b = true ↔ r.q = q ∧ h ≤ r.h) := ⟨_, rfl, by simp⟩
section
variable {w w' : World} {F : Nat → Prop} {D q n N la lg f ep : Nat} {m : Vs} {p : Pn.Pl}
set_option maxHeartbeats 4000000 in
theorem read_any (h : PD w F D q n N m) (he : Env w) (hE : ∀ k, F k → 0 < k) (hp : Pln p la lg n) (hf : f ≤ most) (hep : ep ≤ most) (R : List Rc × Vs) (hR : rdl la lg ep lg f 0 m = R) :
    Calls Tryz.prog 57 #[(.agg #[.pointer (some ⟨D, 0, none⟩), .int .i64 p.a0, .int .i64 p.a1, .int .i64 p.a2, .int .i64 p.a3, .int .i64 p.a4, .int .i64 p.a5, .int .i64 p.a6, .int .i64 p.a7, .int .i64 p.a8, .int .i64 p.a9, .int .i64 p.a10, .int .i64 p.a11, .int .i64 p.a12]), .int .u64 (f : Int), .int .u64 (ep : Int)] w fun e w' => ∃ v, e = .returned v ∧ OwnS w' 31 5 w.heap.size v (R.1.map rcs) ∧ PD w' F D q n N R.2 ∧ Chg F w w' := by
  have H := Lib.hid h
  have HE := Lib.hid he
  have HG := Lib.hid hE
  have HP := Lib.hid hp
  have HR : Hid (rdA la lg ep lg f 0 m [] = R) := hR
  have HB : Hid (∀ k, F k → k < w.heap.size) := fun k x => h.bound k (.inl x)
  have HQ : Hid (q < w.heap.size) := h.pw.lt
  have H7 : Hid (p.a7 = (lg : Int)) := hp.h7
  have hlg : lg ≤ 256 := hp.hl2
  have hf2 : f ≤ 4611686014132420608 := hf
  have hep2 : ep ≤ 4611686014132420608 := hep
  clear h he hE hp hR hf hep
  go_enter Tryz.func57, Tryz.ntmps57
  go_wp2_with fail
  refine (size_any p _ _).mono ?_; rintro e w1 ⟨rfl, b1⟩
  rw [H7.out]
  have B1 := Lib.hid (bthen (balloc w (.cells #[.pointer (some ⟨D, 0, none⟩), .int .i64 p.a0, .int .i64 p.a1, .int .i64 p.a2, .int .i64 p.a3, .int .i64 p.a4, .int .i64 p.a5, .int .i64 p.a6, .int .i64 p.a7, .int .i64 p.a8, .int .i64 p.a9, .int .i64 p.a10, .int .i64 p.a11, .int .i64 p.a12] 99)) b1)
  have Y1 := Lib.hid (kept_below (heap_alloc_new w (.cells #[.pointer (some ⟨D, 0, none⟩), .int .i64 p.a0, .int .i64 p.a1, .int .i64 p.a2, .int .i64 p.a3, .int .i64 p.a4, .int .i64 p.a5, .int .i64 p.a6, .int .i64 p.a7, .int .i64 p.a8, .int .i64 p.a9, .int .i64 p.a10, .int .i64 p.a11, .int .i64 p.a12] 99)) b1)
  have P1 := Lib.hid (H.out.below B1.out)
  clear b1
  go_wp2
  have YL : Hid (w.heap.size < w1.heap.size) := lt_of_heap Y1.out
  have E1 := Lib.hid (HE.out.below B1.out)
  have F1 : Hid (∀ k, F k → k < w1.heap.size) := fun k x => Nat.lt_of_lt_of_le (HB.out k x) B1.out.size
  go_loopw [7, 8, 14] (fun v s8 s14 wr => ∃ j h : Nat, j ≤ lg ∧ s14 = .int .i64 (j : Int) ∧ s8 = .int .u64 (h : Int) ∧ ∃ mj L, Hid (PD wr F D q n N mj) ∧ Hid (Chg F w1 wr) ∧ Hid (OwnS wr 31 5 w1.heap.size v (L.map rcs)) ∧ Hid (L.length = j) ∧ Hid (rdA la lg ep (lg - j) (f + j) h mj L = R)) (fun _ _ s14 _ => lg - (intOf s14).toNat)
  case atStart => exact ⟨0, 0, by omega, rfl, rfl, m, [], P1, Chg.refl _ _, OwnS.nil _ _ _ _, rfl, HR⟩
  case round =>
    obtain ⟨j, h, hj, rfl, rfl, mj, L, PJ, CJ, OJ, LJ, RJ⟩ := hrel
    have YJ := Lib.hid ((CJ.out.block _ YL.out (fun x => by have := HB.out _ x; omega)).trans Y1.out)
    have EJ := Lib.hid (env_chg E1.out CJ.out HG.out)
    by_cases hlt : j < lg
    · have hlt2 : (j : Int) < (lg : Int) := by omega
      obtain ⟨r, ok, m', hr⟩ : ∃ r ok m', gt la lg mj (f + j) = (r, ok, m') := ⟨_, _, _, rfl⟩
      have HV := Lib.hid hr
      have RJ2 := Lib.hid RJ.out
      rw [show lg - j = (lg - (j + 1)) + 1 by omega] at RJ2
      have KG : Hid (∀ y, Below wr.heap.size wr y → Calls Tryz.prog 87 #[(.agg #[.pointer (some ⟨D, 0, none⟩), .int .i64 p.a0, .int .i64 p.a1, .int .i64 p.a2, .int .i64 p.a3, .int .i64 p.a4, .int .i64 p.a5, .int .i64 p.a6, .int .i64 p.a7, .int .i64 p.a8, .int .i64 p.a9, .int .i64 p.a10, .int .i64 p.a11, .int .i64 p.a12]), .int .u64 ((f : Int) + (j : Int))] y fun e y' => e = .returned (.tuple #[(.agg #[.int .u64 (r.q : Int), .int .u64 (r.h : Int), .int .i64 r.x, .int .u64 (r.g : Int), .int .u8 (r.m.toNat : Int)]), .bool ok]) ∧ PD y' F D q n N m' ∧ Chg F y y') := fun y hy => by
        have := get_any (PJ.out.below hy) (EJ.out.below hy) HG.out HP.out (sq := f + j) (by omega) hr
        rwa [show ((f + j : Nat) : Int) = (f : Int) + (j : Int) by omega] at this
      clear hr
      obtain ⟨bf, hbf, hbf2⟩ := follows_bool r (f + j) h
      have HBF2 : Hid (bf = true ↔ r.q = f + j ∧ h ≤ r.h) := hbf2
      have KF : Hid (∀ y, Calls Tryz.prog 88 #[(.agg #[.int .u64 (r.q : Int), .int .u64 (r.h : Int), .int .i64 r.x, .int .u64 (r.g : Int), .int .u8 (r.m.toNat : Int)]), .int .u64 ((f : Int) + (j : Int)), .int .u64 (h : Int)] y fun e y' => e = .returned (.bool bf) ∧ Below y.heap.size y y') := fun y => by
        have := follows_any r (f + j) h bf y hbf
        rwa [show ((f + j : Nat) : Int) = (f : Int) + (j : Int) by omega] at this
      clear hbf hbf2
      go_wp2_with ((with_reducible apply L_loadPlace); exact rfl; exact YJ.out; exact rfl)
      refine (KG.out _ (Below.refl _ _)).mono ?_; rintro e w3 ⟨rfl, p3, c3⟩
      have P3 := Lib.hid p3
      have C3 := Lib.hid (CJ.out.trans c3 (fun _ _ x => x))
      have O3 := Lib.hid (OJ.out.keep (w' := w3) (fun g hg => c3.block g (OJ.out.ge g hg).2 (fun x => by have := HB.out g x; have := (OJ.out.ge g hg).1; have := B1.out.size; omega)))
      have HL3 : Hid (w1.heap.size ≤ w3.heap.size) := C3.out.size
      clear p3 c3 KG
      have hb3 : ∀ b, some w3.heap.size = some b → w1.heap.size ≤ b := fun b e => by injection e with e; have := HL3.out; omega
      have HB3 := Lib.hid hb3
      clear hb3
      have END : Hid (∀ w4 : World, w3.grownBy w4 (some w3.heap.size) → ∀ w5, Below w4.heap.size w4 w5 → R = (L, m') → OwnS w5 31 5 w.heap.size u7 (R.1.map rcs) ∧ PD w5 F D q n N R.2 ∧ Chg F w w5) := fun w4 g4 w5 b5 hR => by
        subst hR
        have o4 := O3.out.keep (w' := w4) (fun g hg => g4.block g (O3.out.ge g hg).2 (fun e => by injection e with e; have := (O3.out.ge g hg).2; omega))
        exact ⟨(o4.below b5).more B1.out.size, (pd_row HB.out HQ.out P3.out g4 (fun b e => Nat.le_trans B1.out.size (HB3.out b e))).below b5, (Chg.of_below (F := F) B1.out).trans ((chg_row C3.out g4 HB3.out).trans (Chg.of_below (F := F) b5) (fun _ _ x => x)) (fun _ _ x => x)⟩
      cases ok
      · have RK : Hid (R = (L, m')) := by
          have e := RJ2.out
          rw [rdA_no HV.out (fun x => by cases x.1)] at e
          exact e.symm
        go_wp2_with ((with_reducible apply W.L_storeRow (N := 5) W.info_rc); exact rfl; exact rfl; exact heap_alloc_new _ _; exact rfl; exact rfl; (simp [Value.oneCell']); intro w4 h4 g4; have G4 := Lib.hid ((World.grownBy_alloc w3 _ (some w3.heap.size)).trans g4); clear h4 g4)
        go_ret
        exact ⟨_, rfl, END.out _ G4.out _ (Below.refl _ _) RK.out⟩
      · go_wp2_with ((with_reducible apply W.L_storeRow (N := 5) W.info_rc); exact rfl; exact rfl; exact heap_alloc_new _ _; exact rfl; exact rfl; (simp [Value.oneCell']); intro w4 h4 g4; have H4 := Lib.hid h4; have G4 := Lib.hid ((World.grownBy_alloc w3 _ (some w3.heap.size)).trans g4); obtain ⟨x0, x1, x2, x3, x4⟩ := rc_cells h4; clear h4 g4)
        refine (KF.out _).mono ?_; rintro e w5 ⟨rfl, b5⟩
        have B5 := Lib.hid b5
        have H5 := Lib.hid (kept_below H4.out b5)
        clear x0 x1 x2 x3 x4 b5
        cases bf
        · have RK : Hid (R = (L, m')) := by
            have e := RJ2.out
            rw [rdA_no HV.out (fun x => by have := HBF2.out.2 ⟨x.2.1, x.2.2.1⟩; cases this)] at e
            exact e.symm
          go_wp2
          go_ret
          exact ⟨_, rfl, END.out _ G4.out _ B5.out RK.out⟩
        · obtain ⟨y0, y1, y2, y3, y4⟩ := rc_cells H5.out
          clear y0 y2 y3 y4
          obtain ⟨f1, f2⟩ := HBF2.out.1 rfl
          by_cases hh : r.h ≤ ep
          · have hh2 : ¬ (ep : Int) < (r.h : Int) := by omega
            have RK : Hid (rdA la lg ep (lg - (j + 1)) (f + (j + 1)) r.h m' (L ++ [r]) = R) := by
              have e := RJ2.out
              rw [rdA_yes HV.out f1 f2 hh] at e
              exact e
            have O5 : Hid (OwnS w5 31 5 w1.heap.size u7 (L.map rcs)) := (O3.out.keep (w' := w4) (fun g hg => G4.out.block g (O3.out.ge g hg).2 (fun e => by injection e with e; have := (O3.out.ge g hg).2; omega))).below B5.out
            have P5 := Lib.hid ((pd_row HB.out HQ.out P3.out G4.out (fun b e => Nat.le_trans B1.out.size (HB3.out b e))).below B5.out)
            have C5 := Lib.hid ((chg_row C3.out G4.out HB3.out).trans (Chg.of_below (F := F) B5.out) (fun _ _ x => x))
            have L5 : Hid (w1.heap.size ≤ w5.heap.size) := C5.out.size
            have N5 : Hid (∀ g, Value.ownBlock u7 = some g → w3.heap.size ≠ g) := fun g hg e => by have := (O3.out.ge g hg).2; omega
            clear f1 f2 END
            go_wp2_with (first
              | ((with_reducible apply W.L_loadRc); exact rfl; exact H5.out; exact rfl)
              | (at_builtin; refine wpList_append_S2 rfl _ _ _ rfl rc_elk rfl O5.out L5.out _ rfl (c := rcs r) rfl rfl (rcs_one r) (by rw [List.length_map, LJ.out]; omega) ?_; intro v6 w6 o6 g6; have O6 := Lib.hid o6; have G6 := Lib.hid g6; have y1 : w6.cell? ⟨w3.heap.size, 1, none⟩ = some (.int .u64 (r.h : Int)) := cell_of_row _ _ 1 _ _ _ ((g6.block _ (lt_of_heap H5.out) (fun e => N5.out _ e.symm rfl)).trans H5.out); clear o6 g6))
            have C6 := Lib.hid (chg_row C5.out G6.out (fun b e => (O5.out.ge b e).1))
            have P6 := Lib.hid (pd_row HB.out HQ.out P5.out G6.out (fun b e => by have := (O5.out.ge b e).1; have := B1.out.size; omega))
            go_roundw
            case rel => exact ⟨j + 1, r.h, by omega, by go_num, rfl, m', L ++ [r], P6, C6, by show OwnS _ _ _ _ _ _; rw [List.map_append]; exact O6.out, by show _ = _; rw [List.length_append, LJ.out]; rfl, RK⟩
            case measure => simp [intOf]; omega
          · have hh2 : (ep : Int) < (r.h : Int) := by omega
            have RK : Hid (R = (L, m')) := by
              have e := RJ2.out
              rw [rdA_no HV.out (fun x => hh x.2.2.2)] at e
              exact e.symm
            go_wp2
            go_ret
            exact ⟨_, rfl, END.out _ G4.out _ B5.out RK.out⟩
    · have hlt2 : ¬ (j : Int) < (lg : Int) := by omega
      have RK : Hid (R = (L, mj)) := by
        have e := RJ.out
        rw [show lg - j = 0 by omega, rdA_zero] at e
        exact e.symm
      go_wp2
      go_ret
      rw [RK.out]
      exact ⟨_, rfl, OJ.out.more B1.out.size, PJ.out, (Chg.of_below (F := F) B1.out).trans CJ.out (fun _ _ x => x)⟩
end
end Go.Proofs.YtikbbikcacoobaaGreatDoor.Pd.Iv

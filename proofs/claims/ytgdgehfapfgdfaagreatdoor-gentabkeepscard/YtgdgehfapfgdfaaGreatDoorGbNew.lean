/-
  The newest of a page's two copies. No conditions.
-/
import Derived.Test.YtgdgehfapfgdfaaGreatDoorGbPut
namespace Go.Proofs.YtgdgehfapfgdfaaGreatDoor.Tb
open Go.RowKit Oc Dm W Dw Sr
set_option linter.unusedVariables false
set_option maxRecDepth 100000

theorem chg_new {F : Nat → Prop} {w w1 w2 : World} {b : Nat} (h : Chg F w w1) (hg : w1.grownBy w2 (some b)) (hb : w.heap.size ≤ b) : Chg F w w2 :=
  h.trans (G := fun k => k = b) (Chg.of_grown hg (fun k e _ => by injection e with e; exact e.symm)) (fun k hk e => by omega)
theorem pd_new {F : Nat → Prop} {w w1 w2 : World} {b D q n N : Nat} {m : Vs} (hF : ∀ k, F k → k < w.heap.size) (hq : q < w.heap.size) (h : PD w1 F D q n N m) (hg : w1.grownBy w2 (some b)) (hb : w.heap.size ≤ b) : PD w2 F D q n N m :=
  h.kept (G := fun k => k = b) (Chg.of_grown hg (fun k e _ => by injection e with e; exact e.symm)) (fun k x e => x.elim (fun y => by have := hF k y; omega) (fun y => by omega))
section
variable {w w' : World} {F : Nat → Prop} {D q n N ne np ga : Nat} {m : Vs} {p : Pn.Pl} {x : Gp}
set_option maxHeartbeats 1000000 in
theorem newest_any (h : PD w F D q n N m) (he : Env w) (hE : ∀ k, F k → 0 < k) (hp : Pln p ne np ga n) {i : Nat} (hi : i < np) (r : Int × Gp × Vs) (hr : on1 ga m i = r) :
    Calls Tryz.prog 59 #[(.agg #[.pointer (some ⟨D, 0, none⟩), .int .i64 p.a0, .int .i64 p.a1, .int .i64 p.a2, .int .i64 p.a3, .int .i64 p.a4, .int .i64 p.a5, .int .i64 p.a6, .int .i64 p.a7, .int .i64 p.a8, .int .i64 p.a9, .int .i64 p.a10, .int .i64 p.a11, .int .i64 p.a12]), .int .i64 (i : Int)] w fun e w' => e = .returned (.tuple #[(.agg #[.int .i64 r.2.1.no, .int .u64 (r.2.1.v : Int), .int .u64 (r.2.1.g 0 : Int), .int .u64 (r.2.1.g 1 : Int), .int .u64 (r.2.1.g 2 : Int), .int .u64 (r.2.1.g 3 : Int), .int .u64 (r.2.1.g 4 : Int), .int .u64 (r.2.1.g 5 : Int)]), .int .i64 r.1]) ∧ PD w' F D q n N r.2.2 ∧ Chg F w w' := by
  have H := Lib.hid h
  have HE := Lib.hid he
  have HF : Hid (∀ k, F k → k < w.heap.size) := fun k x => h.bound k (.inl x)
  have HG := Lib.hid hE
  obtain ⟨a1, ha1⟩ : ∃ a1, ga + 2 * i = a1 := ⟨_, rfl⟩
  have S1 : Hid (a1 < n ∧ a1 + 1 < n) := by show _ ∧ _; have := hp.hn; omega
  have S2 : Hid (p.a3 + 2 * (i : Int) = (a1 : Int)) := by show _ = _; have := hp.h3; omega
  have S3 : Hid ((a1 : Int) + 1 = ((a1 + 1 : Nat) : Int)) := by show _ = _; omega
  have C2 : Hid ((i : Int) < p.a2) := by show _ < _; rw [hp.h2]; omega
  have C3 : Hid (p.a2 ≤ 100000 ∧ 0 ≤ p.a3 ∧ p.a3 ≤ 100000) := by show _ ∧ _; rw [hp.h2, hp.h3]; have := hp.hn; have := hp.hn2; omega
  unfold on1 at hr
  rw [ha1] at hr
  have R1 : Hid (∀ w' (hb : Below w.heap.size w w'), Calls Tryz.prog 93 #[.pointer (some ⟨D, 0, none⟩), .int .i64 (a1 : Int)] w' fun e w'' => ∃ A l c, e = .returned (.tuple #[.slice A l c, .int .i64 (rd1 m a1).1]) ∧ Oct w'' A l (rd1 m a1).2.1 ∧ l ≤ c ∧ l ≤ 64 ∧ (∀ b off, 0 < l → A = some ⟨b, off, none⟩ → w'.heap.size ≤ b) ∧ PD w'' F D q n N (rd1 m a1).2.2 ∧ Chg F w' w'') := fun w' hb => (h.below hb).read a1 S1.out.1
  have hrd1 : ∃ r1, rd1 m a1 = r1 := ⟨_, rfl⟩
  obtain ⟨⟨v1, xs1, m1⟩, hrd1⟩ := hrd1
  rw [hrd1] at hr R1
  dsimp only at hr R1
  clear h he hE hp ha1 hrd1
  have hi0 : (0 : Int) ≤ (i : Int) := by omega
  by_cases h1 : v1 = 0
  · rw [if_neg (fun x => x h1)] at hr
    have hrd2 : ∃ r2, rd1 m1 (a1 + 1) = r2 := ⟨_, rfl⟩
    obtain ⟨⟨v2, xs2, m2⟩, hrd2⟩ := hrd2
    have R2 : Hid (∀ (w' : World), PD w' F D q n N m1 → Calls Tryz.prog 93 #[.pointer (some ⟨D, 0, none⟩), .int .i64 ((a1 : Int) + 1)] w' fun e w'' => ∃ A l c, e = .returned (.tuple #[.slice A l c, .int .i64 v2]) ∧ Oct w'' A l xs2 ∧ l ≤ c ∧ l ≤ 64 ∧ (∀ b off, 0 < l → A = some ⟨b, off, none⟩ → w'.heap.size ≤ b) ∧ PD w'' F D q n N m2 ∧ Chg F w' w'') := fun w' hh => by
      have := hh.read (a1 + 1) S1.out.2
      rw [hrd2] at this
      rw [S3.out]
      exact this
    rw [hrd2] at hr
    dsimp only at hr
    clear hrd2
    subst h1
    by_cases h2 : v2 = 0
    · rw [if_neg (fun x => x h2)] at hr
      subst h2
      have hpk : ∃ x k ok, pk xs1 xs2 (i : Int) = (x, k, ok) := ⟨_, _, _, rfl⟩
      obtain ⟨x, kk, ok, hpk⟩ := hpk
      have NW := Lib.hid (pk_way xs1 xs2 (i : Int))
      rw [hpk] at hr NW
      dsimp only at hr NW
      clear hpk
      cases ok
      · rw [if_neg (by decide)] at hr
        subst hr
        go_enter Tryz.func59, Tryz.ntmps59
        go_wp2_with fail
        refine (Pn.copies_yes p (i : Int) _ hi0 C2.out C3.out.1 C3.out.2.1 C3.out.2.2).mono ?_; rintro e w1 ⟨rfl, b1⟩
        rw [S2.out]
        have B1 := Lib.hid (bthen (bthen (balloc w _) (balloc _ _)) b1)
        have Z1 := Lib.hid (kept_below (heap_at_next w (.cells #[.pointer (some ⟨D, 0, none⟩), .int .i64 p.a0, .int .i64 p.a1, .int .i64 p.a2, .int .i64 p.a3, .int .i64 p.a4, .int .i64 p.a5, .int .i64 p.a6, .int .i64 p.a7, .int .i64 p.a8, .int .i64 p.a9, .int .i64 p.a10, .int .i64 p.a11, .int .i64 p.a12] 78) (.cells #[.int .i64 0, .int .u64 0, .int .u64 0, .int .u64 0, .int .u64 0, .int .u64 0, .int .u64 0, .int .u64 0] 33)) b1)
        have Y1 := Lib.hid (kept_below (heap_alloc2_old w (.cells #[.pointer (some ⟨D, 0, none⟩), .int .i64 p.a0, .int .i64 p.a1, .int .i64 p.a2, .int .i64 p.a3, .int .i64 p.a4, .int .i64 p.a5, .int .i64 p.a6, .int .i64 p.a7, .int .i64 p.a8, .int .i64 p.a9, .int .i64 p.a10, .int .i64 p.a11, .int .i64 p.a12] 78) (.cells #[.int .i64 0, .int .u64 0, .int .u64 0, .int .u64 0, .int .u64 0, .int .u64 0, .int .u64 0, .int .u64 0] 33)) b1)
        have y1 : w1.cell? ⟨w.heap.size, 0, none⟩ = some (.pointer (some ⟨D, 0, none⟩)) := cell_of_row _ _ 0 _ _ _ Y1.out
        clear b1
        go_wp2_with fail
        refine (R1.out _ B1.out).mono ?_; rintro e w2 ⟨A1, l1, c1, rfl, o1, q1, q2, n1, p2, g2⟩
        have P2 := Lib.hid p2
        have O2 := Lib.hid o1
        have N2 : Hid (∀ b off, 0 < l1 → A1 = some ⟨b, off, none⟩ → w.heap.size ≤ b) := fun b off hl e => Nat.le_trans B1.out.size (n1 b off hl e)
        have Q2 := Lib.hid (show l1 ≤ c1 ∧ l1 ≤ 64 from ⟨q1, q2⟩)
        have Z2 := Lib.hid (keep_new HF.out Z1.out g2 (Nat.le_succ _))
        have Y2 := Lib.hid (keep_new HF.out Y1.out g2 (Nat.le_refl _))
        have G2 := Lib.hid ((Chg.of_below (F := F) B1.out).trans g2 (fun _ _ x => x))
        clear o1 q1 q2 n1 p2 g2 y1
        have y2 : w2.cell? ⟨w.heap.size, 0, none⟩ = some (.pointer (some ⟨D, 0, none⟩)) := cell_of_row _ _ 0 _ _ _ Y2.out
        go_wp2_with fail
        refine (R2.out _ P2.out).mono ?_; rintro e w3 ⟨A2, l2, c2, rfl, o2, q1, q2, n1, p3, g3⟩
        have P3 := Lib.hid p3
        have O3 := Lib.hid (oct_new HF.out O2.out g3 N2.out)
        have O4 := Lib.hid o2
        have Q3 := Lib.hid (show l2 ≤ c2 ∧ l2 ≤ 64 from ⟨q1, q2⟩)
        have Z3 := Lib.hid (keep_new HF.out Z2.out g3 (Nat.le_succ _))
        have G3 := Lib.hid (G2.out.trans g3 (fun _ _ x => x))
        have E3 := Lib.hid (env_chg HE.out G3.out HG.out)
        clear o2 q1 q2 n1 p3 g3 y2
        go_wp2_with fail
        refine (newer_any A1 A2 l1 c1 l2 c2 xs1 xs2 (i : Int) _ _ _ _ x kk false _ (by have := Q2.out; omega) Q2.out.1 (by have := Q3.out; omega) Q3.out.1 O3.out O4.out E3.out (gd_way _ _) (gd_way _ _) NW.out).mono ?_; rintro e w4 ⟨rfl, b4⟩
        have P4 := Lib.hid (P3.out.below (bthen b4 (balloc w4 (.cells #[.int .i64 0, .int .u64 0, .int .u64 0, .int .u64 0, .int .u64 0, .int .u64 0, .int .u64 0, .int .u64 0] 33))))
        have G4 := Lib.hid (G3.out.trans (Chg.of_below (F := F) (bthen b4 (balloc w4 (.cells #[.int .i64 0, .int .u64 0, .int .u64 0, .int .u64 0, .int .u64 0, .int .u64 0, .int .u64 0, .int .u64 0] 33)))) (fun _ _ x => x))
        have Z4 := Lib.hid (kept_below Z3.out (bthen b4 (balloc w4 (.cells #[.int .i64 0, .int .u64 0, .int .u64 0, .int .u64 0, .int .u64 0, .int .u64 0, .int .u64 0, .int .u64 0] 33))))
        have HL4 : Hid (w.heap.size + 1 < w4.heap.size ∧ w.heap.size ≤ w4.heap.size) := by show _ ∧ _; have := lt_of_heap Z3.out; have := b4.size; omega
        clear b4
        go_wp2_with (first
          | ((with_reducible apply W.L_storeRow (N := 8) info_gp); exact rfl; exact rfl; exact heap_alloc_new _ _; exact rfl; exact rfl; (simp [Value.oneCell']); intro w5 h5 g5; have H5 := Lib.hid h5; have Z5 := Lib.hid (kept_by Z4.out g5 (by have := HL4.out; omega)); have P5 := Lib.hid (pd_new HF.out H.out.pw.lt P4.out g5 HL4.out.2); have G5 := Lib.hid (chg_new G4.out g5 HL4.out.2); clear h5 g5)
          | ((with_reducible apply W.L_storeRow (N := 8) info_gp); exact rfl; exact rfl; exact Z5.out; exact rfl; exact rfl; (simp [Value.oneCell']); intro w6 h6 g6; have H6 := Lib.hid h6; have P6 := Lib.hid (pd_new HF.out H.out.pw.lt P5.out g6 (Nat.le_succ _)); have G6 := Lib.hid (chg_new G5.out g6 (Nat.le_succ _)); clear h6 g6))
        refine bodyPost_ret (W.results_cell_tmp_row rfl _ _ _ _ rfl (run_loadVar_row _ _ _ _ _ _ _ H6.out Tryz.underlying33 rfl info_gp)) rfl ?_
        exact ⟨rfl, P6.out, G6.out⟩
      · rw [if_pos rfl] at hr
        subst hr
        go_enter Tryz.func59, Tryz.ntmps59
        go_wp2_with fail
        refine (Pn.copies_yes p (i : Int) _ hi0 C2.out C3.out.1 C3.out.2.1 C3.out.2.2).mono ?_; rintro e w1 ⟨rfl, b1⟩
        rw [S2.out]
        have B1 := Lib.hid (bthen (bthen (balloc w _) (balloc _ _)) b1)
        have Z1 := Lib.hid (kept_below (heap_at_next w (.cells #[.pointer (some ⟨D, 0, none⟩), .int .i64 p.a0, .int .i64 p.a1, .int .i64 p.a2, .int .i64 p.a3, .int .i64 p.a4, .int .i64 p.a5, .int .i64 p.a6, .int .i64 p.a7, .int .i64 p.a8, .int .i64 p.a9, .int .i64 p.a10, .int .i64 p.a11, .int .i64 p.a12] 78) (.cells #[.int .i64 0, .int .u64 0, .int .u64 0, .int .u64 0, .int .u64 0, .int .u64 0, .int .u64 0, .int .u64 0] 33)) b1)
        have Y1 := Lib.hid (kept_below (heap_alloc2_old w (.cells #[.pointer (some ⟨D, 0, none⟩), .int .i64 p.a0, .int .i64 p.a1, .int .i64 p.a2, .int .i64 p.a3, .int .i64 p.a4, .int .i64 p.a5, .int .i64 p.a6, .int .i64 p.a7, .int .i64 p.a8, .int .i64 p.a9, .int .i64 p.a10, .int .i64 p.a11, .int .i64 p.a12] 78) (.cells #[.int .i64 0, .int .u64 0, .int .u64 0, .int .u64 0, .int .u64 0, .int .u64 0, .int .u64 0, .int .u64 0] 33)) b1)
        have y1 : w1.cell? ⟨w.heap.size, 0, none⟩ = some (.pointer (some ⟨D, 0, none⟩)) := cell_of_row _ _ 0 _ _ _ Y1.out
        clear b1
        go_wp2_with fail
        refine (R1.out _ B1.out).mono ?_; rintro e w2 ⟨A1, l1, c1, rfl, o1, q1, q2, n1, p2, g2⟩
        have P2 := Lib.hid p2
        have O2 := Lib.hid o1
        have N2 : Hid (∀ b off, 0 < l1 → A1 = some ⟨b, off, none⟩ → w.heap.size ≤ b) := fun b off hl e => Nat.le_trans B1.out.size (n1 b off hl e)
        have Q2 := Lib.hid (show l1 ≤ c1 ∧ l1 ≤ 64 from ⟨q1, q2⟩)
        have Z2 := Lib.hid (keep_new HF.out Z1.out g2 (Nat.le_succ _))
        have Y2 := Lib.hid (keep_new HF.out Y1.out g2 (Nat.le_refl _))
        have G2 := Lib.hid ((Chg.of_below (F := F) B1.out).trans g2 (fun _ _ x => x))
        clear o1 q1 q2 n1 p2 g2 y1
        have y2 : w2.cell? ⟨w.heap.size, 0, none⟩ = some (.pointer (some ⟨D, 0, none⟩)) := cell_of_row _ _ 0 _ _ _ Y2.out
        go_wp2_with fail
        refine (R2.out _ P2.out).mono ?_; rintro e w3 ⟨A2, l2, c2, rfl, o2, q1, q2, n1, p3, g3⟩
        have P3 := Lib.hid p3
        have O3 := Lib.hid (oct_new HF.out O2.out g3 N2.out)
        have O4 := Lib.hid o2
        have Q3 := Lib.hid (show l2 ≤ c2 ∧ l2 ≤ 64 from ⟨q1, q2⟩)
        have Z3 := Lib.hid (keep_new HF.out Z2.out g3 (Nat.le_succ _))
        have G3 := Lib.hid (G2.out.trans g3 (fun _ _ x => x))
        have E3 := Lib.hid (env_chg HE.out G3.out HG.out)
        clear o2 q1 q2 n1 p3 g3 y2
        go_wp2_with fail
        refine (newer_any A1 A2 l1 c1 l2 c2 xs1 xs2 (i : Int) _ _ _ _ x kk true _ (by have := Q2.out; omega) Q2.out.1 (by have := Q3.out; omega) Q3.out.1 O3.out O4.out E3.out (gd_way _ _) (gd_way _ _) NW.out).mono ?_; rintro e w4 ⟨rfl, b4⟩
        have P4 := Lib.hid (P3.out.below (bthen b4 (balloc w4 (.cells #[.int .i64 0, .int .u64 0, .int .u64 0, .int .u64 0, .int .u64 0, .int .u64 0, .int .u64 0, .int .u64 0] 33))))
        have G4 := Lib.hid (G3.out.trans (Chg.of_below (F := F) (bthen b4 (balloc w4 (.cells #[.int .i64 0, .int .u64 0, .int .u64 0, .int .u64 0, .int .u64 0, .int .u64 0, .int .u64 0, .int .u64 0] 33)))) (fun _ _ x => x))
        have Z4 := Lib.hid (kept_below Z3.out (bthen b4 (balloc w4 (.cells #[.int .i64 0, .int .u64 0, .int .u64 0, .int .u64 0, .int .u64 0, .int .u64 0, .int .u64 0, .int .u64 0] 33))))
        have HL4 : Hid (w.heap.size + 1 < w4.heap.size ∧ w.heap.size ≤ w4.heap.size) := by show _ ∧ _; have := lt_of_heap Z3.out; have := b4.size; omega
        clear b4
        go_wp2_with (first
          | ((with_reducible apply W.L_storeRow (N := 8) info_gp); exact rfl; exact rfl; exact heap_alloc_new _ _; exact rfl; exact rfl; (simp [Value.oneCell']); intro w5 h5 g5; have H5 := Lib.hid h5; have Z5 := Lib.hid (kept_by Z4.out g5 (by have := HL4.out; omega)); have P5 := Lib.hid (pd_new HF.out H.out.pw.lt P4.out g5 HL4.out.2); have G5 := Lib.hid (chg_new G4.out g5 HL4.out.2); clear h5 g5)
          | ((with_reducible apply L_loadGp); exact rfl; exact H5.out; exact rfl)
          | ((with_reducible apply W.L_storeRow (N := 8) info_gp); exact rfl; exact rfl; exact Z5.out; exact rfl; exact rfl; (simp [Value.oneCell']); intro w6 h6 g6; have H6 := Lib.hid h6; have P6 := Lib.hid (pd_new HF.out H.out.pw.lt P5.out g6 (Nat.le_succ _)); have G6 := Lib.hid (chg_new G5.out g6 (Nat.le_succ _)); clear h6 g6))
        refine bodyPost_ret (W.results_cell_tmp_row rfl _ _ _ _ rfl (run_loadVar_row _ _ _ _ _ _ _ H6.out Tryz.underlying33 rfl info_gp)) rfl ?_
        exact ⟨rfl, P6.out, G6.out⟩
    · rw [if_pos h2] at hr
      subst hr
      go_enter Tryz.func59, Tryz.ntmps59
      go_wp2_with fail
      refine (Pn.copies_yes p (i : Int) _ hi0 C2.out C3.out.1 C3.out.2.1 C3.out.2.2).mono ?_; rintro e w1 ⟨rfl, b1⟩
      rw [S2.out]
      have B1 := Lib.hid (bthen (bthen (balloc w _) (balloc _ _)) b1)
      have Z1 := Lib.hid (kept_below (heap_at_next w (.cells #[.pointer (some ⟨D, 0, none⟩), .int .i64 p.a0, .int .i64 p.a1, .int .i64 p.a2, .int .i64 p.a3, .int .i64 p.a4, .int .i64 p.a5, .int .i64 p.a6, .int .i64 p.a7, .int .i64 p.a8, .int .i64 p.a9, .int .i64 p.a10, .int .i64 p.a11, .int .i64 p.a12] 78) (.cells #[.int .i64 0, .int .u64 0, .int .u64 0, .int .u64 0, .int .u64 0, .int .u64 0, .int .u64 0, .int .u64 0] 33)) b1)
      have Y1 := Lib.hid (kept_below (heap_alloc2_old w (.cells #[.pointer (some ⟨D, 0, none⟩), .int .i64 p.a0, .int .i64 p.a1, .int .i64 p.a2, .int .i64 p.a3, .int .i64 p.a4, .int .i64 p.a5, .int .i64 p.a6, .int .i64 p.a7, .int .i64 p.a8, .int .i64 p.a9, .int .i64 p.a10, .int .i64 p.a11, .int .i64 p.a12] 78) (.cells #[.int .i64 0, .int .u64 0, .int .u64 0, .int .u64 0, .int .u64 0, .int .u64 0, .int .u64 0, .int .u64 0] 33)) b1)
      have y1 : w1.cell? ⟨w.heap.size, 0, none⟩ = some (.pointer (some ⟨D, 0, none⟩)) := cell_of_row _ _ 0 _ _ _ Y1.out
      clear b1
      go_wp2_with fail
      refine (R1.out _ B1.out).mono ?_; rintro e w2 ⟨A1, l1, c1, rfl, o1, q1, q2, n1, p2, g2⟩
      have P2 := Lib.hid p2
      have O2 := Lib.hid o1
      have N2 : Hid (∀ b off, 0 < l1 → A1 = some ⟨b, off, none⟩ → w.heap.size ≤ b) := fun b off hl e => Nat.le_trans B1.out.size (n1 b off hl e)
      have Q2 := Lib.hid (show l1 ≤ c1 ∧ l1 ≤ 64 from ⟨q1, q2⟩)
      have Z2 := Lib.hid (keep_new HF.out Z1.out g2 (Nat.le_succ _))
      have Y2 := Lib.hid (keep_new HF.out Y1.out g2 (Nat.le_refl _))
      have G2 := Lib.hid ((Chg.of_below (F := F) B1.out).trans g2 (fun _ _ x => x))
      clear o1 q1 q2 n1 p2 g2 y1
      have y2 : w2.cell? ⟨w.heap.size, 0, none⟩ = some (.pointer (some ⟨D, 0, none⟩)) := cell_of_row _ _ 0 _ _ _ Y2.out
      go_wp2_with fail
      refine (R2.out _ P2.out).mono ?_; rintro e w3 ⟨A2, l2, c2, rfl, o2, q1, q2, n1, p3, g3⟩
      have P3 := Lib.hid p3
      have O3 := Lib.hid (oct_new HF.out O2.out g3 N2.out)
      have O4 := Lib.hid o2
      have Q3 := Lib.hid (show l2 ≤ c2 ∧ l2 ≤ 64 from ⟨q1, q2⟩)
      have Z3 := Lib.hid (keep_new HF.out Z2.out g3 (Nat.le_succ _))
      have G3 := Lib.hid (G2.out.trans g3 (fun _ _ x => x))
      have E3 := Lib.hid (env_chg HE.out G3.out HG.out)
      clear o2 q1 q2 n1 p3 g3 y2
      go_wp2_with ((with_reducible apply W.L_storeRow (N := 8) info_gp); exact rfl; exact rfl; exact Z3.out; exact rfl; exact rfl; (simp [Value.oneCell']); intro w6 h6 g6; have H6 := Lib.hid h6; have P6 := Lib.hid (pd_new HF.out H.out.pw.lt P3.out g6 (Nat.le_succ _)); have G6 := Lib.hid (chg_new G3.out g6 (Nat.le_succ _)); clear h6 g6)
      refine bodyPost_ret (W.results_cell_tmp_row rfl _ _ _ _ rfl (run_loadVar_row _ _ _ _ _ _ _ H6.out Tryz.underlying33 rfl info_gp)) rfl ?_
      exact ⟨rfl, P6.out, G6.out⟩
  · rw [if_pos h1] at hr
    subst hr
    go_enter Tryz.func59, Tryz.ntmps59
    go_wp2_with fail
    refine (Pn.copies_yes p (i : Int) _ hi0 C2.out C3.out.1 C3.out.2.1 C3.out.2.2).mono ?_; rintro e w1 ⟨rfl, b1⟩
    rw [S2.out]
    have B1 := Lib.hid (bthen (bthen (balloc w _) (balloc _ _)) b1)
    have Z1 := Lib.hid (kept_below (heap_at_next w (.cells #[.pointer (some ⟨D, 0, none⟩), .int .i64 p.a0, .int .i64 p.a1, .int .i64 p.a2, .int .i64 p.a3, .int .i64 p.a4, .int .i64 p.a5, .int .i64 p.a6, .int .i64 p.a7, .int .i64 p.a8, .int .i64 p.a9, .int .i64 p.a10, .int .i64 p.a11, .int .i64 p.a12] 78) (.cells #[.int .i64 0, .int .u64 0, .int .u64 0, .int .u64 0, .int .u64 0, .int .u64 0, .int .u64 0, .int .u64 0] 33)) b1)
    have Y1 := Lib.hid (kept_below (heap_alloc2_old w (.cells #[.pointer (some ⟨D, 0, none⟩), .int .i64 p.a0, .int .i64 p.a1, .int .i64 p.a2, .int .i64 p.a3, .int .i64 p.a4, .int .i64 p.a5, .int .i64 p.a6, .int .i64 p.a7, .int .i64 p.a8, .int .i64 p.a9, .int .i64 p.a10, .int .i64 p.a11, .int .i64 p.a12] 78) (.cells #[.int .i64 0, .int .u64 0, .int .u64 0, .int .u64 0, .int .u64 0, .int .u64 0, .int .u64 0, .int .u64 0] 33)) b1)
    have y1 : w1.cell? ⟨w.heap.size, 0, none⟩ = some (.pointer (some ⟨D, 0, none⟩)) := cell_of_row _ _ 0 _ _ _ Y1.out
    clear b1
    go_wp2_with fail
    refine (R1.out _ B1.out).mono ?_; rintro e w2 ⟨A1, l1, c1, rfl, o1, q1, q2, n1, p2, g2⟩
    have P2 := Lib.hid p2
    have O2 := Lib.hid o1
    have N2 : Hid (∀ b off, 0 < l1 → A1 = some ⟨b, off, none⟩ → w.heap.size ≤ b) := fun b off hl e => Nat.le_trans B1.out.size (n1 b off hl e)
    have Q2 := Lib.hid (show l1 ≤ c1 ∧ l1 ≤ 64 from ⟨q1, q2⟩)
    have Z2 := Lib.hid (keep_new HF.out Z1.out g2 (Nat.le_succ _))
    have Y2 := Lib.hid (keep_new HF.out Y1.out g2 (Nat.le_refl _))
    have G2 := Lib.hid ((Chg.of_below (F := F) B1.out).trans g2 (fun _ _ x => x))
    clear o1 q1 q2 n1 p2 g2 y1
    have y2 : w2.cell? ⟨w.heap.size, 0, none⟩ = some (.pointer (some ⟨D, 0, none⟩)) := cell_of_row _ _ 0 _ _ _ Y2.out
    clear y2
    go_wp2_with ((with_reducible apply W.L_storeRow (N := 8) info_gp); exact rfl; exact rfl; exact Z2.out; exact rfl; exact rfl; (simp [Value.oneCell']); intro w6 h6 g6; have H6 := Lib.hid h6; have P6 := Lib.hid (pd_new HF.out H.out.pw.lt P2.out g6 (Nat.le_succ _)); have G6 := Lib.hid (chg_new G2.out g6 (Nat.le_succ _)); clear h6 g6)
    refine bodyPost_ret (W.results_cell_tmp_row rfl _ _ _ _ rfl (run_loadVar_row _ _ _ _ _ _ _ H6.out Tryz.underlying33 rfl info_gp)) rfl ?_
    exact ⟨rfl, P6.out, G6.out⟩
end
end Go.Proofs.YtgdgehfapfgdfaaGreatDoor.Tb

/-
  Where a log stands: check, get, write. No conditions.
-/
import Derived.Test.YtikbbikcacoobaaGreatDoorIvAsk
namespace Go.Proofs.YtikbbikcacoobaaGreatDoor.Pd.Iv
open Go.RowKit Oc Dm W Dw Sr
set_option linter.unusedVariables false
set_option maxRecDepth 100000

section
variable {w w' : World} {F : Nat → Prop} {D q n N : Nat} {m : Vs} {p : Pn.Pl}
theorem check_nil (p : Pn.Pl) (u v : Value) (w : World) : Calls Tryz.prog 56 #[.agg #[.pointer none, .int .i64 p.a0, .int .i64 p.a1, .int .i64 p.a2, .int .i64 p.a3, .int .i64 p.a4, .int .i64 p.a5, .int .i64 p.a6, .int .i64 p.a7, .int .i64 p.a8, .int .i64 p.a9, .int .i64 p.a10, .int .i64 p.a11, .int .i64 p.a12], u, v] w fun e w' => e = .returned (.int .i64 2) ∧ Below w.heap.size w w' := by
  go_enter Tryz.func56, Tryz.ntmps56
  go_wp2_with fail
  refine (read_nil _ _).mono ?_; rintro e w' ⟨rfl, rfl⟩
  go_wp2_with fail
  refine (Pn.plan_any p _).mono ?_; rintro e w1 ⟨rfl, b1⟩
  have B1 := Lib.hid (bthen (balloc w _) b1)
  have hf1 := field_11 p w1
  clear b1
  go_wp2
  go_ret
  exact ⟨rfl, B1.out⟩
/-- what check tells of a device that somebody made -/
def chk (n : Nat) (a : Int) (f e : Nat) (off : Bool) : Int := if a = 0 ∨ ¬ (n : Int) = a ∨ most < f ∨ most < e then 1 else if off = true then 80 else 0
set_option maxHeartbeats 4000000 in
theorem check_any (h : PD w F D q n N m) (f e : Nat) (c : Int) (hc : c = chk n p.a12 f e m.s.off) : Calls Tryz.prog 56 #[(.agg #[.pointer (some ⟨D, 0, none⟩), .int .i64 p.a0, .int .i64 p.a1, .int .i64 p.a2, .int .i64 p.a3, .int .i64 p.a4, .int .i64 p.a5, .int .i64 p.a6, .int .i64 p.a7, .int .i64 p.a8, .int .i64 p.a9, .int .i64 p.a10, .int .i64 p.a11, .int .i64 p.a12]), .int .u64 (f : Int), .int .u64 (e : Int)] w fun r w' => r = .returned (.int .i64 c) ∧ Below w.heap.size w w' := by
  have H := Lib.hid h
  obtain ⟨v, hv⟩ : ∃ v, (if m.s.off = true then (80 : Int) else 3) = v := ⟨_, rfl⟩
  have v2 : ¬ v = 2 := by rw [← hv]; split <;> decide
  have v80 : (m.s.off = true → v = 80) ∧ (m.s.off = false → v = 3) := ⟨fun hh => by rw [← hv, hh]; rfl, fun hh => by rw [← hv, hh]; rfl⟩
  have NR : Hid (∀ y, Below w.heap.size w y → Calls Tryz.prog 84 #[.pointer (some ⟨D, 0, none⟩), .int .i64 (-1)] y fun e w' => e = .returned (.tuple #[.slice none 0 0, .int .i64 v]) ∧ y = w') := fun y hy => by
    rw [← hv]; exact (H.out.below hy).noread2 (-1) (.inl (by decide))
  clear h hv
  unfold chk at hc
  by_cases h0 : p.a12 = 0
  · rw [if_pos (.inl h0)] at hc
    subst hc
    have t0 : (p.a12 == 0) = true := by rw [h0]; rfl
    have T0 := Lib.hid t0
    clear h0 v80 t0
    go_enter Tryz.func56, Tryz.ntmps56
    go_wp2_with fail
    refine (NR.out _ (balloc w _)).mono ?_; rintro e w1 ⟨rfl, rfl⟩
    go_wp2_with fail
    refine (Pn.plan_any p _).mono ?_; rintro e w1 ⟨rfl, b1⟩
    have B1 := Lib.hid (bthen (balloc w _) b1)
    have hf1 := field_11 p w1
    have t0 := T0.out
    clear b1
    go_wp2
    go_ret
    exact ⟨rfl, B1.out⟩
  · have t0 : (p.a12 == 0) = false := by simp; exact h0
    have T0 := Lib.hid t0
    by_cases h1 : (n : Int) = p.a12
    · have T1 : Hid (((n : Int) != p.a12) = false) := by show _ = _; rw [h1]; simp
      by_cases h2 : most < f
      · rw [if_pos (.inr (.inr (.inl h2)))] at hc
        subst hc
        have h2' : (4611686014132420608 : Int) < (f : Int) := by unfold most at h2; omega
        clear h0 h1 v80 t0 h2
        go_enter Tryz.func56, Tryz.ntmps56
        go_wp2_with fail
        refine (NR.out _ (balloc w _)).mono ?_; rintro e w1 ⟨rfl, rfl⟩
        go_wp2_with fail
        refine (Pn.plan_any p _).mono ?_; rintro e w1 ⟨rfl, b1⟩
        have B1 := Lib.hid (bthen (balloc w _) b1)
        have X1 := Lib.hid (Pn.box_cell b1 (j := 0) (v := .pointer (some ⟨D, 0, none⟩)) rfl)
        have PD1 := Lib.hid (H.out.below (bthen (balloc w _) b1))
        have hf1 := field_11 p w1
        have c0 := X1.out
        have t0 := T0.out
        have t1 := T1.out
        clear b1
        go_wp2_with fail
        refine PD1.out.size.mono ?_; rintro e w2 ⟨rfl, rfl⟩
        go_wp2
        go_ret
        exact ⟨rfl, B1.out⟩
      · by_cases h3 : most < e
        · rw [if_pos (.inr (.inr (.inr h3)))] at hc
          subst hc
          have h2' : ¬ (4611686014132420608 : Int) < (f : Int) := by unfold most at h2; omega
          have h3' : (4611686014132420608 : Int) < (e : Int) := by unfold most at h3; omega
          clear h0 h1 v80 t0 h2 h3
          go_enter Tryz.func56, Tryz.ntmps56
          go_wp2_with fail
          refine (NR.out _ (balloc w _)).mono ?_; rintro e w1 ⟨rfl, rfl⟩
          go_wp2_with fail
          refine (Pn.plan_any p _).mono ?_; rintro e w1 ⟨rfl, b1⟩
          have B1 := Lib.hid (bthen (balloc w _) b1)
          have X1 := Lib.hid (Pn.box_cell b1 (j := 0) (v := .pointer (some ⟨D, 0, none⟩)) rfl)
          have PD1 := Lib.hid (H.out.below (bthen (balloc w _) b1))
          have hf1 := field_11 p w1
          have c0 := X1.out
          have t0 := T0.out
          have t1 := T1.out
          clear b1
          go_wp2_with fail
          refine PD1.out.size.mono ?_; rintro e w2 ⟨rfl, rfl⟩
          go_wp2
          go_ret
          exact ⟨rfl, B1.out⟩
        · have hn : ¬ (p.a12 = 0 ∨ ¬ (n : Int) = p.a12 ∨ most < f ∨ most < e) := by rintro (x | x | x | x) <;> contradiction
          rw [if_neg hn] at hc
          have h2' : ¬ (4611686014132420608 : Int) < (f : Int) := by unfold most at h2; omega
          have h3' : ¬ (4611686014132420608 : Int) < (e : Int) := by unfold most at h3; omega
          cases ho : m.s.off
          all_goals
            rw [ho] at hc
            first | rw [if_pos rfl] at hc | rw [if_neg (by decide)] at hc
            first | have hv := v80.1 ho | have hv := v80.2 ho
            subst hv
            subst hc
            clear h0 h1 v80 t0 h2 h3 hn v2 ho
            go_enter Tryz.func56, Tryz.ntmps56
            go_wp2_with fail
            refine (NR.out _ (balloc w _)).mono ?_; rintro e w1 ⟨rfl, rfl⟩
            go_wp2_with fail
            refine (Pn.plan_any p _).mono ?_; rintro e w1 ⟨rfl, b1⟩
            have B1 := Lib.hid (bthen (balloc w _) b1)
            have X1 := Lib.hid (Pn.box_cell b1 (j := 0) (v := .pointer (some ⟨D, 0, none⟩)) rfl)
            have PD1 := Lib.hid (H.out.below (bthen (balloc w _) b1))
            have hf1 := field_11 p w1
            have c0 := X1.out
            have t0 := T0.out
            have t1 := T1.out
            clear b1
            go_wp2_with fail
            refine PD1.out.size.mono ?_; rintro e w2 ⟨rfl, rfl⟩
            go_wp2
            go_ret
            exact ⟨rfl, B1.out⟩
    · rw [if_pos (.inr (.inl h1))] at hc
      subst hc
      have T1 : Hid (((n : Int) != p.a12) = true) := by show _ = _; simp; exact h1
      clear h0 h1 v80 t0
      go_enter Tryz.func56, Tryz.ntmps56
      go_wp2_with fail
      refine (NR.out _ (balloc w _)).mono ?_; rintro e w1 ⟨rfl, rfl⟩
      go_wp2_with fail
      refine (Pn.plan_any p _).mono ?_; rintro e w1 ⟨rfl, b1⟩
      have B1 := Lib.hid (bthen (balloc w _) b1)
      have X1 := Lib.hid (Pn.box_cell b1 (j := 0) (v := .pointer (some ⟨D, 0, none⟩)) rfl)
      have PD1 := Lib.hid (H.out.below (bthen (balloc w _) b1))
      have hf1 := field_11 p w1
      have c0 := X1.out
      have t0 := T0.out
      have t1 := T1.out
      clear b1
      go_wp2_with fail
      refine PD1.out.size.mono ?_; rintro e w2 ⟨rfl, rfl⟩
      go_wp2
      go_ret
      exact ⟨rfl, B1.out⟩
end
section
variable {w w' : World} {F : Nat → Prop} {D q n N la lg sq : Nat} {m m1 : Vs} {p : Pn.Pl} {x r : Rc} {ok : Bool}
theorem spot_lt (hp : Pln p la lg n) (sq : Nat) : la + sq % lg < n ∧ ((la + sq % lg : Nat) : Int) = p.a6 + (sq : Int) % p.a7 := by
  have := hp.hn
  have := hp.hl
  have := Nat.mod_lt sq (show 0 < lg by omega)
  rw [hp.h6, hp.h7]
  omega
set_option maxHeartbeats 2000000 in
theorem get_any (h : PD w F D q n N m) (he : Env w) (hE : ∀ k, F k → 0 < k) (hp : Pln p la lg n) (hs : sq < 18446744073709551616) (hr : gt la lg m sq = (r, ok, m1)) :
    Calls Tryz.prog 87 #[(.agg #[.pointer (some ⟨D, 0, none⟩), .int .i64 p.a0, .int .i64 p.a1, .int .i64 p.a2, .int .i64 p.a3, .int .i64 p.a4, .int .i64 p.a5, .int .i64 p.a6, .int .i64 p.a7, .int .i64 p.a8, .int .i64 p.a9, .int .i64 p.a10, .int .i64 p.a11, .int .i64 p.a12]), .int .u64 (sq : Int)] w fun e w' => e = .returned (.tuple #[(.agg #[.int .u64 (r.q : Int), .int .u64 (r.h : Int), .int .i64 r.x, .int .u64 (r.g : Int), .int .u8 (r.m.toNat : Int)]), .bool ok]) ∧ PD w' F D q n N m1 ∧ Chg F w w' := by
  have H := Lib.hid h
  have HE := Lib.hid he
  have HG := Lib.hid hE
  have HF : Hid (∀ k, F k → k < w.heap.size) := fun k x => h.bound k (.inl x)
  obtain ⟨s1, s2⟩ := spot_lt hp sq
  have S1 := Lib.hid s1
  have C3 : Hid (0 < p.a7 ∧ p.a7 ≤ 100000 ∧ 0 ≤ p.a6 ∧ p.a6 ≤ 100000) := by show _ ∧ _; rw [hp.h6, hp.h7]; have := hp.hn; have := hp.hn2; have := hp.hl; omega
  have S2 := Lib.hid s2
  obtain ⟨v1, xs1, m2, hrd⟩ : ∃ v xs m2, rd1 m (la + sq % lg) = (v, xs, m2) := ⟨_, _, _, rfl⟩
  have R1 : Hid (∀ w' (hb : Below w.heap.size w w'), Calls Tryz.prog 84 #[.pointer (some ⟨D, 0, none⟩), .int .i64 (p.a6 + (sq : Int) % p.a7)] w' fun e w'' => ∃ A l c, e = .returned (.tuple #[.slice A l c, .int .i64 v1]) ∧ Oct w'' A l xs1 ∧ l ≤ c ∧ l ≤ 64 ∧ (∀ b off, 0 < l → A = some ⟨b, off, none⟩ → w'.heap.size ≤ b) ∧ PD w'' F D q n N m2 ∧ Chg F w' w'') := fun w' hb => by
    have := (h.below hb).read (la + sq % lg) s1
    rw [hrd] at this
    rw [← s2]
    exact this
  have hs2 : (sq : Int) ≤ 18446744073709551615 := by omega
  clear h he hE s1 s2 hp
  by_cases h1 : v1 = 0
  · subst h1
    obtain ⟨r2, E, hg⟩ : ∃ r2 E, gd xs1 = (r2, E) := ⟨_, _, rfl⟩
    rw [gt_got hrd hg] at hr
    injection hr with hr1 hr2
    injection hr2 with hr2 hr3
    subst hr1 hr3
    have GW := Lib.hid (gd_way xs1)
    rw [hg] at GW
    have HOK : Hid ((E == 0) = ok) := by show _ = _; rw [← hr2]; rfl
    clear hrd hg hr2
    go_enter Tryz.func87, Tryz.ntmps87
    go_wp2_with fail
    refine (Pn.log_yes p (sq : Int) _ (by omega) hs2 C3.out.1 C3.out.2.1 C3.out.2.2.1 C3.out.2.2.2).mono ?_; rintro e w1 ⟨rfl, b1⟩
    have B1 := Lib.hid (bthen (bthen (balloc w _) (balloc _ _)) b1)
    have Z1 := Lib.hid (kept_below (heap_at_next w (.cells #[.pointer (some ⟨D, 0, none⟩), .int .i64 p.a0, .int .i64 p.a1, .int .i64 p.a2, .int .i64 p.a3, .int .i64 p.a4, .int .i64 p.a5, .int .i64 p.a6, .int .i64 p.a7, .int .i64 p.a8, .int .i64 p.a9, .int .i64 p.a10, .int .i64 p.a11, .int .i64 p.a12] 99) (.cells #[.int .u64 0, .int .u64 0, .int .i64 0, .int .u64 0, .int .u8 0] 31)) b1)
    have Y1 := Lib.hid (kept_below (heap_alloc2_old w (.cells #[.pointer (some ⟨D, 0, none⟩), .int .i64 p.a0, .int .i64 p.a1, .int .i64 p.a2, .int .i64 p.a3, .int .i64 p.a4, .int .i64 p.a5, .int .i64 p.a6, .int .i64 p.a7, .int .i64 p.a8, .int .i64 p.a9, .int .i64 p.a10, .int .i64 p.a11, .int .i64 p.a12] 99) (.cells #[.int .u64 0, .int .u64 0, .int .i64 0, .int .u64 0, .int .u8 0] 31)) b1)
    have y1 : w1.cell? ⟨w.heap.size, 0, none⟩ = some (.pointer (some ⟨D, 0, none⟩)) := cell_of_row _ _ 0 _ _ _ Y1.out
    clear b1
    go_wp2_with fail
    refine (R1.out _ B1.out).mono ?_; rintro e w2 ⟨A1, l1, c1, rfl, o1, q1, q2, n1, p2, g2⟩
    have P2 := Lib.hid p2
    have O2 := Lib.hid o1
    have Q2 := Lib.hid (show l1 ≤ c1 ∧ l1 ≤ 64 from ⟨q1, q2⟩)
    have Z2 := Lib.hid (keep_new HF.out Z1.out g2 (Nat.le_succ _))
    have G2 := Lib.hid ((Chg.of_below (F := F) B1.out).trans g2 (fun _ _ x => x))
    have E2 := Lib.hid (env_chg HE.out G2.out HG.out)
    clear o1 q1 q2 n1 p2 g2 y1
    go_wp2_with fail
    refine (rcget_any A1 l1 c1 xs1 r2 E w2 (by have := Q2.out; omega) Q2.out.1 O2.out E2.out GW.out).mono ?_; rintro e w4 ⟨rfl, b4⟩
    have P4 := Lib.hid (P2.out.below (bthen b4 (balloc w4 (.cells #[.int .u64 0, .int .u64 0, .int .i64 0, .int .u64 0, .int .u8 0] 31))))
    have G4 := Lib.hid (G2.out.trans (Chg.of_below (F := F) (bthen b4 (balloc w4 (.cells #[.int .u64 0, .int .u64 0, .int .i64 0, .int .u64 0, .int .u8 0] 31)))) (fun _ _ x => x))
    have Z4 := Lib.hid (kept_below Z2.out (bthen b4 (balloc w4 (.cells #[.int .u64 0, .int .u64 0, .int .i64 0, .int .u64 0, .int .u8 0] 31))))
    have HL4 : Hid (w.heap.size + 1 < w4.heap.size ∧ w.heap.size ≤ w4.heap.size) := by show _ ∧ _; have := lt_of_heap Z2.out; have := b4.size; omega
    have tE := HOK.out
    clear b4
    go_wp2_with (first
      | ((with_reducible apply W.L_storeRow (N := 5) W.info_rc); exact rfl; exact rfl; exact heap_alloc_new _ _; exact rfl; exact rfl; (simp [Value.oneCell']); intro w5 h5 g5; have H5 := Lib.hid h5; have Z5 := Lib.hid (kept_by Z4.out g5 (by have := HL4.out; omega)); have P5 := Lib.hid (pd_new HF.out H.out.pw.lt P4.out g5 HL4.out.2); have G5 := Lib.hid (chg_new G4.out g5 HL4.out.2); clear h5 g5)
      | ((with_reducible apply W.L_loadRc); exact rfl; exact H5.out; exact rfl)
      | ((with_reducible apply W.L_storeRow (N := 5) W.info_rc); exact rfl; exact rfl; exact Z5.out; exact rfl; exact rfl; (simp [Value.oneCell']); intro w6 h6 g6; have H6 := Lib.hid h6; have P6 := Lib.hid (pd_new HF.out H.out.pw.lt P5.out g6 (Nat.le_succ _)); have G6 := Lib.hid (chg_new G5.out g6 (Nat.le_succ _)); clear h6 g6))
    refine bodyPost_ret (W.results_cell_tmp_row rfl _ _ _ _ rfl (run_loadVar_row _ _ _ _ _ _ _ H6.out Tryz.underlying31 rfl W.info_rc)) rfl ?_
    exact ⟨rfl, P6.out, G6.out⟩
  · rw [gt_err hrd h1] at hr
    injection hr with hr1 hr2
    injection hr2 with hr2 hr3
    subst hr1 hr2 hr3
    clear hrd
    go_enter Tryz.func87, Tryz.ntmps87
    go_wp2_with fail
    refine (Pn.log_yes p (sq : Int) _ (by omega) hs2 C3.out.1 C3.out.2.1 C3.out.2.2.1 C3.out.2.2.2).mono ?_; rintro e w1 ⟨rfl, b1⟩
    have B1 := Lib.hid (bthen (bthen (balloc w _) (balloc _ _)) b1)
    have Z1 := Lib.hid (kept_below (heap_at_next w (.cells #[.pointer (some ⟨D, 0, none⟩), .int .i64 p.a0, .int .i64 p.a1, .int .i64 p.a2, .int .i64 p.a3, .int .i64 p.a4, .int .i64 p.a5, .int .i64 p.a6, .int .i64 p.a7, .int .i64 p.a8, .int .i64 p.a9, .int .i64 p.a10, .int .i64 p.a11, .int .i64 p.a12] 99) (.cells #[.int .u64 0, .int .u64 0, .int .i64 0, .int .u64 0, .int .u8 0] 31)) b1)
    have Y1 := Lib.hid (kept_below (heap_alloc2_old w (.cells #[.pointer (some ⟨D, 0, none⟩), .int .i64 p.a0, .int .i64 p.a1, .int .i64 p.a2, .int .i64 p.a3, .int .i64 p.a4, .int .i64 p.a5, .int .i64 p.a6, .int .i64 p.a7, .int .i64 p.a8, .int .i64 p.a9, .int .i64 p.a10, .int .i64 p.a11, .int .i64 p.a12] 99) (.cells #[.int .u64 0, .int .u64 0, .int .i64 0, .int .u64 0, .int .u8 0] 31)) b1)
    have y1 : w1.cell? ⟨w.heap.size, 0, none⟩ = some (.pointer (some ⟨D, 0, none⟩)) := cell_of_row _ _ 0 _ _ _ Y1.out
    clear b1
    go_wp2_with fail
    refine (R1.out _ B1.out).mono ?_; rintro e w2 ⟨A1, l1, c1, rfl, o1, q1, q2, n1, p2, g2⟩
    have P2 := Lib.hid p2
    have Z2 := Lib.hid (keep_new HF.out Z1.out g2 (Nat.le_succ _))
    have G2 := Lib.hid ((Chg.of_below (F := F) B1.out).trans g2 (fun _ _ x => x))
    clear o1 q1 q2 n1 p2 g2 y1
    go_wp2_with ((with_reducible apply W.L_storeRow (N := 5) W.info_rc); exact rfl; exact rfl; exact Z2.out; exact rfl; exact rfl; (simp [Value.oneCell']); intro w6 h6 g6; have H6 := Lib.hid h6; have P6 := Lib.hid (pd_new HF.out H.out.pw.lt P2.out g6 (Nat.le_succ _)); have G6 := Lib.hid (chg_new G2.out g6 (Nat.le_succ _)); clear h6 g6)
    refine bodyPost_ret (W.results_cell_tmp_row rfl _ _ _ _ rfl (run_loadVar_row _ _ _ _ _ _ _ H6.out Tryz.underlying31 rfl W.info_rc)) rfl ?_
    exact ⟨rfl, P6.out, G6.out⟩
set_option maxHeartbeats 1000000 in
theorem write_no (hm : ¬ MayBe x) (D : Nat) (p : Pn.Pl) (w : World) :
    Calls Tryz.prog 47 #[(.agg #[.pointer (some ⟨D, 0, none⟩), .int .i64 p.a0, .int .i64 p.a1, .int .i64 p.a2, .int .i64 p.a3, .int .i64 p.a4, .int .i64 p.a5, .int .i64 p.a6, .int .i64 p.a7, .int .i64 p.a8, .int .i64 p.a9, .int .i64 p.a10, .int .i64 p.a11, .int .i64 p.a12]), (.agg #[.int .u64 (x.q : Int), .int .u64 (x.h : Int), .int .i64 x.x, .int .u64 (x.g : Int), .int .u8 (x.m.toNat : Int)])] w fun e w' => e = .returned (.int .i64 1) ∧ Below w.heap.size w w' := by
  have HM := Lib.hid hm
  clear hm
  go_enter Tryz.func47, Tryz.ntmps47
  go_wp2_with ((with_reducible apply W.L_loadRc); exact rfl; exact heap_at_next w (.cells #[.pointer (some ⟨D, 0, none⟩), .int .i64 p.a0, .int .i64 p.a1, .int .i64 p.a2, .int .i64 p.a3, .int .i64 p.a4, .int .i64 p.a5, .int .i64 p.a6, .int .i64 p.a7, .int .i64 p.a8, .int .i64 p.a9, .int .i64 p.a10, .int .i64 p.a11, .int .i64 p.a12] 99) (.cells #[.int .u64 (x.q : Int), .int .u64 (x.h : Int), .int .i64 x.x, .int .u64 (x.g : Int), .int .u8 (x.m.toNat : Int)] 31); exact rfl)
  refine (rcput_no x _ HM.out).mono ?_; rintro e w1 ⟨rfl, b1⟩
  have B1 := Lib.hid (bthen (bthen (balloc w (.cells #[.pointer (some ⟨D, 0, none⟩), .int .i64 p.a0, .int .i64 p.a1, .int .i64 p.a2, .int .i64 p.a3, .int .i64 p.a4, .int .i64 p.a5, .int .i64 p.a6, .int .i64 p.a7, .int .i64 p.a8, .int .i64 p.a9, .int .i64 p.a10, .int .i64 p.a11, .int .i64 p.a12] 99)) (balloc _ (.cells #[.int .u64 (x.q : Int), .int .u64 (x.h : Int), .int .i64 x.x, .int .u64 (x.g : Int), .int .u8 (x.m.toNat : Int)] 31))) b1)
  clear b1
  go_wp2
  go_ret
  exact ⟨rfl, B1.out⟩
set_option maxHeartbeats 1000000 in
theorem write_any (h : PD w F D q n N m) (he : Env w) (hp : Pln p la lg n) (hN : N + 1 ≤ 1000000) (hm : MayBe x) :
    Calls Tryz.prog 47 #[(.agg #[.pointer (some ⟨D, 0, none⟩), .int .i64 p.a0, .int .i64 p.a1, .int .i64 p.a2, .int .i64 p.a3, .int .i64 p.a4, .int .i64 p.a5, .int .i64 p.a6, .int .i64 p.a7, .int .i64 p.a8, .int .i64 p.a9, .int .i64 p.a10, .int .i64 p.a11, .int .i64 p.a12]), (.agg #[.int .u64 (x.q : Int), .int .u64 (x.h : Int), .int .i64 x.x, .int .u64 (x.g : Int), .int .u8 (x.m.toNat : Int)])] w fun e w' => e = .returned (.int .i64 (wr1 m (la + x.q % lg) (sect x)).1) ∧ PD w' (Ext F w w') D q n (N + 1) (wr1 m (la + x.q % lg) (sect x)).2 ∧ Chg (Al F q) w w' := by
  have H := Lib.hid h
  have HE := Lib.hid he
  obtain ⟨s1, s2⟩ := spot_lt hp x.q
  have S1 := Lib.hid s1
  have S2 := Lib.hid s2
  have C3 : Hid (0 < p.a7 ∧ p.a7 ≤ 100000 ∧ 0 ≤ p.a6 ∧ p.a6 ≤ 100000) := by show _ ∧ _; rw [hp.h6, hp.h7]; have := hp.hn; have := hp.hn2; have := hp.hl; omega
  have HM := Lib.hid hm
  have hq64 : (x.q : Int) ≤ 18446744073709551615 := by have : x.q ≤ 4611686018427387904 := hm.1; omega
  have Q64 := Lib.hid hq64
  clear h he s1 s2 hm hp hq64
  go_enter Tryz.func47, Tryz.ntmps47
  go_wp2_with ((with_reducible apply W.L_loadRc); exact rfl; exact heap_at_next w (.cells #[.pointer (some ⟨D, 0, none⟩), .int .i64 p.a0, .int .i64 p.a1, .int .i64 p.a2, .int .i64 p.a3, .int .i64 p.a4, .int .i64 p.a5, .int .i64 p.a6, .int .i64 p.a7, .int .i64 p.a8, .int .i64 p.a9, .int .i64 p.a10, .int .i64 p.a11, .int .i64 p.a12] 99) (.cells #[.int .u64 (x.q : Int), .int .u64 (x.h : Int), .int .i64 x.x, .int .u64 (x.g : Int), .int .u8 (x.m.toNat : Int)] 31); exact rfl)
  refine (rcput_ok x _ HM.out (HE.out.below (bthen (balloc w (.cells #[.pointer (some ⟨D, 0, none⟩), .int .i64 p.a0, .int .i64 p.a1, .int .i64 p.a2, .int .i64 p.a3, .int .i64 p.a4, .int .i64 p.a5, .int .i64 p.a6, .int .i64 p.a7, .int .i64 p.a8, .int .i64 p.a9, .int .i64 p.a10, .int .i64 p.a11, .int .i64 p.a12] 99)) (balloc _ (.cells #[.int .u64 (x.q : Int), .int .u64 (x.h : Int), .int .i64 x.x, .int .u64 (x.g : Int), .int .u8 (x.m.toNat : Int)] 31))))).mono ?_; rintro e w2 ⟨v2, rfl, o2, b2⟩
  obtain ⟨A2, c2, rfl, l2, s2⟩ := o2.form (sect_length x)
  have B2 := Lib.hid (bthen (bthen (balloc w (.cells #[.pointer (some ⟨D, 0, none⟩), .int .i64 p.a0, .int .i64 p.a1, .int .i64 p.a2, .int .i64 p.a3, .int .i64 p.a4, .int .i64 p.a5, .int .i64 p.a6, .int .i64 p.a7, .int .i64 p.a8, .int .i64 p.a9, .int .i64 p.a10, .int .i64 p.a11, .int .i64 p.a12] 99)) (balloc _ (.cells #[.int .u64 (x.q : Int), .int .u64 (x.h : Int), .int .i64 x.x, .int .u64 (x.g : Int), .int .u8 (x.m.toNat : Int)] 31))) b2)
  have S3 := Lib.hid s2
  have G2 : Hid (∀ b off, A2 = some ⟨b, off, none⟩ → w.heap.size ≤ b ∧ b < w2.heap.size) := fun b off e => by
    have h2 := o2.ge b (by rw [e]; rfl)
    refine ⟨?_, h2.2⟩
    have := h2.1
    simp at this
    omega
  have X2 := Lib.hid (kept_below (heap_at_next w (.cells #[.pointer (some ⟨D, 0, none⟩), .int .i64 p.a0, .int .i64 p.a1, .int .i64 p.a2, .int .i64 p.a3, .int .i64 p.a4, .int .i64 p.a5, .int .i64 p.a6, .int .i64 p.a7, .int .i64 p.a8, .int .i64 p.a9, .int .i64 p.a10, .int .i64 p.a11, .int .i64 p.a12] 99) (.cells #[.int .u64 (x.q : Int), .int .u64 (x.h : Int), .int .i64 x.x, .int .u64 (x.g : Int), .int .u8 (x.m.toNat : Int)] 31)) b2)
  have Y2 := Lib.hid (kept_below (heap_alloc2_old w (.cells #[.pointer (some ⟨D, 0, none⟩), .int .i64 p.a0, .int .i64 p.a1, .int .i64 p.a2, .int .i64 p.a3, .int .i64 p.a4, .int .i64 p.a5, .int .i64 p.a6, .int .i64 p.a7, .int .i64 p.a8, .int .i64 p.a9, .int .i64 p.a10, .int .i64 p.a11, .int .i64 p.a12] 99) (.cells #[.int .u64 (x.q : Int), .int .u64 (x.h : Int), .int .i64 x.x, .int .u64 (x.g : Int), .int .u8 (x.m.toNat : Int)] 31)) b2)
  have x0 : w2.cell? ⟨w.heap.size + 1, 0, none⟩ = some (.int .u64 (x.q : Int)) := cell_of_row _ _ 0 _ _ _ X2.out
  have CY : Hid (∀ y : World, y.heap[w.heap.size]? = some (.cells #[.pointer (some ⟨D, 0, none⟩), .int .i64 p.a0, .int .i64 p.a1, .int .i64 p.a2, .int .i64 p.a3, .int .i64 p.a4, .int .i64 p.a5, .int .i64 p.a6, .int .i64 p.a7, .int .i64 p.a8, .int .i64 p.a9, .int .i64 p.a10, .int .i64 p.a11, .int .i64 p.a12] 99 (0, 0)) → ∀ j v, (#[.pointer (some ⟨D, 0, none⟩), .int .i64 p.a0, .int .i64 p.a1, .int .i64 p.a2, .int .i64 p.a3, .int .i64 p.a4, .int .i64 p.a5, .int .i64 p.a6, .int .i64 p.a7, .int .i64 p.a8, .int .i64 p.a9, .int .i64 p.a10, .int .i64 p.a11, .int .i64 p.a12] : Array Value)[j]? = some v → y.cell? ⟨w.heap.size, j, none⟩ = some v) := fun y hy j v hv => by rw [cell_of_row _ _ _ _ _ _ hy]; exact hv
  have y1 := CY.out _ Y2.out 1 _ rfl
  have y2 := CY.out _ Y2.out 2 _ rfl
  have y3 := CY.out _ Y2.out 3 _ rfl
  have y4 := CY.out _ Y2.out 4 _ rfl
  have y5 := CY.out _ Y2.out 5 _ rfl
  have y6 := CY.out _ Y2.out 6 _ rfl
  have y7 := CY.out _ Y2.out 7 _ rfl
  have y8 := CY.out _ Y2.out 8 _ rfl
  have y9 := CY.out _ Y2.out 9 _ rfl
  have y10 := CY.out _ Y2.out 10 _ rfl
  have y11 := CY.out _ Y2.out 11 _ rfl
  have y12 := CY.out _ Y2.out 12 _ rfl
  have y13 := CY.out _ Y2.out 13 _ rfl
  clear o2 b2 s2
  go_wp2_with fail
  refine (Pn.log_yes p (x.q : Int) _ (by omega) Q64.out C3.out.1 C3.out.2.1 C3.out.2.2.1 C3.out.2.2.2).mono ?_; rintro e w3 ⟨rfl, b3⟩
  have B3 := Lib.hid (bthen B2.out b3)
  have Y3 := Lib.hid (kept_below Y2.out b3)
  have S4 := Lib.hid (S3.out.below b3)
  have H3 := Lib.hid (H.out.below B3.out)
  have G3 : Hid (∀ b off, A2 = some ⟨b, off, none⟩ → ¬ Al F q b) := fun b off e hb => by
    have h1 := H.out.bound b hb
    have h2 := (G2.out b off e).1
    omega
  clear b3 x0 y1 y2 y3 y4 y5 y6 y7 y8 y9 y10 y11 y12 y13
  have y0 : w3.cell? ⟨w.heap.size, 0, none⟩ = some (.pointer (some ⟨D, 0, none⟩)) := cell_of_row _ _ 0 _ _ _ Y3.out
  go_wp2_with fail
  rw [← S2.out]
  refine (H3.out.write (c := c2) hN (la + x.q % lg) S1.out S4.out G3.out).mono ?_; rintro e w4 ⟨rfl, p3, c3⟩
  have P3 := Lib.hid p3
  have C4 := Lib.hid c3
  clear p3 c3 y0
  go_wp2
  go_ret
  exact ⟨rfl, H.out.from_ B3.out.size C4.out.size P3.out, (Chg.of_below (F := Al F q) B3.out).trans C4.out (fun _ _ x => x)⟩
end
end Go.Proofs.YtikbbikcacoobaaGreatDoor.Pd.Iv

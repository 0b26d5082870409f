/-
  Elder texts, one behind the other: SlRead, SlOpen, SlOpen2, SlInv. No conditions.
-/
import Derived.Test.YtapklelkcicjlaaGreatDoorKSa
import Derived.OwnWalk
/-! Read. No conditions. -/
namespace Go.Proofs.YtapklelkcicjlaaGreatDoor.Pd.Sl
set_option maxRecDepth 100000
open Go.RowKit Oc Dm W Dw Sr Gt W.Hd
set_option linter.unusedVariables false
set_option maxRecDepth 100000
attribute [local go_sem ↓] Go.wp_at_zero Go.wp_at_succ
section
variable {w w' : World} {F : Nat → Prop} {D q n N t g la ns i : Nat} {m m1 m2 : Vs} {p : Pn.Pl} {L : List Slt} {v1 v2 : Int} {xs1 xs2 : List UInt8}
theorem chg_below {F : Nat → Prop} {a b c : World} (h : Chg F a b) (hb : Below b.heap.size b c) : Chg F a c := h.trans (Chg.of_below (F := F) hb) (fun _ _ x => x)
theorem below_chg {F : Nat → Prop} {a b c : World} (hb : Below a.heap.size a b) (h : Chg F b c) : Chg F a c := (Chg.of_below (F := F) hb).trans h (fun _ _ x => x)
theorem PD.read' (h : PD w F D q n N m) (i : Nat) (hi : i < n) (e1 : rd1 m i = (v1, xs1, m1)) : Calls Tryz.prog 118 #[.pointer (some ⟨D, 0, none⟩), .int .i64 (i : Int)] w fun e w' => ∃ A l c, e = .returned (.tuple #[.slice A l c, .int .i64 v1]) ∧ Oct w' A l xs1 ∧ l ≤ c ∧ l ≤ 64 ∧ (∀ b off, 0 < l → A = some ⟨b, off, none⟩ → w.heap.size ≤ b) ∧ PD w' F D q n N m1 ∧ Chg F w w' := by
  have h0 := h.read i hi
  rw [e1] at h0
  exact h0
set_option maxHeartbeats 4000000 in
theorem both_1 (h : PD w F D q n N m) (hp : Pln p la ns n) (hi : i < ns) (e1 : rd1 m (la + 2 * i) = (v1, xs1, m1)) (hv : ¬ v1 = 0) :
    Calls Tryz.prog 81 #[(.agg #[.pointer (some ⟨D, 0, none⟩), .int .i64 p.a0, .int .i64 p.a1, .int .i64 p.a2, .int .i64 p.a3, .int .i64 p.a4, .int .i64 p.a5, .int .i64 p.a6, .int .i64 p.a7, .int .i64 p.a8, .int .i64 p.a9, .int .i64 p.a10, .int .i64 p.a11, .int .i64 p.a12]), .int .i64 (i : Int)] w fun e w' => e = .returned (.tuple #[.slice none 0 0, .slice none 0 0, .int .i64 v1]) ∧ PD w' F D q n N m1 ∧ Chg F w w' := by
  have H := Lib.hid h
  have HP := Lib.hid hp
  have HI := Lib.hid hi
  have E1 := Lib.hid e1
  clear h hp hi e1
  go_enter Tryz.func81, Tryz.ntmps81
  go_wp2_with fail
  refine (slot_any HP.out i HI.out _).mono ?_; rintro e w1 ⟨rfl, b1⟩
  have B1 : Hid (Below w.heap.size w w1) := bthen (balloc w (.cells #[.pointer (some ⟨D, 0, none⟩), .int .i64 p.a0, .int .i64 p.a1, .int .i64 p.a2, .int .i64 p.a3, .int .i64 p.a4, .int .i64 p.a5, .int .i64 p.a6, .int .i64 p.a7, .int .i64 p.a8, .int .i64 p.a9, .int .i64 p.a10, .int .i64 p.a11, .int .i64 p.a12] 84)) b1
  have Y1 : Hid (PBox w1 w.heap.size D p) := kept_below (heap_alloc_new w (.cells #[.pointer (some ⟨D, 0, none⟩), .int .i64 p.a0, .int .i64 p.a1, .int .i64 p.a2, .int .i64 p.a3, .int .i64 p.a4, .int .i64 p.a5, .int .i64 p.a6, .int .i64 p.a7, .int .i64 p.a8, .int .i64 p.a9, .int .i64 p.a10, .int .i64 p.a11, .int .i64 p.a12] 84)) b1
  have y1 := Y1.out.dev
  clear b1
  go_wp2_with fail
  refine (PD.read' (H.out.below B1.out) (la + 2 * i) (by have := HP.out.hn; have := HI.out; omega) E1.out).mono ?_; rintro e w2 ⟨A1, l1, c1, rfl, o1, q1, q2, n1, p2, g2⟩
  have P2 := Lib.hid p2
  have G2 := Lib.hid (below_chg B1.out g2)
  clear o1 q1 q2 n1 p2 g2 y1
  go_wp2
  go_ret3
  exact ⟨rfl, P2.out, G2.out⟩
/-- what both hands back, the first read being whole -/
def BothTold (w : World) (v2 : Int) (xs1 xs2 : List UInt8) (e : Ending) (w' : World) : Prop := (¬ v2 = 0 ∧ e = .returned (.tuple #[.slice none 0 0, .slice none 0 0, .int .i64 v2])) ∨ (v2 = 0 ∧ ∃ A1 l1 c1 A2 l2 c2, e = .returned (.tuple #[.slice A1 l1 c1, .slice A2 l2 c2, .int .i64 0]) ∧ Oct w' A1 l1 xs1 ∧ l1 ≤ c1 ∧ l1 ≤ 64 ∧ Oct w' A2 l2 xs2 ∧ l2 ≤ c2 ∧ l2 ≤ 64 ∧ (∀ b off, 0 < l2 → A2 = some ⟨b, off, none⟩ → w.heap.size ≤ b))
set_option maxHeartbeats 4000000 in
theorem both_2 (h : PD w F D q n N m) (hp : Pln p la ns n) (hi : i < ns) (e1 : rd1 m (la + 2 * i) = (0, xs1, m1)) (e2 : rd1 m1 (la + 2 * i + 1) = (v2, xs2, m2)) :
    Calls Tryz.prog 81 #[(.agg #[.pointer (some ⟨D, 0, none⟩), .int .i64 p.a0, .int .i64 p.a1, .int .i64 p.a2, .int .i64 p.a3, .int .i64 p.a4, .int .i64 p.a5, .int .i64 p.a6, .int .i64 p.a7, .int .i64 p.a8, .int .i64 p.a9, .int .i64 p.a10, .int .i64 p.a11, .int .i64 p.a12]), .int .i64 (i : Int)] w fun e w' => BothTold w v2 xs1 xs2 e w' ∧ PD w' F D q n N m2 ∧ Chg F w w' := by
  have H := Lib.hid h
  have HP := Lib.hid hp
  have HI := Lib.hid hi
  have E1 := Lib.hid e1
  have E2 := Lib.hid e2
  have HF : Hid (∀ k, F k → k < w.heap.size) := fun k x => h.bound k (.inl x)
  clear h hp hi e1 e2
  go_enter Tryz.func81, Tryz.ntmps81
  go_wp2_with fail
  refine (slot_any HP.out i HI.out _).mono ?_; rintro e w1 ⟨rfl, b1⟩
  have B1 : Hid (Below w.heap.size w w1) := bthen (balloc w (.cells #[.pointer (some ⟨D, 0, none⟩), .int .i64 p.a0, .int .i64 p.a1, .int .i64 p.a2, .int .i64 p.a3, .int .i64 p.a4, .int .i64 p.a5, .int .i64 p.a6, .int .i64 p.a7, .int .i64 p.a8, .int .i64 p.a9, .int .i64 p.a10, .int .i64 p.a11, .int .i64 p.a12] 84)) b1
  have Y1 : Hid (PBox w1 w.heap.size D p) := kept_below (heap_alloc_new w (.cells #[.pointer (some ⟨D, 0, none⟩), .int .i64 p.a0, .int .i64 p.a1, .int .i64 p.a2, .int .i64 p.a3, .int .i64 p.a4, .int .i64 p.a5, .int .i64 p.a6, .int .i64 p.a7, .int .i64 p.a8, .int .i64 p.a9, .int .i64 p.a10, .int .i64 p.a11, .int .i64 p.a12] 84)) b1
  have y1 := Y1.out.dev
  clear b1
  go_wp2_with fail
  refine (PD.read' (H.out.below B1.out) (la + 2 * i) (by have := HP.out.hn; have := HI.out; omega) E1.out).mono ?_; rintro e w2 ⟨A1, l1, c1, rfl, o1, q1, q2, n1, p2, g2⟩
  have P2 := Lib.hid p2
  have G2 := Lib.hid (below_chg B1.out g2)
  have O2 := Lib.hid o1
  have Q2 : Hid (l1 ≤ c1 ∧ l1 ≤ 64) := ⟨q1, q2⟩
  have N2 : Hid (∀ b off, 0 < l1 → A1 = some ⟨b, off, none⟩ → w.heap.size ≤ b) := fun b off h0 e => Nat.le_trans B1.out.size (n1 b off h0 e)
  have Y2 : Hid (PBox w2 w.heap.size D p) := keep_new HF.out Y1.out g2 (Nat.le_refl _)
  have y2 := Y2.out.dev
  have H2s : Hid (w.heap.size ≤ w2.heap.size) := G2.out.size
  clear o1 q1 q2 n1 p2 g2 y1
  go_wp2_with fail
  refine (PD.read' P2.out (la + 2 * i + 1) (by have := HP.out.hn; have := HI.out; omega) E2.out).mono ?_; rintro e w3 ⟨A2, l2, c2, rfl, o1, q1, q2, n1, p2, g2⟩
  have P3 := Lib.hid p2
  have G3 := Lib.hid (G2.out.trans g2 (fun _ _ x => x))
  have O3 := Lib.hid o1
  have Q3 : Hid (l2 ≤ c2 ∧ l2 ≤ 64) := ⟨q1, q2⟩
  have O4 : Hid (Oct w3 A1 l1 xs1) := oct_new HF.out O2.out g2 N2.out
  have N3 : Hid (∀ b off, 0 < l2 → A2 = some ⟨b, off, none⟩ → w.heap.size ≤ b) := fun b off h0 e => Nat.le_trans H2s.out (n1 b off h0 e)
  clear o1 q1 q2 n1 p2 g2 y2
  by_cases hv : v2 = 0
  · subst hv
    go_wp2
    go_ret3
    exact ⟨.inr ⟨rfl, _, _, _, _, _, _, rfl, O4.out, Q2.out.1, Q2.out.2, O3.out, Q3.out.1, Q3.out.2, N3.out⟩, P3.out, G3.out⟩
  · go_wp2
    go_ret3
    exact ⟨.inl ⟨hv, rfl⟩, P3.out, G3.out⟩
/-- what Read hands back -/
def RdTold (w : World) (F : Nat → Prop) (D q n N t g : Nat) (p : Pn.Pl) (L : List Slt) (R : (List UInt8 × Nat × Int) × Vs) (e : Ending) (w' : World) : Prop :=
  (∃ A l c, e = .returned (.tuple #[.slice A l c, .int .u64 (R.1.2.1 : Int), .int .i64 R.1.2.2]) ∧ Oct w' A l R.1.1 ∧ l ≤ c ∧ l ≤ 64 ∧ (∀ b off, 0 < l → A = some ⟨b, off, none⟩ → w.heap.size ≤ b)) ∧ PD w' F D q n N R.2 ∧ SlAt w' t g D p L ∧ Chg F w w'
theorem told_nil {w : World} {R : (List UInt8 × Nat × Int) × Vs} {v : Int} {m' : Vs} (hR : R = (([], 0, v), m')) (hp : PD w' F D q n N m') (hs : SlAt w t g D p L) (h1 : ¬ F t) (h2 : ¬ F g) (hc : Chg F w w') : RdTold w F D q n N t g p L R (.returned (.tuple #[.slice none 0 0, .int .u64 0, .int .i64 v])) w' := by
  subst hR
  exact ⟨⟨none, 0, 0, rfl, Oct.nil _ _, Nat.le_refl _, by decide, fun _ _ h => absurd h (Nat.lt_irrefl _)⟩, hp, hs.kept hc h1 h2, hc⟩
set_option maxHeartbeats 8000000 in
theorem read_any (h : PD w F D q n N m) (hs : SlAt w t g D p L) (h1 : ¬ F t) (h2 : ¬ F g) (he : EBl w F q g) (hp : Pln p la ns n) (hL : L.length = ns) (z b : Int) (R : (List UInt8 × Nat × Int) × Vs) (hR : readS la z b L m = R) :
    Calls Tryz.prog 24 #[.pointer (some ⟨t, 0, none⟩), .int .i64 z, .int .i64 b] w (RdTold w F D q n N t g p L R) := by
  have H := Lib.hid h
  have HS := Lib.hid hs
  have H1 := Lib.hid h1
  have H2 := Lib.hid h2
  have HE := Lib.hid he
  have HP := Lib.hid hp
  by_cases hz : hasZ L z
  · have HZ := Lib.hid hz
    obtain ⟨i, rfl, hi, hg⟩ := has_get hz
    have HI : Hid (i < ns) := by show _ < _; omega
    obtain ⟨v1, xs1, m1, e1⟩ : ∃ v1 xs1 m1, rd1 m (la + 2 * i) = (v1, xs1, m1) := ⟨_, _, _, rfl⟩
    have E1 := Lib.hid e1
    unfold readS at hR
    rw [if_neg (fun x => x hz)] at hR
    dsimp only at hR
    rw [show ((i : Int)).toNat = i from rfl, e1] at hR
    by_cases hv1 : v1 = 0
    · rw [if_neg (fun x => x hv1)] at hR
      subst hv1
      obtain ⟨v2, xs2, m2, e2⟩ : ∃ v2 xs2 m2, rd1 m1 (la + 2 * i + 1) = (v2, xs2, m2) := ⟨_, _, _, rfl⟩
      have E2 := Lib.hid e2
      dsimp only at hR
      rw [e2] at hR
      have HR := Lib.hid hR
      have hpl := hs.place
      have HPL := Lib.hid hpl
      clear h hs h1 h2 he hp hL hz hg hR e1 e2 hpl
      go_enter Tryz.func24, Tryz.ntmps24
      go_wp2_with fail
      refine (find_yes HS.out HZ.out).mono ?_; rintro e w' ⟨rfl, rfl⟩
      go_wp2_with ((with_reducible apply L_ld); exact rfl; exact HPL.out)
      refine (both_2 H.out HP.out HI.out E1.out E2.out).mono ?_; rintro e w1 ⟨ho, p1, c1⟩
      have P1 := Lib.hid p1
      have C1 := Lib.hid c1
      clear p1 c1
      rcases ho with ⟨hv2, rfl⟩ | ⟨rfl, A1, l1, cc1, A2, l2, cc2, rfl, o1, q1, q2, o2, q3, q4, n2⟩
      · go_wp2
        go_ret3
        exact told_nil (by have := HR.out; rw [if_pos hv2] at this; exact this.symm) P1.out HS.out H1.out H2.out C1.out
      · have O1 := Lib.hid o1
        have O2 := Lib.hid o2
        have Q1 : Hid (l1 ≤ cc1 ∧ l1 ≤ 64) := ⟨q1, q2⟩
        have Q2 : Hid (l2 ≤ cc2 ∧ l2 ≤ 64) := ⟨q3, q4⟩
        have N2 := Lib.hid n2
        have HR2 : Hid ((if (hg xs1).2 ≠ 0 then (([], 0, 40), m2) else if mt (hg xs1).1.u (hg xs1).1.l ((hg xs1).1.s.toNat : Int) b (sum xs2) ≠ 0 then (([], 0, mt (hg xs1).1.u (hg xs1).1.l ((hg xs1).1.s.toNat : Int) b (sum xs2)), m2) else ((xs2, (hg xs1).1.g, 0), m2)) = R) := by
          have := HR.out
          rw [if_neg (fun x => x rfl)] at this
          exact this
        have GW := Lib.hid (hg_way xs1)
        obtain ⟨hh, E, hgq⟩ : ∃ hh E, Sl.hg xs1 = (hh, E) := ⟨_, _, rfl⟩
        rw [hgq] at GW HR2
        have EV : Hid (EnvH w1) := HE.out.chg (C1.out.mono (fun _ _ x => .inl (.inl x)))
        clear o1 q1 q2 o2 q3 q4 n2 HR hgq
        go_wp2_with fail
        refine (hget_any A1 l1 cc1 xs1 hh E w1 (by have := Q1.out.2; omega) Q1.out.1 O1.out EV.out GW.out).mono ?_; rintro e w2 ⟨rfl, b2⟩
        have P2 := Lib.hid (P1.out.below b2)
        have C2 := Lib.hid (chg_below C1.out b2)
        have O3 := Lib.hid (O2.out.below b2)
        have EV2 := Lib.hid (EV.out.below b2)
        clear b2 EV GW O1 O2
        by_cases hE : E = 0
        · subst hE
          have MW := Lib.hid (mt_way hh.u hh.l (hh.s.toNat : Int) b (sum xs2))
          have HR3 := Lib.hid HR2.out
          rw [if_neg (fun x => x rfl)] at HR3
          generalize mt hh.u hh.l (hh.s.toNat : Int) b (sum xs2) = E3 at MW HR3
          go_wp2_with (first
            | ((with_reducible apply L_storeRow (N := 5) info_hd); exact rfl; exact rfl; exact heap_alloc_new _ _; exact rfl; exact rfl; (simp [Value.oneCell']); intro w4 h4 g4; have H4 := Lib.hid h4; have B4 : Hid (Below w2.heap.size w2 w4) := (balloc w2 (.cells #[.bool false, .int .i64 0, .int .u64 0, .int .u32 0, .int .u32 0] 32)).grown g4 (by simp) (fun k e => by injection e with e; omega); clear h4 g4)
            | ((with_reducible apply L_loadHd); exact rfl; exact H4.out; exact rfl))
          refine (matches_any A2 l2 cc2 xs2 hh.u hh.l (hh.g : Int) (hh.s.toNat : Int) (hh.r.toNat : Int) b E3 (sum xs2) w4 (by have := Q2.out.2; omega) (O3.out.below B4.out) (EV2.out.below B4.out).1 rfl MW.out).mono ?_; rintro e w5 ⟨rfl, b5⟩
          have B5 := Lib.hid (bthen B4.out b5)
          have P5 := Lib.hid (P2.out.below B5.out)
          have C5 := Lib.hid (chg_below C2.out B5.out)
          have O5 := Lib.hid (O3.out.below B5.out)
          have H5 := Lib.hid (kept_below H4.out b5)
          clear b5
          by_cases hE3 : E3 = 0
          · subst hE3
            have HR4 := Lib.hid HR3.out
            rw [if_neg (fun x => x rfl)] at HR4
            have x2 : w5.cell? ⟨w2.heap.size, 2, none⟩ = some (.int .u64 (hh.g : Int)) := by rw [cell_of_row _ _ _ _ _ _ H5.out]; rfl
            go_upto_region 13 with fail
            go_quiet (fail)
            go_wp2
            go_ret3
            rw [← HR4.out]
            exact ⟨⟨A2, l2, cc2, rfl, O5.out.drewN _, Q2.out.1, Q2.out.2, N2.out⟩, P5.out.drewN _, (HS.out.kept C5.out H1.out H2.out).below ⟨rfl, rfl, rfl, Nat.le_refl _, fun _ _ => rfl⟩, chg_below C5.out ⟨rfl, rfl, rfl, Nat.le_refl _, fun _ _ => rfl⟩⟩
          · go_wp2
            go_ret3
            exact told_nil (by have := HR3.out; rw [if_pos hE3] at this; exact this.symm) P5.out HS.out H1.out H2.out C5.out
        · go_wp2_with ((with_reducible apply L_storeRow (N := 5) info_hd); exact rfl; exact rfl; exact heap_alloc_new _ _; exact rfl; exact rfl; (simp [Value.oneCell']); intro w4 h4 g4; have B4 : Hid (Below w2.heap.size w2 w4) := (balloc w2 (.cells #[.bool false, .int .i64 0, .int .u64 0, .int .u32 0, .int .u32 0] 32)).grown g4 (by simp) (fun k e => by injection e with e; omega); clear h4 g4)
          go_ret3
          exact told_nil (by have := HR2.out; rw [if_pos hE] at this; exact this.symm) (P2.out.below B4.out) HS.out H1.out H2.out (chg_below C2.out B4.out)
    · rw [if_pos hv1] at hR
      have HR := Lib.hid hR
      have HPL := Lib.hid hs.place
      clear h hs h1 h2 he hp hL hz hg hR e1
      go_enter Tryz.func24, Tryz.ntmps24
      go_wp2_with fail
      refine (find_yes HS.out HZ.out).mono ?_; rintro e w' ⟨rfl, rfl⟩
      go_wp2_with ((with_reducible apply L_ld); exact rfl; exact HPL.out)
      refine (both_1 H.out HP.out HI.out E1.out hv1).mono ?_; rintro e w1 ⟨rfl, p1, c1⟩
      have P1 := Lib.hid p1
      have C1 := Lib.hid c1
      clear p1 c1
      go_wp2
      go_ret3
      exact told_nil HR.out.symm P1.out HS.out H1.out H2.out C1.out
  · have HR : Hid (R = (([], 0, 3), m)) := by show _ = _; rw [← hR]; unfold readS; rw [if_pos hz]
    have HZ := Lib.hid hz
    clear h hs h1 h2 he hp hL hz hR
    go_enter Tryz.func24, Tryz.ntmps24
    go_wp2_with fail
    refine (find_no HS.out HZ.out).mono ?_; rintro e w' ⟨rfl, rfl⟩
    go_wp2
    go_ret3
    exact told_nil HR.out H.out HS.out H1.out H2.out (Chg.refl _ _)
end
end Go.Proofs.YtapklelkcicjlaaGreatDoor.Pd.Sl

/-! check, wornTo, Open. No conditions. -/
namespace Go.Proofs.YtapklelkcicjlaaGreatDoor.Pd.Sl
set_option maxRecDepth 100000
open Go.RowKit Oc Dm W Dw Sr Gt W.Hd
set_option linter.unusedVariables false
set_option maxRecDepth 100000
attribute [local go_sem ↓] Go.wp_at_zero Go.wp_at_succ

theorem wp_append_S2 {P : Program} {e k B : Nat} {c : List Value} {l : List (List Value)} {wr : World} {o : Oper} {a : Act} {K : Act → World → Prop} {Q : Exit → Act → World → Prop} (s x : Operand) (t : TypeId) (ho : o.op = .call { callee := .builtin .append, args := #[s, x], argTypes := #[t, t] }) {bytes : Nat} (hT : ElK P t e k bytes)
    {v : Value} (hs : a.eval s = v) (hown : OwnS wr e k B v l) (hB : B ≤ wr.heap.size) (cp : Nat) {cs : Array Value} {T : TypeId} (hx : a.eval x = .slice (some ⟨wr.heap.size, 0, none⟩) 1 cp) (hcs : cs.toList = c) (hc : c.length = k) (h1 : ∀ u ∈ c, u.oneCell' = true) (hl : l.length + 1 ≤ 1000000)
    (hK : ∀ v' w', OwnS w' e k B v' (l ++ [c]) → wr.grownBy w' v.ownBlock → K (a.put o.dst v') w') : Oper.wp P o a (wr.alloc (.cells cs T)) K Q := by
  obtain ⟨v', w', hrun, h2, h3, h4⟩ := run_append_S (P := P) (w := wr.alloc (.cells cs T)) (ty := o.type) (us := [c]) (m := 1) (ad := ⟨wr.heap.size, 0, none⟩) cp hT (hown.alloc _) (Fits.one hc h1) rfl (fun j u hu => by
    rw [Go.WideShapes.add_plain, Nat.zero_add, cell_of_row _ _ _ _ _ _ (heap_alloc_new wr (.cells cs T))]
    rw [List.flatten_cons, List.flatten_nil, List.append_nil, ← hcs] at hu
    simpa using hu) hl (Nat.le_trans hB (by simp))
  unfold Oper.wp execOp
  simp only [ho, resolve, invoke, builtin, Sem.run_bind, Sem.run_pure, Result.andThen_ok, List.map_toArray, List.map_cons, List.map_nil, hs, hx, hrun]
  have g0 : wr.grownBy (wr.alloc (.cells cs T)) v.ownBlock := World.grownBy_alloc wr _ _
  exact hK v' w' h2 (g0.trans h3)
theorem st_elk : ElK Tryz.prog 85 114 2 16 := by
  refine ⟨Tryz.underlying85, ?_, by decide, by decide⟩
  have h : (Tryz.prog.info? 114).map (fun i => (i.zero, i.size, i.bytes)) = some (some (.agg #[.int .i64 0, .int .u32 0]), 2, 16) := by kernel_rfl
  obtain ⟨i, hi, hz0, hz1, hz2⟩ := info_parts h
  exact ⟨i, _, hi, hz0, hz1, hz2, rfl⟩
theorem st_place {w : World} {t D : Nat} {p : Pn.Pl} {v : Value} {T : TypeId} (h : w.heap[t]? = some (.cells (stC D p v) T (0, 0))) : (Instr.loadAt 84 (.pointer (some ⟨t, 0, none⟩))).run Tryz.prog w = .ok (.agg #[.pointer (some ⟨D, 0, none⟩), .int .i64 p.a0, .int .i64 p.a1, .int .i64 p.a2, .int .i64 p.a3, .int .i64 p.a4, .int .i64 p.a5, .int .i64 p.a6, .int .i64 p.a7, .int .i64 p.a8, .int .i64 p.a9, .int .i64 p.a10, .int .i64 p.a11, .int .i64 p.a12]) w := by
  refine run_load_cells (cs := [.pointer (some ⟨D, 0, none⟩), .int .i64 p.a0, .int .i64 p.a1, .int .i64 p.a2, .int .i64 p.a3, .int .i64 p.a4, .int .i64 p.a5, .int .i64 p.a6, .int .i64 p.a7, .int .i64 p.a8, .int .i64 p.a9, .int .i64 p.a10, .int .i64 p.a11, .int .i64 p.a12]) Tryz.underlying84 rfl info_place rfl (fun j v hv => ?_)
  rw [Nat.zero_add, cell_of_row w t _ _ _ _ h]
  have hj : j < 14 := by
    rcases Nat.lt_or_ge j 14 with h | h
    · exact h
    · rw [List.getElem?_eq_none (by simpa using h)] at hv; cases hv
  match j, hj, hv with
  | 0, _, hv => exact hv
  | 1, _, hv => exact hv
  | 2, _, hv => exact hv
  | 3, _, hv => exact hv
  | 4, _, hv => exact hv
  | 5, _, hv => exact hv
  | 6, _, hv => exact hv
  | 7, _, hv => exact hv
  | 8, _, hv => exact hv
  | 9, _, hv => exact hv
  | 10, _, hv => exact hv
  | 11, _, hv => exact hv
  | 12, _, hv => exact hv
  | 13, _, hv => exact hv
section
variable {w w' : World} {F : Nat → Prop} {D q n N t g la ns i : Nat} {m : Vs} {p : Pn.Pl} {L : List Slt}
theorem check_nil (p : Pn.Pl) (w : World) : Calls Tryz.prog 75 #[.agg #[.pointer none, .int .i64 p.a0, .int .i64 p.a1, .int .i64 p.a2, .int .i64 p.a3, .int .i64 p.a4, .int .i64 p.a5, .int .i64 p.a6, .int .i64 p.a7, .int .i64 p.a8, .int .i64 p.a9, .int .i64 p.a10, .int .i64 p.a11, .int .i64 p.a12]] w fun e w' => e = .returned (.int .i64 2) ∧ Below w.heap.size w w' := by
  go_enter Tryz.func75, Tryz.ntmps75
  go_wp2_with fail
  refine (read_nil _ _).mono ?_; rintro e w' ⟨rfl, rfl⟩
  go_wp2_with fail
  refine (Pn.plan_any p _).mono ?_; rintro e w1 ⟨rfl, b1⟩
  have B1 := Lib.hid (bthen (balloc w _) b1)
  have hf1 := field_11 p w1
  clear b1
  go_wp2
  go_ret
  exact ⟨rfl, B1.out⟩
/-- what check tells of a device that somebody made -/
def chk (n : Nat) (a : Int) (off : Bool) : Int := if a = 0 ∨ ¬ (n : Int) = a then 1 else if off = true then 80 else 0
set_option maxHeartbeats 4000000 in
theorem check_any (h : PD w F D q n N m) (c : Int) (hc : c = chk n p.a12 m.s.off) : Calls Tryz.prog 75 #[(.agg #[.pointer (some ⟨D, 0, none⟩), .int .i64 p.a0, .int .i64 p.a1, .int .i64 p.a2, .int .i64 p.a3, .int .i64 p.a4, .int .i64 p.a5, .int .i64 p.a6, .int .i64 p.a7, .int .i64 p.a8, .int .i64 p.a9, .int .i64 p.a10, .int .i64 p.a11, .int .i64 p.a12])] w fun r w' => r = .returned (.int .i64 c) ∧ Below w.heap.size w w' := by
  have H := Lib.hid h
  obtain ⟨v, hv⟩ : ∃ v, (if m.s.off = true then (80 : Int) else 3) = v := ⟨_, rfl⟩
  have v2 : ¬ v = 2 := by rw [← hv]; split <;> decide
  have v80 : (m.s.off = true → v = 80) ∧ (m.s.off = false → v = 3) := ⟨fun hh => by rw [← hv, hh]; rfl, fun hh => by rw [← hv, hh]; rfl⟩
  have NR : Hid (∀ y, Below w.heap.size w y → Calls Tryz.prog 118 #[.pointer (some ⟨D, 0, none⟩), .int .i64 (-1)] y fun e w' => e = .returned (.tuple #[.slice none 0 0, .int .i64 v]) ∧ y = w') := fun y hy => by
    rw [← hv]; exact (H.out.below hy).noread2 (-1) (.inl (by decide))
  clear h hv
  unfold chk at hc
  by_cases h0 : p.a12 = 0
  · rw [if_pos (.inl h0)] at hc
    subst hc
    have t0 : (p.a12 == 0) = true := by rw [h0]; rfl
    have T0 := Lib.hid t0
    clear h0 v80 t0
    go_enter Tryz.func75, Tryz.ntmps75
    go_wp2_with fail
    refine (NR.out _ (balloc w _)).mono ?_; rintro e w1 ⟨rfl, rfl⟩
    go_wp2_with fail
    refine (Pn.plan_any p _).mono ?_; rintro e w1 ⟨rfl, b1⟩
    have B1 := Lib.hid (bthen (balloc w _) b1)
    have hf1 := field_11 p w1
    have t0 := T0.out
    clear b1
    go_wp2
    go_ret
    exact ⟨rfl, B1.out⟩
  · have t0 : (p.a12 == 0) = false := by simp; exact h0
    have T0 := Lib.hid t0
    by_cases h1 : (n : Int) = p.a12
    · have T1 : Hid (((n : Int) != p.a12) = false) := by show _ = _; rw [h1]; simp
      have hn : ¬ (p.a12 = 0 ∨ ¬ (n : Int) = p.a12) := by rintro (x | x) <;> contradiction
      rw [if_neg hn] at hc
      cases ho : m.s.off
      all_goals
        rw [ho] at hc
        first | rw [if_pos rfl] at hc | rw [if_neg (by decide)] at hc
        first | have hv := v80.1 ho | have hv := v80.2 ho
        subst hv
        subst hc
        clear h0 h1 v80 t0 hn v2 ho
        go_enter Tryz.func75, Tryz.ntmps75
        go_wp2_with fail
        refine (NR.out _ (balloc w _)).mono ?_; rintro e w1 ⟨rfl, rfl⟩
        go_wp2_with fail
        refine (Pn.plan_any p _).mono ?_; rintro e w1 ⟨rfl, b1⟩
        have B1 := Lib.hid (bthen (balloc w _) b1)
        have X1 := Lib.hid (Pn.box_cell b1 (j := 0) (v := .pointer (some ⟨D, 0, none⟩)) rfl)
        have PD1 := Lib.hid (H.out.below (bthen (balloc w _) b1))
        have hf1 := field_11 p w1
        have c0 := X1.out
        have t0 := T0.out
        have t1 := T1.out
        clear b1
        go_wp2_with fail
        refine PD1.out.size.mono ?_; rintro e w2 ⟨rfl, rfl⟩
        go_wp2
        go_ret
        exact ⟨rfl, B1.out⟩
    · rw [if_pos (.inr h1)] at hc
      subst hc
      have T1 : Hid (((n : Int) != p.a12) = true) := by show _ = _; simp; exact h1
      clear h0 h1 v80 t0
      go_enter Tryz.func75, Tryz.ntmps75
      go_wp2_with fail
      refine (NR.out _ (balloc w _)).mono ?_; rintro e w1 ⟨rfl, rfl⟩
      go_wp2_with fail
      refine (Pn.plan_any p _).mono ?_; rintro e w1 ⟨rfl, b1⟩
      have B1 := Lib.hid (bthen (balloc w _) b1)
      have X1 := Lib.hid (Pn.box_cell b1 (j := 0) (v := .pointer (some ⟨D, 0, none⟩)) rfl)
      have PD1 := Lib.hid (H.out.below (bthen (balloc w _) b1))
      have hf1 := field_11 p w1
      have c0 := X1.out
      have t0 := T0.out
      have t1 := T1.out
      clear b1
      go_wp2_with fail
      refine PD1.out.size.mono ?_; rintro e w2 ⟨rfl, rfl⟩
      go_wp2
      go_ret
      exact ⟨rfl, B1.out⟩
set_option maxHeartbeats 4000000 in
theorem worn_any (h : PD w F D q n N m) (he : EBl w F q q) (hp : Pln p la ns n) (hi : i < ns) :
    Calls Tryz.prog 77 #[(.agg #[.pointer (some ⟨D, 0, none⟩), .int .i64 p.a0, .int .i64 p.a1, .int .i64 p.a2, .int .i64 p.a3, .int .i64 p.a4, .int .i64 p.a5, .int .i64 p.a6, .int .i64 p.a7, .int .i64 p.a8, .int .i64 p.a9, .int .i64 p.a10, .int .i64 p.a11, .int .i64 p.a12]), .int .i64 (i : Int)] w fun e w' => e = .returned (.int .u32 ((wornAt la i m).toNat : Int)) ∧ PD w' F D q n N (rd1 m (la + 2 * i)).2.2 ∧ Chg F w w' := by
  have H := Lib.hid h
  have HP := Lib.hid hp
  have HI := Lib.hid hi
  have HE := Lib.hid he
  obtain ⟨v1, xs1, m1, e1⟩ : ∃ v1 xs1 m1, rd1 m (la + 2 * i) = (v1, xs1, m1) := ⟨_, _, _, rfl⟩
  have E1 := Lib.hid e1
  unfold wornAt
  rw [e1]
  dsimp only
  clear h hp hi he e1
  by_cases hv : v1 = 0
  · subst hv
    rw [if_pos rfl]
    have GW := Lib.hid (hg_way xs1)
    obtain ⟨hh, E, hgq⟩ : ∃ hh E, Sl.hg xs1 = (hh, E) := ⟨_, _, rfl⟩
    rw [hgq] at GW ⊢
    clear hgq
    dsimp only
    go_enter Tryz.func77, Tryz.ntmps77
    go_wp2_with fail
    refine (slot_any HP.out i HI.out _).mono ?_; rintro e w1 ⟨rfl, b1⟩
    have B1 : Hid (Below w.heap.size w w1) := bthen (balloc w (.cells #[.pointer (some ⟨D, 0, none⟩), .int .i64 p.a0, .int .i64 p.a1, .int .i64 p.a2, .int .i64 p.a3, .int .i64 p.a4, .int .i64 p.a5, .int .i64 p.a6, .int .i64 p.a7, .int .i64 p.a8, .int .i64 p.a9, .int .i64 p.a10, .int .i64 p.a11, .int .i64 p.a12] 84)) b1
    have Y1 : Hid (PBox w1 w.heap.size D p) := kept_below (heap_alloc_new w (.cells #[.pointer (some ⟨D, 0, none⟩), .int .i64 p.a0, .int .i64 p.a1, .int .i64 p.a2, .int .i64 p.a3, .int .i64 p.a4, .int .i64 p.a5, .int .i64 p.a6, .int .i64 p.a7, .int .i64 p.a8, .int .i64 p.a9, .int .i64 p.a10, .int .i64 p.a11, .int .i64 p.a12] 84)) b1
    have y1 := Y1.out.dev
    clear b1
    go_wp2_with fail
    refine (PD.read' (H.out.below B1.out) (la + 2 * i) (by have := HP.out.hn; have := HI.out; omega) E1.out).mono ?_; rintro e w2 ⟨A1, l1, c1, rfl, o1, q1, q2, n1, p2, g2⟩
    have P2 := Lib.hid p2
    have G2 := Lib.hid (below_chg B1.out g2)
    have O2 := Lib.hid o1
    have Q2 : Hid (l1 ≤ c1 ∧ l1 ≤ 64) := ⟨q1, q2⟩
    have EV : Hid (EnvH w2) := HE.out.chg (G2.out.mono (fun _ _ x => .inl (.inl x)))
    clear o1 q1 q2 n1 p2 g2 y1
    go_wp2_with fail
    refine (hget_any A1 l1 c1 xs1 hh E w2 (by have := Q2.out.2; omega) Q2.out.1 O2.out EV.out GW.out).mono ?_; rintro e w3 ⟨rfl, b3⟩
    have P3 := Lib.hid (P2.out.below b3)
    have G3 := Lib.hid (chg_below G2.out b3)
    clear b3
    go_wp2_with ((with_reducible apply L_storeRow (N := 5) info_hd); exact rfl; exact rfl; exact heap_alloc_new _ _; exact rfl; exact rfl; (simp [Value.oneCell']); intro w4 h4 g4; have x4 : w4.cell? ⟨w3.heap.size, 4, none⟩ = some (.int .u32 (hh.r.toNat : Int)) := by { rw [cell_of_row _ _ _ _ _ _ h4]; rfl }; have B4 : Hid (Below w3.heap.size w3 w4) := (balloc w3 (.cells #[.bool false, .int .i64 0, .int .u64 0, .int .u32 0, .int .u32 0] 32)).grown g4 (by simp) (fun k e => by injection e with e; omega); clear h4 g4)
    go_ret
    exact ⟨rfl, P3.out.below B4.out, chg_below G3.out B4.out⟩
  · rw [if_neg hv]
    go_enter Tryz.func77, Tryz.ntmps77
    go_wp2_with fail
    refine (slot_any HP.out i HI.out _).mono ?_; rintro e w1 ⟨rfl, b1⟩
    have B1 : Hid (Below w.heap.size w w1) := bthen (balloc w (.cells #[.pointer (some ⟨D, 0, none⟩), .int .i64 p.a0, .int .i64 p.a1, .int .i64 p.a2, .int .i64 p.a3, .int .i64 p.a4, .int .i64 p.a5, .int .i64 p.a6, .int .i64 p.a7, .int .i64 p.a8, .int .i64 p.a9, .int .i64 p.a10, .int .i64 p.a11, .int .i64 p.a12] 84)) b1
    have Y1 : Hid (PBox w1 w.heap.size D p) := kept_below (heap_alloc_new w (.cells #[.pointer (some ⟨D, 0, none⟩), .int .i64 p.a0, .int .i64 p.a1, .int .i64 p.a2, .int .i64 p.a3, .int .i64 p.a4, .int .i64 p.a5, .int .i64 p.a6, .int .i64 p.a7, .int .i64 p.a8, .int .i64 p.a9, .int .i64 p.a10, .int .i64 p.a11, .int .i64 p.a12] 84)) b1
    have y1 := Y1.out.dev
    clear b1
    go_wp2_with fail
    refine (PD.read' (H.out.below B1.out) (la + 2 * i) (by have := HP.out.hn; have := HI.out; omega) E1.out).mono ?_; rintro e w2 ⟨A1, l1, c1, rfl, o1, q1, q2, n1, p2, g2⟩
    have P2 := Lib.hid p2
    have G2 := Lib.hid (below_chg B1.out g2)
    clear o1 q1 q2 n1 p2 g2 y1
    go_wp2
    go_ret
    exact ⟨rfl, P2.out, G2.out⟩
end
end Go.Proofs.YtapklelkcicjlaaGreatDoor.Pd.Sl

/-! Open. No conditions. -/
namespace Go.Proofs.YtapklelkcicjlaaGreatDoor.Pd.Sl
set_option maxRecDepth 100000
open Go.RowKit Oc Dm W Dw Sr Gt W.Hd
set_option linter.unusedVariables false
set_option maxRecDepth 100000
attribute [local go_sem ↓] Go.wp_at_zero Go.wp_at_succ
theorem agg_mv {p : Pn.Pl} : (#[.int .i64 p.a0, .int .i64 p.a1, .int .i64 p.a2, .int .i64 p.a3, .int .i64 p.a4, .int .i64 p.a5, .int .i64 p.a6, .int .i64 p.a7, .int .i64 p.a8, .int .i64 p.a9, .int .i64 p.a10, .int .i64 p.a11, .int .i64 p.a12] : Array Value) = #[.int .i64 p.a0, .int .i64 p.a1, .int .i64 p.a2, .int .i64 p.a3, .int .i64 p.a4, .int .i64 p.a5, .int .i64 p.a6, .int .i64 p.a7, .int .i64 p.a8, .int .i64 p.a9, .int .i64 p.a10, .int .i64 p.a11, .int .i64 p.a12] := rfl
section
variable {w w' : World} {F : Nat → Prop} {D q n N t g la ns i : Nat} {m : Vs} {p : Pn.Pl} {L : List Slt}
set_option maxHeartbeats 4000000 in
theorem open_no (h : PD w F D q n N m) (c : Int) (hc : c = chk n p.a12 m.s.off) (h0 : ¬ c = 0) :
    Calls Tryz.prog 21 #[.pointer (some ⟨D, 0, none⟩), (.agg #[.int .i64 p.a0, .int .i64 p.a1, .int .i64 p.a2, .int .i64 p.a3, .int .i64 p.a4, .int .i64 p.a5, .int .i64 p.a6, .int .i64 p.a7, .int .i64 p.a8, .int .i64 p.a9, .int .i64 p.a10, .int .i64 p.a11, .int .i64 p.a12])] w fun e w' => e = .returned (.tuple #[.pointer none, .int .i64 c]) ∧ Below w.heap.size w w' := by
  have H := Lib.hid h
  have HC := Lib.hid hc
  clear h hc
  go_enter Tryz.func21, Tryz.ntmps21
  go_wp2_with fail
  refine (check_any (H.out.below (bthen (balloc w _) (balloc _ _))) c HC.out).mono ?_; rintro e w1 ⟨rfl, b1⟩
  have B1 := Lib.hid (bthen (bthen (balloc w _) (balloc _ _)) b1)
  clear b1
  go_wp2
  go_ret2
  exact ⟨rfl, B1.out⟩
theorem open_nil (p : Pn.Pl) (w : World) : Calls Tryz.prog 21 #[.pointer none, (.agg #[.int .i64 p.a0, .int .i64 p.a1, .int .i64 p.a2, .int .i64 p.a3, .int .i64 p.a4, .int .i64 p.a5, .int .i64 p.a6, .int .i64 p.a7, .int .i64 p.a8, .int .i64 p.a9, .int .i64 p.a10, .int .i64 p.a11, .int .i64 p.a12])] w fun e w' => e = .returned (.tuple #[.pointer none, .int .i64 2]) ∧ Below w.heap.size w w' := by
  go_enter Tryz.func21, Tryz.ntmps21
  go_wp2_with fail
  refine (check_nil p _).mono ?_; rintro e w1 ⟨rfl, b1⟩
  have B1 := Lib.hid (bthen (bthen (balloc w _) (balloc _ _)) b1)
  clear b1
  go_wp2
  go_ret2
  exact ⟨rfl, B1.out⟩
/-- what Open hands back -/
def OpTold (w : World) (F : Nat → Prop) (D q n N : Nat) (p : Pn.Pl) (R : List Slt × Vs) (e : Ending) (w' : World) : Prop := ∃ t g, e = .returned (.tuple #[.pointer (some ⟨t, 0, none⟩), .int .i64 0]) ∧ SlAt w' t g D p R.1 ∧ w.heap.size ≤ t ∧ w.heap.size ≤ g ∧ PD w' F D q n N R.2 ∧ Chg F w w'
set_option maxHeartbeats 8000000 in
theorem open_yes (h : PD w F D q n N m) (he : EBl w F q q) (hp : Pln p la ns n) (ho : m.s.off = false) (R : List Slt × Vs) (hR : opn la ns 0 m = R) :
    Calls Tryz.prog 21 #[.pointer (some ⟨D, 0, none⟩), (.agg #[.int .i64 p.a0, .int .i64 p.a1, .int .i64 p.a2, .int .i64 p.a3, .int .i64 p.a4, .int .i64 p.a5, .int .i64 p.a6, .int .i64 p.a7, .int .i64 p.a8, .int .i64 p.a9, .int .i64 p.a10, .int .i64 p.a11, .int .i64 p.a12])] w (OpTold w F D q n N p R) := by
  have H := Lib.hid h
  have HE := Lib.hid he
  have HP := Lib.hid hp
  have HR := Lib.hid hR
  have HF : Hid (∀ k, F k → k < w.heap.size) := fun k x => h.bound k (.inl x)
  have HQ : Hid (q < w.heap.size) := h.pw.lt
  have HC : Hid ((0 : Int) = chk n p.a12 m.s.off) := by
    show _ = _
    unfold chk
    rw [if_neg, ho]
    · rfl
    · have := hp.h12; have := hp.hn; have := hp.hl
      rintro (x | x) <;> omega
  have hns : ns ≤ 256 := hp.hl2
  clear h he hp hR ho
  go_enter Tryz.func21, Tryz.ntmps21
  go_wp2_with fail
  refine (check_any (p := p) (H.out.below (bthen (balloc w _) (balloc _ _))) 0 HC.out).mono ?_; rintro e w1 ⟨rfl, b1⟩
  have B1 := Lib.hid (bthen (bthen (balloc w (.cells #[.int .i64 p.a0, .int .i64 p.a1, .int .i64 p.a2, .int .i64 p.a3, .int .i64 p.a4, .int .i64 p.a5, .int .i64 p.a6, .int .i64 p.a7, .int .i64 p.a8, .int .i64 p.a9, .int .i64 p.a10, .int .i64 p.a11, .int .i64 p.a12] 45)) (balloc _ (.cells (stC D p (.slice none 0 0)) 87))) b1)
  have X1 := Lib.hid (kept_below (heap_alloc_new w (.cells #[.int .i64 p.a0, .int .i64 p.a1, .int .i64 p.a2, .int .i64 p.a3, .int .i64 p.a4, .int .i64 p.a5, .int .i64 p.a6, .int .i64 p.a7, .int .i64 p.a8, .int .i64 p.a9, .int .i64 p.a10, .int .i64 p.a11, .int .i64 p.a12] 45)) (bthen (balloc _ (.cells (stC D p (.slice none 0 0)) 87)) b1))
  have Y1 := Lib.hid (kept_below (heap_at_next w (.cells #[.int .i64 p.a0, .int .i64 p.a1, .int .i64 p.a2, .int .i64 p.a3, .int .i64 p.a4, .int .i64 p.a5, .int .i64 p.a6, .int .i64 p.a7, .int .i64 p.a8, .int .i64 p.a9, .int .i64 p.a10, .int .i64 p.a11, .int .i64 p.a12] 45) (.cells (stC D p (.slice none 0 0)) 87)) b1)
  clear b1
  go_wp2_with ((with_reducible apply Pn.L_loadMap); exact rfl; exact X1.out; exact rfl)
  refine (Pn.plan_any p _).mono ?_; rintro e w2 ⟨rfl, b2⟩
  have B2 := Lib.hid (bthen B1.out b2)
  have Y2 := Lib.hid (kept_below Y1.out b2)
  have P2 := Lib.hid (H.out.below B2.out)
  have hf1 := field_9 p w2
  have h9 : p.a9 = (ns : Int) := HP.out.h9
  have YL : Hid (w.heap.size + 1 < w2.heap.size) := lt_of_heap Y2.out
  have H9 := Lib.hid h9
  clear b2 h9
  have Z2 : Hid (Chg F w w2) := Chg.of_below B2.out
  have O2 : Hid (OwnS w2 114 2 w2.heap.size (.slice none 0 0) (([] : List Slt).map slc)) := OwnS.nil _ _ _ _
  have EBW : Hid (∀ y, Chg F w y → EBl y F q q) := fun y hy => ⟨HE.out.chg (hy.mono (fun _ _ x => .inl (.inl x))), HE.out.2⟩
  go_wp2
  go_loopw [25] (fun z wr => ∃ j : Nat, j ≤ ns ∧ z = .int .i64 (j : Int) ∧ ∃ mj Lj v, Hid (PD wr F D q n N mj) ∧ Hid (Chg F w wr) ∧ Hid (w2.heap.size ≤ wr.heap.size) ∧ Hid (wr.heap[w.heap.size + 1]? = some (.cells (stC D p v) 87 (0, 0))) ∧ Hid (OwnS wr 114 2 w2.heap.size v (List.map slc Lj)) ∧ Hid (Lj.length = j) ∧ Hid (∀ s ∈ Lj, s.f = 0) ∧ Hid ((Lj ++ (opn la (ns - j) j mj).1, (opn la (ns - j) j mj).2) = R)) (fun z _ => ns - (intOf z).toNat)
  case atStart => exact ⟨0, Nat.zero_le _, rfl, m, [], .slice none 0 0, P2, Z2, Nat.le_refl _, Y2, O2, rfl, Lib.hid (fun s hs => absurd hs List.not_mem_nil), HR⟩
  case round =>
    obtain ⟨j, hj, rfl, mj, Lj, v, PJ, CJ, SJ, YJ, OJ, LJ, FJ0, RJ⟩ := hrel
    by_cases hlt : j < ns
    · have hlt2 : (j : Int) < p.a9 := by rw [H9.out]; omega
      have KS : Hid (∀ y : World, y.heap[w.heap.size + 1]? = some (.cells (stC D p v) 87 (0, 0)) → y.cell? ⟨w.heap.size + 1, 14, none⟩ = some v ∧ y.frozen? ⟨w.heap.size + 1, 14, none⟩ = false) := fun y hy => ⟨by rw [cell_of_row _ _ _ _ _ _ hy]; rfl, frozen_of_row y _ 14 _ _ hy⟩
      obtain ⟨r, hr⟩ : ∃ r, wornAt la j mj = r := ⟨_, rfl⟩
      have HRW := Lib.hid hr
      have RJ2 : Hid ((Lj ++ [⟨0, r⟩] ++ (opn la (ns - (j + 1)) (j + 1) (rd1 mj (la + 2 * j)).2.2).1, (opn la (ns - (j + 1)) (j + 1) (rd1 mj (la + 2 * j)).2.2).2) = R) := by
        have e := RJ.out
        rw [show ns - j = (ns - (j + 1)) + 1 by omega] at e
        rw [← hr, List.append_assoc]
        exact e
      clear hr
      go_upto_region 8 with fail
      refine gate (fun y => y.heap[w.heap.size + 1]? = some (.cells (stC D p v) 87 (0, 0))) 16 [0, 1, 2, 3, 4, 5, 6, 7, 8, 9] 7 (by kernel_rfl) (by kernel_rfl) (by kernel_rfl) rfl ?_ YJ.out ?_
      · intro d v c a w h
        cases d <;> exact h
      iterate 8
        refine yields_step ?_ rfl rfl ?_ ?_
        rotate_left
        · intro x hS; obtain ⟨y0, y1⟩ := KS.out x hS; go_simp; rfl
      refine yields_step (.agg #[.pointer (some ⟨D, 0, none⟩), .int .i64 p.a0, .int .i64 p.a1, .int .i64 p.a2, .int .i64 p.a3, .int .i64 p.a4, .int .i64 p.a5, .int .i64 p.a6, .int .i64 p.a7, .int .i64 p.a8, .int .i64 p.a9, .int .i64 p.a10, .int .i64 p.a11, .int .i64 p.a12]) rfl rfl ?_ ?_
      · intro x hS; exact exec_ld rfl (by go_simp) (st_place hS)
      refine yields_step ?_ rfl rfl ?_ ?_
      rotate_left
      · intro x hS; go_simp; rfl
      refine Gate.next (i := 10) (by kernel_rfl) rfl rfl (fun K hK => ?_)
      go_simp
      refine (worn_any PJ.out.drew (EBW.out _ (chg_below CJ.out (bdrew _))) HP.out hlt).mono ?_; rintro e w3 ⟨rfl, p3, c3⟩
      have P3 := Lib.hid p3
      have C3 := Lib.hid ((chg_below CJ.out (bdrew _)).trans c3 (fun _ _ x => x))
      have S3 : Hid (w2.heap.size ≤ w3.heap.size) := Nat.le_trans SJ.out c3.size
      have Y3 : Hid (w3.heap[w.heap.size + 1]? = some (.cells (stC D p v) 87 (0, 0))) := (c3.block _ (lt_of_heap YJ.out) (fun x => by have := HF.out _ x; omega)).trans YJ.out
      have O3 : Hid (OwnS w3 114 2 w2.heap.size v (List.map slc Lj)) := OJ.out.keep (fun g hg => c3.block g (OJ.out.ge g hg).2 (fun x => by have := HF.out g x; have := (OJ.out.ge g hg).1; have := YL.out; omega))
      rw [HRW.out]
      refine hK _ _ (fun _ => Y3.out) ?_
      clear hK K p3 c3
      refine Gate.next (i := 11) (by kernel_rfl) rfl rfl (fun K hK => ?_)
      go_simp
      refine hK _ _ (fun _ => Y3.out) ?_
      clear hK K
      refine Gate.next (i := 12) (by kernel_rfl) rfl rfl (fun K hK => ?_)
      go_simp
      refine hK _ _ (fun _ => kept_below Y3.out (balloc _ _)) ?_
      clear hK K
      refine Gate.next (i := 13) (by kernel_rfl) rfl rfl (fun K hK => ?_)
      refine wp_append_S2 _ _ _ rfl st_elk rfl O3.out S3.out _ rfl (c := slc ⟨0, r⟩) rfl rfl (fun u hu => by simp [slc] at hu; rcases hu with rfl | rfl <;> rfl) (by rw [List.length_map, LJ.out]; omega) ?_; intro v4 w4 o4 g4
      have O4 := Lib.hid o4
      have G4 := Lib.hid g4
      have hbne : ∀ b, v.ownBlock = some b → w2.heap.size ≤ b := fun b e => (O3.out.ge b e).1
      have Y4 : Hid (w4.heap[w.heap.size + 1]? = some (.cells (stC D p v) 87 (0, 0))) := (g4.block _ (lt_of_heap Y3.out) (fun e => by have := hbne _ e.symm; have := YL.out; omega)).trans Y3.out
      have P4 := Lib.hid (pd_row HF.out HQ.out P3.out g4 (fun b e => by have := hbne b e; have := YL.out; omega))
      have C4 := Lib.hid (chg_row C3.out g4 (fun b e => by have := hbne b e; have := YL.out; omega))
      have S4 : Hid (w2.heap.size ≤ w4.heap.size) := Nat.le_trans S3.out g4.size
      refine hK _ _ (fun _ => Y4.out) ?_
      clear hK K o4 g4 hbne
      obtain ⟨A4, cc4, rfl, _, _⟩ := O4.out.form (n := j + 1) (by rw [List.length_append, List.length_map, LJ.out]; rfl)
      obtain ⟨k14, kf⟩ := KS.out _ Y4.out
      refine Gate.next (i := 14) (by kernel_rfl) rfl rfl (fun K hK => ?_)
      go_simp
      refine hK _ _ (fun _ => Y4.out) ?_
      clear hK K
      refine Gate.next (i := 15) (by kernel_rfl) rfl rfl (fun K hK => ?_)
      go_simp
      refine hK _ _ (fun _ => Y4.out) ?_
      clear hK K
      refine Gate.next (i := 16) (by kernel_rfl) rfl rfl (fun K hK => ?_)
      go_simp
      refine hK _ _ (fun h => absurd rfl h) ?_
      clear hK K k14 kf
      refine Gate.done (by kernel_rfl) ?_
      have g5 := grown_set w4 (w.heap.size + 1) 14 (.slice A4 (j + 1) cc4)
      have YL2 := YL.out
      have Y5 : Hid ((w4.setCell ⟨w.heap.size + 1, 14, none⟩ (.slice A4 (j + 1) cc4)).heap[w.heap.size + 1]? = some (.cells (stC D p (.slice A4 (j + 1) cc4)) 87 (0, 0))) := by
        show _ = _
        rw [heap_setCell_same _ _ _ _ _ _ Y4.out]
        rfl
      have P5 := Lib.hid (pd_new HF.out HQ.out P4.out g5 (Nat.le_succ _))
      have C5 := Lib.hid (chg_new C4.out g5 (Nat.le_succ _))
      have S5 : Hid (w2.heap.size ≤ (w4.setCell ⟨w.heap.size + 1, 14, none⟩ (.slice A4 (j + 1) cc4)).heap.size) := Nat.le_trans S4.out g5.size
      have O5 : Hid (OwnS (w4.setCell ⟨w.heap.size + 1, 14, none⟩ (.slice A4 (j + 1) cc4)) 114 2 w2.heap.size (.slice A4 (j + 1) cc4) (List.map slc (Lj ++ [⟨0, r⟩]))) := by
        show OwnS _ _ _ _ _ _
        rw [List.map_append]
        exact O4.out.keep (fun g hg => heap_setCell_other _ _ _ _ (fun (e : g = w.heap.size + 1) => by have := (O4.out.ge g hg).1; have := YL.out; omega))
      clear g5 YL2
      go_wp2
      go_roundw
      case rel => exact ⟨j + 1, by omega, by go_num, _, _, (.slice A4 (j + 1) cc4), P5, C5, S5, Y5, O5, by show _ = _; rw [List.length_append, LJ.out]; rfl, Lib.hid (fun s hs => by
        rcases List.mem_append.1 hs with hs | hs
        · exact FJ0.out s hs
        · rw [List.mem_singleton.1 hs]), RJ2⟩
      case measure => simp [intOf]; omega
    · have hlt2 : ¬ (j : Int) < p.a9 := by rw [H9.out]; omega
      have RK : Hid (R = (Lj, mj)) := by
        have e := RJ.out
        rw [show ns - j = 0 by omega] at e
        show _ = _
        rw [← e]
        show (Lj ++ [], mj) = _
        rw [List.append_nil]
      have hjn : j = ns := by omega
      go_wp2
      go_ret2
      rw [RK.out]
      have hpos : 0 < Lj.length := by rw [LJ.out, hjn]; exact HP.out.hl
      obtain ⟨g, c, e1, e2, e3, e4, e5⟩ := OJ.out.here (n := Lj.length) (by simp) hpos
      have Y6 := YJ.out
      have O6 := OJ.out
      rw [e1] at Y6 O6
      have YL2 := YL.out
      exact ⟨w.heap.size + 1, g, rfl, ⟨⟨c, Y6, O6.more (Nat.zero_le _), e4, e3⟩, by omega, hpos, by rw [LJ.out]; omega, fun s hs => by rw [FJ0.out s hs]; decide⟩, Nat.le_succ _, by omega, PJ.out, CJ.out⟩
end
end Go.Proofs.YtapklelkcicjlaaGreatDoor.Pd.Sl

/-! What stands on a device that bears slots: what each sector may hold, and what is read of it: plain facts. No conditions. -/
namespace Go.Proofs.YtapklelkcicjlaaGreatDoor.Pd.Sl
set_option maxRecDepth 100000
open Go.RowKit Oc Dm W Dw W.Hd
set_option linter.unusedVariables false
set_option maxRecDepth 100000

/-- what a sector may hold behind a crash -/
def Mays (s : Sec) (x : List UInt8) : Prop := x = s.fixed ∨ x ∈ s.loose
theorem mays_stands (s : Sec) : Mays s s.stands := by
  by_cases h : s.loose = []
  · rw [Sec.stands_fixed h]; exact .inl rfl
  · rw [Sec.stands_loose h]
    have hl : s.loose.length ≠ 0 := fun e => h (List.eq_nil_of_length_eq_zero e)
    have hlt : s.loose.length - 1 < s.loose.length := by omega
    refine .inr ?_
    rw [List.getD_eq_getElem?_getD, List.getElem?_eq_getElem hlt, Option.getD_some]
    exact List.getElem_mem hlt
theorem mays_flush {S : Nat → Sec} {i : Nat} {x : List UInt8} (h : Mays (flushS S i) x) : x = (S i).stands := by
  rcases h with h | h
  · rw [h]
    unfold flushS
    split
    · rename_i e; rw [Sec.stands_fixed e]
    · rfl
  · rw [flushS_loose] at h; cases h
theorem mays_wrote {S : Nat → Sec} {i j : Nat} {xs x : List UInt8} (h : Mays (wrote S i xs j) x) : Mays (S j) x ∨ (j = i ∧ x = xs) := by
  unfold wrote at h
  by_cases e : j = i
  · subst e
    rw [upd_same] at h
    rcases h with h | h
    · exact .inl (.inl h)
    · rcases List.mem_append.1 h with h | h
      · exact .inl (.inr h)
      · exact .inr ⟨rfl, List.mem_singleton.1 h⟩
  · rw [upd_other _ _ e] at h; exact .inl h
theorem wrote_other {S : Nat → Sec} {i j : Nat} {xs : List UInt8} (h : j ≠ i) : wrote S i xs j = S j := by unfold wrote; exact upd_other _ _ h
theorem stands_wrote {S : Nat → Sec} {i : Nat} {xs : List UInt8} : (wrote S i xs i).stands = xs := by
  unfold wrote
  rw [upd_same, Sec.stands_loose (by simp)]
  dsimp only
  rw [List.length_append, List.length_singleton, Nat.add_sub_cancel, List.getD_eq_getElem?_getD, List.getElem?_append_right (Nat.le_refl _), Nat.sub_self]
  rfl
/-- behind a flush a sector holds one thing -/
def One (S : Nat → Sec) (i : Nat) (x : List UInt8) : Prop := ∀ y, Mays (S i) y → y = x
theorem one_flush {S : Nat → Sec} {i : Nat} {x : List UInt8} (h : One S i x ∨ (S i).stands = x) : One (flushS S) i x := fun y hy => by
  rw [mays_flush hy]
  exact h.elim (fun h => h _ (mays_stands _)) id
theorem one_other {S : Nat → Sec} {i j : Nat} {x xs : List UInt8} (h : One S i x) (hj : i ≠ j) : One (wrote S j xs) i x := fun y hy => by
  rw [wrote_other hj] at hy; exact h y hy
/-- the wear that a sector tells -/
def wearOf (x : List UInt8) : Nat := (hg x).1.r.toNat
theorem wear0 (r : UInt32) : wearOf (sect (hd0 r)) = r.toNat := by unfold wearOf; rw [hg_sect (may0 r)]
theorem wear1 {b : Int} {g : Nat} {xs : List UInt8} {r : UInt32} (h : okB b g) : wearOf (sect (hd1 b g xs r)) = r.toNat := by unfold wearOf; rw [hg_sect (may1_iff.2 h)]

/-- what may stand in a head's sector: zeros, a free slot's head, or that of what was filled, if the data stands -/
def Kind (Fl : Nat → Int → Nat → List UInt8 → Prop) (S : Nat → Sec) (la i : Nat) (x : List UInt8) : Prop :=
  x = zs ∨ (∃ r, x = sect (hd0 r)) ∨ ∃ b g xs r, x = sect (hd1 b g xs r) ∧ okB b g ∧ Fl i b g xs ∧ One S (la + 2 * i + 1) xs
structure Keep (Fl : Nat → Int → Nat → List UInt8 → Prop) (la k : Nat) (S : Nat → Sec) (rs : Nat → UInt32) (ws : Nat → Nat) : Prop where
  hd : ∀ i, i < k → ∀ x, Mays (S (la + 2 * i)) x → Kind Fl S la i x
  wr : ∀ i, i < k → ws i ≤ (rs i).toNat ∧ ∀ x, Mays (S (la + 2 * i)) x → ws i ≤ wearOf x
def put {α : Type} (f : Nat → α) (i : Nat) (x : α) : Nat → α := fun j => if j = i then x else f j
theorem put_same {α : Type} (f : Nat → α) (i : Nat) (x : α) : put f i x i = x := if_pos rfl
theorem put_other {α : Type} (f : Nat → α) {i j : Nat} (x : α) (h : j ≠ i) : put f i x j = f j := if_neg h
section
variable {Fl : Nat → Int → Nat → List UInt8 → Prop} {la k i g : Nat} {S : Nat → Sec} {rs : Nat → UInt32} {ws : Nat → Nat} {b : Int} {xs : List UInt8} {r : UInt32} {m : Vs}
theorem Keep.flush (h : Keep Fl la k S rs ws) : Keep Fl la k (flushS S) rs ws :=
  ⟨fun i hi x hx => by
    rw [mays_flush hx]
    rcases h.hd i hi _ (mays_stands _) with e | e | ⟨b, g, ys, r, e, h1, h2, h3⟩
    · exact .inl e
    · exact .inr (.inl e)
    · exact .inr (.inr ⟨b, g, ys, r, e, h1, h2, one_flush (.inl h3)⟩), fun i hi => ⟨(h.wr i hi).1, fun x hx => by rw [mays_flush hx]; exact (h.wr i hi).2 _ (mays_stands _)⟩⟩
/-- a free slot's head is written -/
theorem Keep.free (h : Keep Fl la k S rs ws) (hi : i < k) (hr : ws i ≤ r.toNat) : Keep Fl la k (wrote S (la + 2 * i) (sect (hd0 r))) (put rs i r) ws := by
  refine ⟨fun j hj x hx => ?_, fun j hj => ?_⟩
  · rcases mays_wrote hx with hx | ⟨_, e⟩
    · rcases h.hd j hj x hx with e | e | ⟨b, g, ys, r, e, h1, h2, h3⟩
      · exact .inl e
      · exact .inr (.inl e)
      · exact .inr (.inr ⟨b, g, ys, r, e, h1, h2, one_other h3 (by omega)⟩)
    · exact .inr (.inl ⟨r, e⟩)
  · by_cases e : j = i
    · subst e
      rw [put_same]
      refine ⟨hr, fun x hx => ?_⟩
      rcases mays_wrote hx with hx | ⟨_, e⟩
      · exact (h.wr j hj).2 x hx
      · rw [e, wear0]; exact hr
    · rw [put_other _ _ e]
      refine ⟨(h.wr j hj).1, fun x hx => ?_⟩
      rcases mays_wrote hx with hx | ⟨e2, _⟩
      · exact (h.wr j hj).2 x hx
      · omega
/-- data is written behind a free slot's head -/
theorem Keep.data (h : Keep Fl la k S rs ws) (h0 : One S (la + 2 * i) (sect (hd0 r))) : Keep Fl la k (wrote S (la + 2 * i + 1) xs) rs ws := by
  refine ⟨fun j hj x hx => ?_, fun j hj => ⟨(h.wr j hj).1, fun x hx => ?_⟩⟩
  · rcases mays_wrote hx with hy | ⟨e, _⟩
    · by_cases e : j = i
      · subst e; exact .inr (.inl ⟨r, h0 x hy⟩)
      · rcases h.hd j hj x hy with e | e | ⟨b, g, ys, r, e, h1, h2, h3⟩
        · exact .inl e
        · exact .inr (.inl e)
        · exact .inr (.inr ⟨b, g, ys, r, e, h1, h2, one_other h3 (by omega)⟩)
    · omega
  · rcases mays_wrote hx with hx | ⟨e, _⟩
    · exact (h.wr j hj).2 x hx
    · omega
/-- the head of what was filled is written -/
theorem Keep.head (h : Keep Fl la k S rs ws) (hi : i < k) (h0 : One S (la + 2 * i) (sect (hd0 r))) (h1 : One S (la + 2 * i + 1) xs) (hok : okB b g) (hF : Fl i b g xs) (hr : (rs i) = r) : Keep Fl la k (wrote S (la + 2 * i) (sect (hd1 b g xs r))) rs (put ws i r.toNat) := by
  refine ⟨fun j hj x hx => ?_, fun j hj => ?_⟩
  · rcases mays_wrote hx with hx | ⟨e, ex⟩
    · rcases h.hd j hj x hx with e | e | ⟨b, g, ys, r, e, h1, h2, h3⟩
      · exact .inl e
      · exact .inr (.inl e)
      · exact .inr (.inr ⟨b, g, ys, r, e, h1, h2, one_other h3 (by omega)⟩)
    · have : j = i := by omega
      subst this
      exact .inr (.inr ⟨b, g, xs, r, ex, hok, hF, one_other h1 (by omega)⟩)
  · by_cases e : j = i
    · subst e
      rw [put_same, hr]
      refine ⟨Nat.le_refl _, fun x hx => ?_⟩
      rcases mays_wrote hx with hx | ⟨_, e⟩
      · rw [h0 x hx, wear0]; exact Nat.le_refl _
      · rw [e, wear1 hok]; exact Nat.le_refl _
    · rw [put_other _ _ e]
      refine ⟨(h.wr j hj).1, fun x hx => ?_⟩
      rcases mays_wrote hx with hx | ⟨e2, _⟩
      · exact (h.wr j hj).2 x hx
      · omega
theorem wr1_S {m : Vs} {i : Nat} {xs : List UInt8} : ((wr1 m i xs).1 ≠ 0 ∧ (wr1 m i xs).2.S = m.S) ∨ ((wr1 m i xs).1 = 0 ∧ (wr1 m i xs).2.S = wrote m.S i xs) := by
  unfold wr1
  split
  · exact .inl ⟨(by decide : (80 : Int) ≠ 0), rfl⟩
  · split
    · exact .inl ⟨(by decide : (80 : Int) ≠ 0), rfl⟩
    · split
      · exact .inl ⟨(by decide : (81 : Int) ≠ 0), rfl⟩
      · exact .inr ⟨rfl, rfl⟩
theorem fl1_S {m : Vs} : ((fl1 m).1 ≠ 0 ∧ (fl1 m).2.S = m.S) ∨ ((fl1 m).1 = 0 ∧ (fl1 m).2.S = flushS m.S) := by
  unfold fl1
  split
  · exact .inl ⟨(by decide : (80 : Int) ≠ 0), rfl⟩
  · split
    · exact .inl ⟨(by decide : (80 : Int) ≠ 0), rfl⟩
    · exact .inr ⟨rfl, rfl⟩
theorem keep_put (h : Keep Fl la k S rs ws) (e : rs i = r) : Keep Fl la k S (put rs i r) ws := by
  have h2 : put rs i r = rs := funext fun j => by
    by_cases hj : j = i
    · rw [hj, put_same, e]
    · exact put_other _ _ hj
  rw [h2]; exact h
/-- A FILL: what stands stays so, and behind one that tells 0 the wear is its own -/
theorem Keep.fill (h : Keep Fl la k m.S rs ws) (hi : i < k) (hr : (rs i).toNat < 4294967295) (hok : okB b g) (hF : Fl i b g xs) :
    Keep Fl la k (fillS la i b g xs (rs i) m).2.2.S (put rs i (fillS la i b g xs (rs i) m).2.1) (if (fillS la i b g xs (rs i) m).1 = 0 then put ws i (fillS la i b g xs (rs i) m).2.1.toNat else ws) := by
  have e1 : (rs i + 1).toNat = (rs i).toNat + 1 := by
    rw [UInt32.toNat_add]
    show ((rs i).toNat + 1) % 4294967296 = _
    omega
  have hw := (h.wr i hi).1
  unfold fillS
  dsimp only
  rcases wr1_S (m := m) (i := la + 2 * i) (xs := sect (hd0 (rs i + 1))) with ⟨a1, a2⟩ | ⟨a1, a2⟩
  · rw [if_pos a1, if_neg (show ¬ (_ : Int) = 0 from a1), a2]
    exact keep_put h rfl
  rw [if_neg (fun x => x a1)]
  have k1 := h.free (r := rs i + 1) hi (by omega)
  rw [← a2] at k1
  have s1 : ((wr1 m (la + 2 * i) (sect (hd0 (rs i + 1)))).2.S (la + 2 * i)).stands = sect (hd0 (rs i + 1)) := by rw [a2]; exact stands_wrote
  generalize (wr1 m (la + 2 * i) (sect (hd0 (rs i + 1)))).2 = m1 at k1 s1 ⊢
  rcases fl1_S (m := m1) with ⟨b1, b2⟩ | ⟨b1, b2⟩
  · rw [if_pos b1, if_neg (show ¬ (_ : Int) = 0 from b1), b2]; exact k1
  rw [if_neg (fun x => x b1)]
  have k2 := k1.flush
  have o2 : One (flushS m1.S) (la + 2 * i) (sect (hd0 (rs i + 1))) := one_flush (.inr s1)
  rw [← b2] at k2 o2
  generalize (fl1 m1).2 = m2 at k2 o2 ⊢
  rcases wr1_S (m := m2) (i := la + 2 * i + 1) (xs := xs) with ⟨c1, c2⟩ | ⟨c1, c2⟩
  · rw [if_pos c1, if_neg (show ¬ (_ : Int) = 0 from c1), c2]; exact k2
  rw [if_neg (fun x => x c1)]
  have k3 := k2.data (xs := xs) o2
  have o3 := one_other (xs := xs) o2 (show la + 2 * i ≠ la + 2 * i + 1 by omega)
  rw [← c2] at k3 o3
  have s3 : ((wr1 m2 (la + 2 * i + 1) xs).2.S (la + 2 * i + 1)).stands = xs := by rw [c2]; exact stands_wrote
  generalize (wr1 m2 (la + 2 * i + 1) xs).2 = m3 at k3 o3 s3 ⊢
  rcases fl1_S (m := m3) with ⟨d1, d2⟩ | ⟨d1, d2⟩
  · rw [if_pos d1, if_neg (show ¬ (_ : Int) = 0 from d1), d2]; exact k3
  rw [if_neg (fun x => x d1)]
  have k4 := k3.flush
  have o4 : One (flushS m3.S) (la + 2 * i) (sect (hd0 (rs i + 1))) := one_flush (.inl o3)
  have q4 : One (flushS m3.S) (la + 2 * i + 1) xs := one_flush (.inr s3)
  rw [← d2] at k4 o4 q4
  generalize (fl1 m3).2 = m4 at k4 o4 q4 ⊢
  rcases wr1_S (m := m4) (i := la + 2 * i) (xs := sect (hd1 b g xs (rs i + 1))) with ⟨c1, c2⟩ | ⟨c1, c2⟩
  · rw [if_neg (show ¬ (_ : Int) = 0 from c1), c2]; exact k4
  · rw [if_pos (show (_ : Int) = 0 from c1), c2]
    exact k4.head hi o4 q4 hok hF (put_same _ _ _)
end

/-- turned bits stay within their row -/
theorem turned_far (xs : List UInt8) (at_ : Int) (T j : Nat) : ∀ k : Nat, (8 * (j : Int) + 7 < at_ ∨ at_ + (k : Int) ≤ 8 * (j : Int)) → (turned xs at_ T k)[j]? = xs[j]?
  | 0, _ => rfl
  | k + 1, h => by
    have ih := turned_far xs at_ T j k (by omega)
    unfold turned
    split
    · rename_i hh
      obtain ⟨_, h2, _⟩ := hh
      unfold flipAt
      rw [List.getElem?_modify, ih]
      have hne : ¬ (at_ + (k : Int)).toNat / 8 = j := by omega
      cases xs[j]? with
      | none => rfl
      | some x => show some (if (at_ + (k : Int)).toNat / 8 = j then flipB (at_ + (k : Int)).toNat x else x) = _; rw [if_neg hne]
    · exact ih
theorem zs_at (j : Nat) : zs[j]? = none ∨ zs[j]? = some 0 := by
  by_cases h : j < 64
  · exact .inr (by rw [show zs = List.replicate 64 0 from rfl, List.getElem?_replicate, if_pos h])
  · exact .inl (by rw [show zs = List.replicate 64 0 from rfl, List.getElem?_replicate, if_neg h])
theorem octs_zero : ∀ (k g : Nat), (∀ j : Nat, (octs g k)[j]? = none ∨ (octs g k)[j]? = some 0) → g % 256 ^ k = 0
  | 0, g, _ => Nat.mod_one g
  | k + 1, g, h => by
    have h0 := h 0
    have e : octs g (k + 1) = UInt8.ofNat g :: octs (g / 256) k := rfl
    rw [e] at h0
    have h1 : g % 256 = 0 := by
      rcases h0 with h0 | h0
      · simp at h0
      · simp at h0
        have := congrArg UInt8.toNat h0
        simpa using this
    have ih := octs_zero k (g / 256) (fun j => by have := h (j + 1); rw [e] at this; simpa using this)
    rw [Nat.pow_succ, Nat.mul_comm, Nat.mod_mul, h1, ih]
/-- zeros with turned bits are no used head -/
theorem zs_rot (at_ : Int) (T : Nat) (p : Hd) (h : hg (turned zs at_ T 32) = (p, 0)) : p.u = false := by
  cases hu : p.u
  · rfl
  exfalso
  have hw := hg_way (turned zs at_ T 32)
  rw [h] at hw
  rcases gway_facts hw with ⟨h1, _⟩ | ⟨_, hm, hs⟩
  · exact h1 rfl
  have hgn : 1 ≤ p.g ∧ p.g ≤ 4611686018427387904 := by
    rcases hm with ⟨_, _, h3⟩ | ⟨h3, _⟩
    · exact h3
    · rw [hu] at h3; cases h3
  have e0 : sect p = (213 :: UInt8.ofNat 3 :: (pay p ++ List.replicate (58 - (pay p).length) 0)) ++ (sect p).drop 60 := by
    have hl : (body 3 (pay p)).length = 60 := body_length 3 _ (pay_fits p)
    have : (sect p).take 60 = body 3 (pay p) := by
      unfold sect sealed
      rw [List.take_append_of_le_length (by omega), List.take_of_length_le (by omega)]
    rw [← List.take_append_drop 60 (sect p), this, List.drop_left' hl]
    rfl
  have a0 : at_ ≤ 7 := by
    rcases Int.lt_or_le 7 at_ with hh | hh
    · have := turned_far zs at_ T 0 32 (.inl (by omega))
      rw [← hs, e0] at this
      rcases zs_at 0 with z | z <;> rw [z] at this <;> simp at this
    · exact hh
  have hz := octs_zero 8 p.g (fun j => by
    have := turned_far zs at_ T (5 + j) 32 (.inr (by omega))
    rw [← hs, e0] at this
    by_cases hj : j < 8
    · have e1 : (octs (ub p.u) 1).length = 1 := octs_length _ _
      have e2 : (octs p.l.toNat 2).length = 2 := octs_length _ _
      have e3 : (octs p.g 8).length = 8 := octs_length _ _
      have e4 : (213 :: UInt8.ofNat 3 :: (pay p ++ List.replicate (58 - (pay p).length) 0) ++ (sect p).drop 60)[5 + j]? = (octs p.g 8)[j]? := by
        rw [show 5 + j = (3 + j) + 1 + 1 by omega, List.cons_append, List.cons_append, List.getElem?_cons_succ, List.getElem?_cons_succ]
        unfold pay
        simp only [List.append_assoc]
        rw [List.getElem?_append_right (by omega), List.getElem?_append_right (by omega), List.getElem?_append_left (by omega), e1, e2]
        congr 1
        omega
      rw [e4] at this
      rcases zs_at (5 + j) with z | z
      · exact .inl (this.trans z)
      · exact .inr (this.trans z)
    · exact .inl (List.getElem?_eq_none (by rw [octs_length]; omega)))
  have : p.g % 256 ^ 8 = p.g := Nat.mod_eq_of_lt (by omega)
  omega
theorem zs_hg : (hg zs).2 ≠ 0 := by
  have h : getE zs 3 ≠ 0 := by
    unfold getE
    rw [if_neg (by decide)]
    split
    · assumption
    · rename_i h2
      have h2 := Classical.not_not.1 h2
      rw [if_neg]
      · decide
      · rintro ⟨_, h3⟩
        have e : kindL (openL zs) = 0 := by
          unfold openL
          rw [if_pos h2]
          rfl
        rw [e] at h3
        cases h3
  unfold hg
  rw [if_neg h]
  exact h
/-- bits were turned, at most once in a sector -/
def Rotted (S S' : Nat → Sec) : Prop := ∀ j, S' j = S j ∨ ((S' j).rotten = true ∧ (S' j).loose = [] ∧ (S j).loose = [] ∧ ∃ at_ T : Nat, (S' j).fixed = turned (S j).fixed at_ T 32 ∧ turned (S j).fixed at_ T 32 ≠ (S j).fixed)
section
variable {Fl : Nat → Int → Nat → List UInt8 → Prop} {la k i g : Nat} {S S1 S2 : Nat → Sec} {rs : Nat → UInt32} {ws : Nat → Nat} {b : Int} {xs : List UInt8} {r : UInt32} {m : Vs} {L : List Slt}
theorem rot_sec {S S' : Nat → Sec} (h : Rotted S S') (hS : ∀ j, (S j).loose = []) (j : Nat) : (S' j).stands = (S j).stands ∨ ∃ at_ T : Nat, (S' j).stands = turned (S j).stands at_ T 32 ∧ turned (S j).stands at_ T 32 ≠ (S j).stands := by
  rcases h j with e | ⟨h1, h2, h3, a, T, h4, h5⟩
  · exact .inl (by rw [e])
  · rw [Sec.stands_fixed h2, Sec.stands_fixed h3]
    exact .inr ⟨a, T, h4, h5⟩
/-- WHAT IS READ WAS FILLED: behind a crash, and turned bits -/
theorem Keep.read (h : Keep Fl la k S rs ws) (hl : L.length = k) (h1 : ∀ j, Mays (S j) (S1 j).stands) (hS : ∀ j, (S1 j).loose = []) (h2 : Rotted S1 m.S) (ho : m.s.off = false) (hr : m.rd = 0) (z : Int) (hz : hasZ L z) (b : Int)
    (he : (readS la z b L m).1.2.2 = 0) : Fl z.toNat b (readS la z b L m).1.2.1 (readS la z b L m).1.1 := by
  have hrd : ∀ (m : Vs) (i : Nat), m.s.off = false → m.rd = 0 → rd1 m i = (0, (m.S i).stands, { m with rd := 0 }) := fun m i a b => by
    unfold rd1
    rw [if_neg (by rw [a]; decide), if_neg (by rw [b]; decide), b]
  have hi : z.toNat < k := by have := hz.2; have := hz.1; omega
  unfold readS at he ⊢
  rw [if_neg (fun x => x hz)] at he ⊢
  dsimp only at he ⊢
  rw [hrd m _ ho hr] at he ⊢
  dsimp only at he ⊢
  rw [if_neg (fun x => x rfl)] at he ⊢
  rw [hrd { m with rd := 0 } _ ho rfl] at he ⊢
  dsimp only at he ⊢
  rw [if_neg (fun x => x rfl)] at he ⊢
  generalize z.toNat = i at hi he ⊢
  obtain ⟨x, hx⟩ : ∃ x, (m.S (la + 2 * i)).stands = x := ⟨_, rfl⟩
  obtain ⟨y, hy⟩ : ∃ y, (m.S (la + 2 * i + 1)).stands = y := ⟨_, rfl⟩
  rw [hx, hy] at he ⊢
  by_cases n1 : (hg x).2 ≠ 0
  · rw [if_pos n1] at he; cases he
  rw [if_neg n1] at he ⊢
  have n1 := Classical.not_not.1 n1
  by_cases n2 : mt (hg x).1.u (hg x).1.l ((hg x).1.s.toNat : Int) b (sum y) ≠ 0
  · rw [if_pos n2] at he; exact absurd he n2
  rw [if_neg n2] at he ⊢
  have n2 := Classical.not_not.1 n2
  dsimp only
  have hu : (hg x).1.u = true ∧ (hg x).1.l = b ∧ ((hg x).1.s.toNat : Int) = (sum y : Int) := by
    unfold mt at n2
    split at n2
    · rename_i q
      split at n2
      · rename_i q2; exact ⟨q.1, q.2, q2⟩
      · cases n2
    · cases n2
  have hK := h.hd i hi _ (h1 (la + 2 * i))
  rcases rot_sec h2 hS (la + 2 * i) with ex | ⟨a, T, ex, en⟩
  · rw [hx] at ex
    rw [← ex] at hK
    rcases hK with e | ⟨r, e⟩ | ⟨b', g', ys, r, e, q1, q2, q3⟩
    · exact absurd n1 (by rw [e]; exact zs_hg)
    · rw [e, hg_sect (may0 r)] at hu; cases hu.1
    · rw [e, hg_sect (may1_iff.2 q1)] at hu ⊢
      dsimp only at hu ⊢
      obtain ⟨_, u2, u3⟩ := hu
      subst u2
      have hlt : sum ys < 4294967296 := sum_lt ys
      rw [UInt32.toNat_ofNat_of_lt' (by show _ < 4294967296; exact hlt)] at u3
      have hyy := q3 _ (h1 (la + 2 * i + 1))
      rcases rot_sec h2 hS (la + 2 * i + 1) with ey | ⟨a, T, ey, en⟩
      · rw [hy, hyy] at ey
        rw [ey]; exact q2
      · rw [hy, hyy] at ey
        rw [hyy] at en
        rw [ey] at u3
        obtain ⟨U, hU, e⟩ := turned_num ys a T 32
        exact absurd (burst_sum (turned_length ys a T 32) a U hU e (by omega)).symm en
  · rw [hx] at ex
    rcases hK with e | ⟨r, e⟩ | ⟨b', g', ys, r, e, q1, q2, q3⟩
    · rw [e] at ex
      have := zs_rot (a : Int) T (hg x).1 (by rw [← ex]; exact Prod.ext rfl n1)
      rw [this] at hu
      cases hu.1
    · rw [e] at ex en
      rw [ex, hg_rot _ a T (fun q => en q.symm)] at n1
      cases n1
    · rw [e] at ex en
      rw [ex, hg_rot _ a T (fun q => en q.symm)] at n1
      cases n1
/-- the wear behind a crash -/
theorem Keep.worn (h : Keep Fl la k S rs ws) (h1 : ∀ j, Mays (S j) (m.S j).stands) (ho : m.s.off = false) (hr : m.rd = 0) (hi : i < k) : ws i ≤ (wornAt la i m).toNat := by
  have hrd : rd1 m (la + 2 * i) = (0, (m.S (la + 2 * i)).stands, { m with rd := 0 }) := by
    unfold rd1
    rw [if_neg (by rw [ho]; decide), if_neg (by rw [hr]; decide), hr]
  unfold wornAt
  rw [hrd, if_pos rfl]
  exact (h.wr i hi).2 _ (h1 _)
theorem opn_len : ∀ (k i : Nat) (m : Vs), (opn la k i m).1.length = k
  | 0, _, _ => rfl
  | k + 1, i, m => by show (_ :: _ : List Slt).length = _; rw [List.length_cons, opn_len k]
end
end Go.Proofs.YtapklelkcicjlaaGreatDoor.Pd.Sl

/-
  The walk of the statement on what is no table. No conditions.
-/
import Derived.Test.YtgdgehfapfgdfaaGreatDoorGbAwake
namespace Go.Proofs.YtgdgehfapfgdfaaGreatDoor.Tb
open Go.RowKit Oc Dm W Dw Sr
set_option linter.unusedVariables false
set_option maxRecDepth 100000
attribute [local go_sem ↓] Go.wp_at_zero Go.wp_at_succ

theorem opn_zero {ga np : Nat} (h : 1 ≤ np) : opn ga np 0 m00 [] = (120, [], m00) := by
  have e : on1 ga m00 0 = (120, zp, m00) := by
    have hr : ∀ i, rd1 m00 i = (0, zs, m00) := fun i => by rw [rd1_quiet rfl rfl]; rfl
    unfold on1
    rw [hr]
    dsimp only
    rw [hr]
    dsimp only
    have h1 : (pk zs zs ((0 : Nat) : Int)).2.2 = false := by
      unfold pk nw
      rw [if_neg (gd_zs _), if_neg (gd_zs _)]
    rw [if_neg (fun h => h rfl), if_neg (fun h => h rfl), if_neg (by rw [h1]; decide)]
  obtain ⟨k, rfl⟩ : ∃ k, np = k + 1 := ⟨np - 1, by omega⟩
  rw [opn_no (by rw [e]; exact (show ¬ (120 : Int) = 0 by decide)), e]
section
variable {w : World} {F : Nat → Prop} {D pw n ne np ga k : Nat} {p : Pn.Pl}
/-- what Open and Format answer on a new device of n sectors -/
theorem open_new (h : PD w F D pw k 0 m00) (he : Env w) (hE : ∀ b, Al F pw b → 0 < b) (hp : Pln p ne np ga n) (v : Int) (hv : v = if k = n then 120 else 1) :
    Calls Tryz.prog 19 #[.pointer (some ⟨D, 0, none⟩), (.agg #[.int .i64 p.a0, .int .i64 p.a1, .int .i64 p.a2, .int .i64 p.a3, .int .i64 p.a4, .int .i64 p.a5, .int .i64 p.a6, .int .i64 p.a7, .int .i64 p.a8, .int .i64 p.a9, .int .i64 p.a10, .int .i64 p.a11, .int .i64 p.a12])] w fun e w' => e = .returned (.tuple #[.pointer none, .int .i64 v]) ∧ PD w' F D pw k 0 m00 ∧ Chg F w w' := by
  subst hv
  by_cases h1 : k = n
  · subst h1
    rw [if_pos rfl]
    refine (open_yes h he (fun b x => hE b (.inl x)) hp _ (opn_zero hp.hp)).mono fun e w' ⟨e1, e2, e3⟩ => ?_
    rcases e1 with ⟨e0, _⟩ | ⟨_, e4⟩
    · exact absurd e0 (show ¬ (120 : Int) = 0 by decide)
    · exact ⟨e4, e2, e3⟩
  · rw [if_neg h1]
    exact (open_no h (.inr (fun e => h1 (by have := hp.h4; omega)))).mono fun e w' ⟨e1, e2⟩ => ⟨e1, h.below e2, Chg.of_below e2⟩
theorem format_new (h : PD w F D pw k 0 m00) (he : Env w) (hE : ∀ b, Al F pw b → 0 < b) (hp : Pln p ne np ga n) (v : Int) (hv : v = if k = n then 0 else 1) :
    Calls Tryz.prog 24 #[.pointer (some ⟨D, 0, none⟩), (.agg #[.int .i64 p.a0, .int .i64 p.a1, .int .i64 p.a2, .int .i64 p.a3, .int .i64 p.a4, .int .i64 p.a5, .int .i64 p.a6, .int .i64 p.a7, .int .i64 p.a8, .int .i64 p.a9, .int .i64 p.a10, .int .i64 p.a11, .int .i64 p.a12])] w fun e w' => e = .returned (.int .i64 v) ∧ Chg (Al F pw) w w' := by
  subst hv
  by_cases h1 : k = n
  · subst h1
    rw [if_pos rfl]
    have hf := fmt_done (ga := ga) (np := np) (m := m00) (by have := hp.hn; have := hp.hn2; omega) m00_quiet (fun _ => rfl)
    refine (format_yes h he hE hp (by have := hp.hn; have := hp.hn2; omega) _ rfl).mono fun e w' ⟨e1, e2, e3⟩ => ⟨by rw [e1, hf.1], e3⟩
  · rw [if_neg h1]
    exact (format_no h (.inr (fun e => h1 (by have := hp.h4; omega)))).mono fun e w' ⟨e1, e2⟩ => ⟨e1, Chg.of_below e2⟩
end
set_option maxHeartbeats 8000000 in
theorem makes_walk (x s : Nat) (hx : x ≤ 65535) (hs : s ≤ 65535) (w : World) (he : Env w) :
    Calls Tryz.prog 5 #[.int .u16 (x : Int), .int .u16 (s : Int)] w fun e w' => e = .returned (.bool true) ∧ Below w.heap.size w w' := by
  obtain ⟨xm, hxm⟩ : ∃ f : Nat, (x : Int) % 100 = (f : Int) := ⟨x % 100, by omega⟩
  obtain ⟨sm, hsm⟩ : ∃ f : Nat, (s : Int) % 200 = (f : Int) := ⟨s % 200, by omega⟩
  have hx2 : xm ≤ 99 := by omega
  have hs2 : sm ≤ 199 := by omega
  obtain ⟨c, hc⟩ : ∃ c, c = Pn.cfOf (1 + (xm : Int) % 512) (1 + (0 : Int) % 192) (1 + (0 : Int) % 256) := ⟨_, rfl⟩
  obtain ⟨p, hp⟩ : ∃ p, p = Pn.planOf c.c0 c.c1 c.c2 := ⟨_, rfl⟩
  have hm : Pn.May c := by rw [hc]; exact ⟨⟨by show 1 ≤ 1 + (xm : Int) % 512; omega, by show 1 + (xm : Int) % 512 ≤ 512; omega⟩, ⟨(show (1 : Int) ≤ 1 by decide), (show (1 : Int) ≤ 192 by decide)⟩, ⟨(show (1 : Int) ≤ 1 by decide), (show (1 : Int) ≤ 256 by decide)⟩, ⟨(show (1 : Int) ≤ 10 by decide), (show (10 : Int) ≤ 4096 by decide)⟩, ⟨(show (0 : Int) ≤ 100 by decide), (show (100 : Int) ≤ 1048576 by decide)⟩, ⟨(show (0 : Int) ≤ 0 by decide), (show (0 : Int) ≤ 1048576 by decide)⟩⟩
  have hP : Pln p (xm / 8 + 1) (xm / 48 + 1) (1 + xm) (1 + xm + 2 * (xm / 48 + 1)) := by
    have e : p = Pn.planOf (1 + (xm : Int)) 1 1 := by
      rw [hp, hc]
      show Pn.planOf (1 + (xm : Int) % 512) 1 1 = _
      rw [show (xm : Int) % 512 = (xm : Int) by omega]
    rw [e]
    exact pln_plan xm hx2
  generalize xm / 8 + 1 = ne at hP
  generalize xm / 48 + 1 = np at hP
  generalize 1 + xm + 2 * np = n at hP
  generalize 1 + xm = ga at hP
  have ONE := Lib.hid (show (#[.int .i64 c.c0, .int .i64 c.c1, .int .i64 c.c2, .int .i64 c.c3, .int .i64 c.c4, c.c5, c.c6, c.c7, c.c8, .int .i64 c.c9] : Array Value).all (fun x => x.oneCell') = true by rw [hc]; simp [Pn.cfOf, Value.oneCell'])
  have CONF := Lib.hid (fun w => Pn.conf_any (xm : Int) 0 0 c hc w (by omega) (by omega) (by decide) (by decide) (by decide) (by decide))
  have OF := Lib.hid (fun w => Pn.of_yes c p hp hm w)
  have ROF := Lib.hid (fun w => Pn.rof_any c p hp w hm.1.1 hm.1.2 hm.2.1.1 hm.2.1.2 hm.2.2.1.1 hm.2.2.1.2)
  have HE := Lib.hid he
  have HP := Lib.hid hP
  have hn2 : n ≤ 4096 := hP.hn2
  clear hc hp hP he hm
  go_enter Tryz.func5, Tryz.ntmps5
  go_wp2_with fail
  refine (CONF.out _).mono ?_; rintro e w1 ⟨rfl, b1⟩
  have B1 := Lib.hid b1
  clear b1
  go_wp2_with (first | ((with_reducible apply Pn.L_storeRow (N := 10) Pn.info_conf); exact rfl; exact rfl; exact heap_alloc_new _ _; exact rfl; exact rfl; (first | exact ONE.out | (simp [Value.oneCell'])); intro w2 h2 g2; have H2 := Lib.hid h2; have B2 := Lib.hid (bthen B1.out ((balloc _ _).grown g2 (by simp) (fun k e => by injection e with e; omega))); clear h2 g2) | ((with_reducible apply Pn.L_loadConf); exact rfl; exact H2.out; exact rfl))
  refine (OF.out _).mono ?_; rintro e w3 ⟨rfl, b3⟩
  have H3 := Lib.hid (kept_below H2.out b3)
  have B3 := Lib.hid (bthen B2.out b3)
  clear b3 B1 B2 H2
  have H3' := Lib.hid (kept_below H3.out (balloc w3 (.cells #[.int .i64 p.a0, .int .i64 p.a1, .int .i64 p.a2, .int .i64 p.a3, .int .i64 p.a4, .int .i64 p.a5, .int .i64 p.a6, .int .i64 p.a7, .int .i64 p.a8, .int .i64 p.a9, .int .i64 p.a10, .int .i64 p.a11, .int .i64 p.a12] 46)))
  go_wp2_with ((with_reducible apply Pn.L_loadConf); exact rfl; exact H3'.out; exact rfl)
  refine (ROF.out _).mono ?_; rintro e w4 ⟨rfl, b4⟩
  have B4 := Lib.hid (bthen (bthen B3.out (balloc w3 (.cells #[.int .i64 p.a0, .int .i64 p.a1, .int .i64 p.a2, .int .i64 p.a3, .int .i64 p.a4, .int .i64 p.a5, .int .i64 p.a6, .int .i64 p.a7, .int .i64 p.a8, .int .i64 p.a9, .int .i64 p.a10, .int .i64 p.a11, .int .i64 p.a12] 46))) b4)
  have X4 := Lib.hid (kept_below (heap_alloc_new w3 (.cells #[.int .i64 p.a0, .int .i64 p.a1, .int .i64 p.a2, .int .i64 p.a3, .int .i64 p.a4, .int .i64 p.a5, .int .i64 p.a6, .int .i64 p.a7, .int .i64 p.a8, .int .i64 p.a9, .int .i64 p.a10, .int .i64 p.a11, .int .i64 p.a12] 46)) b4)
  clear b4 B3 H3 H3'
  have hfd : (Instr.field 42 (.agg #[.int .i64 p.a0, .int .i64 p.a1, .int .i64 p.a2, .int .i64 p.a3, .int .i64 p.a4, .int .i64 p.a5, .int .i64 p.a6, .int .i64 p.a7, .int .i64 p.a8, .int .i64 p.a9, .int .i64 p.a10, .int .i64 p.a11, .int .i64 p.a12]) 4).run Tryz.prog w4 = .ok (.int .i64 (n : Int)) w4 := by rw [field_4, HP.out.h4]
  go_wp2_with fail
  refine (newpower_any w4).mono ?_; rintro e w5 ⟨rfl, p5, b5, s5⟩
  have P5 := Lib.hid p5
  have B5 := Lib.hid (bthen B4.out b5)
  have X5 := Lib.hid (kept_below X4.out b5)
  have GE : Hid (w.heap.size ≤ w4.heap.size ∧ w3.heap.size < w4.heap.size) := ⟨B4.out.size, lt_of_heap X4.out⟩
  clear hfd b5 p5 B4 X4
  go_wp2_with fail
  refine (new_pd P5.out (show sm ≤ 4096 by omega)).mono ?_; rintro e w6 ⟨D, rfl, hD, p6, b6⟩
  have P6 := Lib.hid p6
  have B6 := Lib.hid (bthen B5.out b6)
  have X6 := Lib.hid (kept_below X5.out b6)
  have FR : Hid (∀ b, Al (Fresh w5 w6) w4.heap.size b → w4.heap.size ≤ b ∧ w3.heap.size ≠ b ∧ ¬ b < w.heap.size) := fun b x => by
    have g1 := GE.out.1
    have g2 := GE.out.2
    rcases x with x | x
    · have := x.1; exact ⟨by omega, by omega, by omega⟩
    · subst x; exact ⟨by omega, by omega, by omega⟩
  have EG : Hid (∀ b, Al (Fresh w5 w6) w4.heap.size b → 0 < b) := fun b x => by
    obtain ⟨t, fr, hh⟩ := HE.out
    have := lt_of_heap hh
    have := (FR.out b x).2.2
    omega
  generalize Fresh w5 w6 = F at P6 FR EG
  clear b6 p6 hD B5 X5 P5 s5
  obtain ⟨v1, hv1⟩ : ∃ v : Int, v = if sm = n then 120 else 1 := ⟨_, rfl⟩
  obtain ⟨v2, hv2⟩ : ∃ v : Int, v = if sm = n then 0 else 1 := ⟨_, rfl⟩
  have V1 := Lib.hid hv1
  have V2 := Lib.hid hv2
  clear hv1 hv2
  go_wp2_with ((with_reducible apply Pn.L_loadMap); exact rfl; exact X6.out; exact rfl)
  refine (open_new P6.out (HE.out.below B6.out) EG.out HP.out v1 V1.out).mono ?_; rintro e w7 ⟨rfl, p7, c7⟩
  have P7 := Lib.hid p7
  have X7 := Lib.hid ((c7.block w3.heap.size (lt_of_heap X6.out) (fun x => (FR.out _ (.inl x)).2.1 rfl)).trans X6.out)
  have B7 := Lib.hid (B6.out.trans (c7.below B6.out.size (fun b hb x => (FR.out b (.inl x)).2.2 hb)))
  clear p7 c7 B6 X6 P6
  go_wp2_with ((with_reducible apply Pn.L_loadMap); exact rfl; exact X7.out; exact rfl)
  refine (open_nil p _).mono ?_; rintro e w8 ⟨rfl, b8⟩
  have P8 := Lib.hid (P7.out.below b8)
  have X8 := Lib.hid (kept_below X7.out b8)
  have B8 := Lib.hid (bthen B7.out b8)
  clear b8 B7 X7 P7
  go_wp2_with fail
  refine (open_no (p := Pn.noPlan) P8.out (.inl rfl)).mono ?_; rintro e w9 ⟨rfl, b9⟩
  have P9 := Lib.hid (P8.out.below b9)
  have X9 := Lib.hid (kept_below X8.out b9)
  have B9 := Lib.hid (bthen B8.out b9)
  clear b9 B8 X8 P8
  go_wp2_with ((with_reducible apply Pn.L_loadMap); exact rfl; exact X9.out; exact rfl)
  refine (format_new P9.out (HE.out.below B9.out) EG.out HP.out v2 V2.out).mono ?_; rintro e w10 ⟨rfl, c10⟩
  have X10 := Lib.hid ((c10.block w3.heap.size (lt_of_heap X9.out) (fun x => (FR.out _ x).2.1 rfl)).trans X9.out)
  have B10 := Lib.hid (B9.out.trans (c10.below B9.out.size (fun b hb x => (FR.out b x).2.2 hb)))
  clear c10 B9 X9 P9
  go_wp2_with fail
  refine (get_nil _ 0).mono ?_; rintro e w' ⟨rfl, rfl⟩
  have bo := balloc w10 (.cells #[.pointer none, .int .i64 0, .int .i64 0, .int .i64 0, .int .i64 0, .int .i64 0, .int .i64 0, .int .i64 0, .int .i64 0, .int .i64 0, .int .i64 0, .int .i64 0, .int .i64 0, .int .i64 0, .slice none 0 0] 81)
  have C0 : Hid (∀ y, Below (w10.alloc (.cells #[.pointer none, .int .i64 0, .int .i64 0, .int .i64 0, .int .i64 0, .int .i64 0, .int .i64 0, .int .i64 0, .int .i64 0, .int .i64 0, .int .i64 0, .int .i64 0, .int .i64 0, .int .i64 0, .slice none 0 0] 81)).heap.size (w10.alloc (.cells #[.pointer none, .int .i64 0, .int .i64 0, .int .i64 0, .int .i64 0, .int .i64 0, .int .i64 0, .int .i64 0, .int .i64 0, .int .i64 0, .int .i64 0, .int .i64 0, .int .i64 0, .int .i64 0, .slice none 0 0] 81)) y → y.cell? ⟨w10.heap.size, 0, none⟩ = some (.pointer none)) := fun y hy => cell_of_row _ _ 0 _ _ _ (kept_below (heap_alloc_new w10 (.cells #[.pointer none, .int .i64 0, .int .i64 0, .int .i64 0, .int .i64 0, .int .i64 0, .int .i64 0, .int .i64 0, .int .i64 0, .int .i64 0, .int .i64 0, .int .i64 0, .int .i64 0, .int .i64 0, .slice none 0 0] 81)) hy)
  have B11 := Lib.hid (bthen B10.out bo)
  have X11 := Lib.hid (kept_below X10.out bo)
  clear bo B10 X10
  generalize w10.alloc (.cells #[.pointer none, .int .i64 0, .int .i64 0, .int .i64 0, .int .i64 0, .int .i64 0, .int .i64 0, .int .i64 0, .int .i64 0, .int .i64 0, .int .i64 0, .int .i64 0, .int .i64 0, .int .i64 0, .slice none 0 0] 81) = w11 at C0 B11 X11 ⊢
  go_wp2_with fail
  refine (get_odd _ _ (C0.out _ (Below.refl _ _)) 0).mono ?_; rintro e w' ⟨rfl, rfl⟩
  go_wp2_with fail
  refine (bump_nil _ _).mono ?_; rintro e w12 ⟨rfl, b12⟩
  have B12 : Hid (Below w11.heap.size w11 w12) := bthen (balloc w11 _) b12
  clear b12
  go_wp2_with fail
  refine (bump_odd _ _ (C0.out _ B12.out) _).mono ?_; rintro e w13 ⟨rfl, b13⟩
  have B13 : Hid (Below w11.heap.size w11 w13) := bthen B12.out b13
  clear b13 B12
  go_wp2_with fail
  refine (all_nil _).mono ?_; rintro e w' ⟨rfl, rfl⟩
  go_wp2_with fail
  refine (all_odd _ _ (C0.out _ B13.out)).mono ?_; rintro e w' ⟨rfl, rfl⟩
  go_wp2_with fail
  refine (pages_nil _ _).mono ?_; rintro e w' ⟨rfl, rfl⟩
  have B14 : Hid (Below w11.heap.size w11 (w13.alloc (.cells #[.int .i64 0] 3))) := bthen B13.out (balloc w13 _)
  generalize w13.alloc (.cells #[.int .i64 0] 3) = w14 at B14 ⊢
  clear B13
  go_wp2_with fail
  have B15 : Hid (Below w11.heap.size w11 (w14.alloc (.cells #[.int .i64 0] 3))) := bthen B14.out (balloc w14 _)
  refine (pages_odd _ _ (C0.out _ B15.out) _).mono ?_; rintro e w' ⟨rfl, rfl⟩
  have X15 := Lib.hid (kept_below X11.out B15.out)
  generalize w14.alloc (.cells #[.int .i64 0] 3) = w15 at B15 X15 ⊢
  clear B14
  obtain ⟨x0, x1, x2, x3, x4, x5, x6, x7, x8, x9, x10, x11, x12⟩ := plan_cells X15.out
  go_wp2_with fail
  refine (format_nil p _).mono ?_; rintro e w16 ⟨rfl, b16⟩
  have B16 := Lib.hid (bthen B11.out (bthen B15.out b16))
  clear b16 B15 X15 x0 x1 x2 x3 x4 x5 x6 x7 x8 x9 x10 x11 x12
  by_cases hq : sm = n
  · have e1 : v1 = 120 := by rw [V1.out, if_pos hq]
    have e2 : v2 = 0 := by rw [V2.out, if_pos hq]
    subst e1 e2 hq
    clear V1 V2
    go_wp2_with fail
    refine (awake_any _ (HE.out.below B16.out)).mono ?_; rintro e w17 ⟨rfl, b17⟩
    have B17 := Lib.hid (bthen B16.out b17)
    clear b17
    go_wp2
    go_ret
    exact ⟨rfl, B17.out⟩
  · have e1 : v1 = 1 := by rw [V1.out, if_neg hq]
    have e2 : v2 = 1 := by rw [V2.out, if_neg hq]
    have hq2 : ¬ (sm : Int) = (n : Int) := by omega
    subst e1 e2
    clear V1 V2 hq
    go_wp2_with fail
    refine (awake_any _ (HE.out.below B16.out)).mono ?_; rintro e w17 ⟨rfl, b17⟩
    have B17 := Lib.hid (bthen B16.out b17)
    clear b17
    go_wp2
    go_ret
    exact ⟨rfl, B17.out⟩
theorem makes_law (w : World) (x : Int) (hx : (Lit.int .u16 x).wf = true) (s : Int) (hs : (Lit.int .u16 s).wf = true) (he : Env w) :
    Calls Tryz.prog 5 #[.int .u16 x, .int .u16 s] w fun e w' => e = .returned (.bool true) ∧ Below w.heap.size w w' := by
  simp [Lit.wf, IntKind.min, IntKind.max, IntKind.signed, IntKind.bits] at hx hs
  obtain ⟨a, rfl⟩ := Int.eq_ofNat_of_zero_le hx.1
  obtain ⟨b, rfl⟩ := Int.eq_ofNat_of_zero_le hs.1
  exact makes_walk a b (by omega) (by omega) w he
end Go.Proofs.YtgdgehfapfgdfaaGreatDoor.Tb

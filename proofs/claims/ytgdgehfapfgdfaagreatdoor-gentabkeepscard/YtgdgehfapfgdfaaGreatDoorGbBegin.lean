/-
  begin. No conditions.
-/
import Derived.Test.YtgdgehfapfgdfaaGreatDoorGbPairOpen
import Derived.BigQuiet
namespace Go.Proofs.YtgdgehfapfgdfaaGreatDoor.Tb
open Go.RowKit Oc Dm W Dw Sr Gt
set_option linter.unusedVariables false
set_option maxRecDepth 100000
attribute [local go_sem ↓] Go.wp_at_zero Go.wp_at_succ

theorem pln_plan (x : Nat) (hx : x ≤ 99) : Pln (Pn.planOf (1 + (x : Int)) 1 1) (x / 8 + 1) (x / 48 + 1) (1 + x) (1 + x + 2 * (x / 48 + 1)) := by
  have e1 : Pn.ups (1 + (x : Int)) 8 = ((x / 8 + 1 : Nat) : Int) := by unfold Pn.ups; omega
  have e2 : Pn.ups ((x / 8 + 1 : Nat) : Int) 6 = ((x / 48 + 1 : Nat) : Int) := by unfold Pn.ups; omega
  refine ⟨e1, ?_, ?_, ?_, rfl, by omega, by omega, by omega, by omega, by omega, by omega⟩
  · show Pn.ups (Pn.ups (1 + (x : Int)) 8) 6 = _; rw [e1, e2]
  · show 1 + (x : Int) = ((1 + x : Nat) : Int); omega
  · show 1 + (x : Int) + 2 * Pn.ups (Pn.ups (1 + (x : Int)) 8) 6 = _; rw [e1, e2]; omega
def m00 : Vs := ⟨⟨false, none, 0⟩, fun _ => sec0, 0, 0⟩
theorem m00_quiet : Quiet m00 := ⟨rfl, rfl, rfl, rfl⟩
def PCo (p : Pn.Pl) (pw D q E T U : Option Addr) : Array Value := #[.int .i64 p.a0, .int .i64 p.a1, .int .i64 p.a2, .int .i64 p.a3, .int .i64 p.a4, .int .i64 p.a5, .int .i64 p.a6, .int .i64 p.a7, .int .i64 p.a8, .int .i64 p.a9, .int .i64 p.a10, .int .i64 p.a11, .int .i64 p.a12, .int .i64 p.a0, .int .i64 p.a1, .int .i64 p.a2, .int .i64 p.a3, .int .i64 p.a4, .int .i64 p.a5, .int .i64 p.a6, .int .i64 p.a7, .int .i64 p.a8, .int .i64 p.a9, .int .i64 p.a10, .int .i64 p.a11, .int .i64 p.a12, .pointer pw, .pointer D, .pointer T, .pointer q, .pointer E, .pointer U]
/-- the pair as it is first, without devices -/
structure Bg (wa : World) (P : Nat) (p : Pn.Pl) (pw q : Nat) (wc : World) : Prop where
  head : wc.heap[P]? = some (.cells (PCo p (some ⟨pw, 0, none⟩) none (some ⟨q, 0, none⟩) none none none) 54 (0, 0))
  hpw : Pw wc pw ⟨false, none, 0⟩
  hqw : Qw wc q ⟨false, none, 0⟩
  ne : P ≠ pw ∧ P ≠ q ∧ pw ≠ q
  ge : wa.heap.size ≤ P ∧ wa.heap.size ≤ pw ∧ wa.heap.size ≤ q
  bel : Below wa.heap.size wa wc
theorem qw_box (w : World) : Qw (w.alloc (.cells #[.bool false, .bool false, .int .i64 0, .int .i64 0] 87)) w.heap.size ⟨false, none, 0⟩ := ⟨0, heap_alloc_new w _, fun k e => by cases e⟩
theorem bg_fin {wa wx : World} {p : Pn.Pl} {pw q : Nat} (h1 : Pw wx pw ⟨false, none, 0⟩) (h2 : Qw wx q ⟨false, none, 0⟩) (hb : Below wa.heap.size wa wx) (hne : pw ≠ q) (g1 : wa.heap.size ≤ pw) (g2 : wa.heap.size ≤ q) :
    Bg wa wx.heap.size p pw q (wx.alloc (.cells (PCo p (some ⟨pw, 0, none⟩) none (some ⟨q, 0, none⟩) none none none) 54)) := by
  have b := balloc wx (.cells (PCo p (some ⟨pw, 0, none⟩) none (some ⟨q, 0, none⟩) none none none) 54)
  have l1 := h1.lt
  have l2 := h2.lt
  exact ⟨heap_alloc_new _ _, h1.heap (b.block _ l1), h2.heap (b.block _ l2), ⟨by omega, by omega, hne⟩, ⟨hb.size, g1, g2⟩, bthen hb b⟩
theorem bg_fin2 {wa wx : World} {p : Pn.Pl} {pw q P pw' q' : Nat} (eP : P = wx.heap.size) (e1 : pw' = pw) (e2 : q' = q) (h1 : Pw wx pw ⟨false, none, 0⟩) (h2 : Qw wx q ⟨false, none, 0⟩) (hb : Below wa.heap.size wa wx) (hne : pw ≠ q) (g1 : wa.heap.size ≤ pw) (g2 : wa.heap.size ≤ q) :
    Hid (Bg wa P p pw' q' (wx.alloc (.cells (PCo p (some ⟨pw', 0, none⟩) none (some ⟨q', 0, none⟩) none none none) 54))) := by
  subst eP e1 e2
  exact bg_fin h1 h2 hb hne g1 g2
/-- what begin leaves -/
structure Begun (x ne np ga n : Nat) (p : Pn.Pl) (m : Vs) (L : List Gp) : Prop where
  pln : Pln p ne np ga n
  quiet : Quiet m
  done : m.s.done = np + 1
  inv : Inv No2 ga np m.S L
  like : ∀ (j : Nat) (q : Gp), L[j]? = some q → Like (fresh j) q
theorem run_load_row46 {w : World} {b : Nat} {T : TypeId} {p : Pn.Pl} (hg : w.heap[b]? = some (.cells #[.int .i64 p.a0, .int .i64 p.a1, .int .i64 p.a2, .int .i64 p.a3, .int .i64 p.a4, .int .i64 p.a5, .int .i64 p.a6, .int .i64 p.a7, .int .i64 p.a8, .int .i64 p.a9, .int .i64 p.a10, .int .i64 p.a11, .int .i64 p.a12] T (0, 0))) : (Instr.loadAt 46 (.pointer (some ⟨b, 0, none⟩))).run Tryz.prog w = .ok (.agg #[.int .i64 p.a0, .int .i64 p.a1, .int .i64 p.a2, .int .i64 p.a3, .int .i64 p.a4, .int .i64 p.a5, .int .i64 p.a6, .int .i64 p.a7, .int .i64 p.a8, .int .i64 p.a9, .int .i64 p.a10, .int .i64 p.a11, .int .i64 p.a12]) w := by
  simp only [Instr.loadAt, Instr.sureAddr, Sem.run_bind, Sem.run_pure, Result.andThen_ok, run_loadVar_row w b T 46 _ (0, 0) _ hg Tryz.underlying46 rfl Pn.info_map]
theorem run_load_row70 {w : World} {b : Nat} {T : TypeId} {c : Pn.Cf} (hg : w.heap[b]? = some (.cells #[.int .i64 c.c0, .int .i64 c.c1, .int .i64 c.c2, .int .i64 c.c3, .int .i64 c.c4, c.c5, c.c6, c.c7, c.c8, .int .i64 c.c9] T (0, 0))) : (Instr.loadAt 70 (.pointer (some ⟨b, 0, none⟩))).run Tryz.prog w = .ok (.agg #[.int .i64 c.c0, .int .i64 c.c1, .int .i64 c.c2, .int .i64 c.c3, .int .i64 c.c4, c.c5, c.c6, c.c7, c.c8, .int .i64 c.c9]) w := by
  simp only [Instr.loadAt, Instr.sureAddr, Sem.run_bind, Sem.run_pure, Result.andThen_ok, run_loadVar_row w b T 70 _ (0, 0) _ hg Tryz.underlying70 rfl Pn.info_conf]
theorem new_pd {w : World} {n pw : Nat} (hp : Pw w pw ⟨false, none, 0⟩) (hn : n ≤ 4096) : Calls Tryz.prog 23 #[.int .i64 (n : Int), .pointer (some ⟨pw, 0, none⟩)] w fun e w' => ∃ D, e = .returned (.tuple #[.pointer (some ⟨D, 0, none⟩), .int .i64 0]) ∧ w.heap.size ≤ D ∧ PD w' (Fresh w w') D pw n 0 m00 ∧ Below w.heap.size w w' :=
  (new_yes hp hn).mono fun e w' ⟨D, fx, m, r, e1, e2, e3, e4⟩ => ⟨D, e1, e2, ⟨hp.heap (e4.block _ hp.lt), ⟨_, _, _, _, e3⟩, fun x => by have := hp.lt; have := x.1; omega, Nat.zero_le _, by decide⟩, e4⟩
theorem rnew_rd {w : World} {n q : Nat} (hq : Qw w q ⟨false, none, 0⟩) (hn : n ≤ 4096) : Calls Tryz.prog 27 #[.int .i64 (n : Int), .pointer (some ⟨q, 0, none⟩)] w fun e w' => ∃ E, e = .returned (.pointer (some ⟨E, 0, none⟩)) ∧ w.heap.size ≤ E ∧ RD w' (Fresh w w') E q n 0 m00 ∧ Below w.heap.size w w' :=
  (rnew_any w n q hn).mono fun e w' ⟨E, gs, e1, e2, e3, e4⟩ => ⟨E, e1, e2, ⟨hq.heap (e4.block _ hq.lt), ⟨_, _, e3⟩, fun x => by have := hq.lt; have := x.1; omega, fun k e => (by cases e), Nat.zero_le _, fun i hi => Nat.zero_le _, by decide⟩, e4⟩
theorem Pr.base {w wa w' : World} {P n N pw D q E : Nat} {p : Pn.Pl} {T U : Option Addr} {F G H1 H2 : Nat → Prop} {m1 m2 : Vs} {t1 t2 : Option (List Gp)} (h : Pr wa P p n N pw D q E T U F G H1 H2 m1 m2 t1 t2 w') (hb : Below w.heap.size w wa) : Pr w P p n N pw D q E T U F G H1 H2 m1 m2 t1 t2 w' :=
  ⟨h.pd, h.rd, h.tb1, h.tb2, ⟨h.ap.col, fun b x => ⟨Nat.le_trans hb.size (h.ap.lo b x).1, (h.ap.lo b x).2⟩⟩, bthen hb h.bel⟩
section
variable {w w' : World}
set_option maxHeartbeats 8000000 in
theorem begin_any (x : Nat) (hx : x ≤ 99) (c : Pn.Cf) (hc : c = Pn.cfOf (1 + (x : Int) % 512) (1 + (0 : Int) % 192) (1 + (0 : Int) % 256)) (p : Pn.Pl) (hp : p = Pn.planOf c.c0 c.c1 c.c2) (ne np ga n : Nat) (hP : Pln p ne np ga n) (w : World) (he : Env w) :
    Calls Tryz.prog 7 #[.int .u16 (x : Int)] w fun e w' => ∃ P pw D q E T U m L, e = .returned (.tuple #[.pointer (some ⟨P, 0, none⟩), .bool true]) ∧ (∃ F G H1 H2, Pr w P p n (np + np + 2) pw D q E (some ⟨T, 0, none⟩) U F G H1 H2 m m (some L) (some L) w') ∧ PHead w' P p pw D q E (some ⟨T, 0, none⟩) U ∧ Begun x ne np ga n p m L := by
  have hm : Pn.May c := by rw [hc]; exact ⟨⟨by show 1 ≤ 1 + (x : Int) % 512; omega, by show 1 + (x : Int) % 512 ≤ 512; omega⟩, ⟨(show (1 : Int) ≤ 1 by decide), (show (1 : Int) ≤ 192 by decide)⟩, ⟨(show (1 : Int) ≤ 1 by decide), (show (1 : Int) ≤ 256 by decide)⟩, ⟨(show (1 : Int) ≤ 10 by decide), (show (10 : Int) ≤ 4096 by decide)⟩, ⟨(show (0 : Int) ≤ 100 by decide), (show (100 : Int) ≤ 1048576 by decide)⟩, ⟨(show (0 : Int) ≤ 0 by decide), (show (0 : Int) ≤ 1048576 by decide)⟩⟩
  have ONE := Lib.hid (show (#[.int .i64 c.c0, .int .i64 c.c1, .int .i64 c.c2, .int .i64 c.c3, .int .i64 c.c4, c.c5, c.c6, c.c7, c.c8, .int .i64 c.c9] : Array Value).all (fun x => x.oneCell') = true by rw [hc]; simp [Pn.cfOf, Value.oneCell'])
  have CONF := Lib.hid (fun w => Pn.conf_any (x : Int) 0 0 c hc w (by omega) (by omega) (by decide) (by decide) (by decide) (by decide))
  have OF := Lib.hid (fun w => Pn.of_yes c p hp hm w)
  have ROF := Lib.hid (fun w => Pn.rof_any c p hp w hm.1.1 hm.1.2 hm.2.1.1 hm.2.1.2 hm.2.2.1.1 hm.2.2.1.2)
  have HE := Lib.hid he
  have HP := Lib.hid hP
  clear hc hp hP he hm
  go_enter Tryz.func7, Tryz.ntmps7
  go_wp2_with fail
  refine (CONF.out _).mono ?_; rintro e w1 ⟨rfl, b1⟩
  have B1 := Lib.hid b1
  clear b1
  go_wp2_with (first | ((with_reducible apply Pn.L_storeRow (N := 10) Pn.info_conf); exact rfl; exact rfl; exact heap_alloc_new _ _; exact rfl; exact rfl; (first | exact ONE.out | (simp [Value.oneCell'])); intro w2 h2 g2; have H2 := Lib.hid h2; have B2 := Lib.hid (bthen B1.out ((balloc _ _).grown g2 (by simp) (fun k e => by injection e with e; omega))); clear h2 g2) | ((with_reducible apply Pn.L_loadConf); exact rfl; exact H2.out; exact rfl))
  refine (OF.out _).mono ?_; rintro e w3 ⟨rfl, b3⟩
  have H3 := Lib.hid (kept_below H2.out b3)
  have B3 := Lib.hid (bthen B2.out b3)
  clear b3 B1 B2 H2
  go_upto_region 3 with fail
  have BA := Lib.hid (bthen B3.out (balloc w3 (.cells #[.int .i64 p.a0, .int .i64 p.a1, .int .i64 p.a2, .int .i64 p.a3, .int .i64 p.a4, .int .i64 p.a5, .int .i64 p.a6, .int .i64 p.a7, .int .i64 p.a8, .int .i64 p.a9, .int .i64 p.a10, .int .i64 p.a11, .int .i64 p.a12] 46)))
  have HA := Lib.hid (heap_alloc_new w3 (.cells #[.int .i64 p.a0, .int .i64 p.a1, .int .i64 p.a2, .int .i64 p.a3, .int .i64 p.a4, .int .i64 p.a5, .int .i64 p.a6, .int .i64 p.a7, .int .i64 p.a8, .int .i64 p.a9, .int .i64 p.a10, .int .i64 p.a11, .int .i64 p.a12] 46))
  have CA := Lib.hid (kept_below H3.out (balloc w3 (.cells #[.int .i64 p.a0, .int .i64 p.a1, .int .i64 p.a2, .int .i64 p.a3, .int .i64 p.a4, .int .i64 p.a5, .int .i64 p.a6, .int .i64 p.a7, .int .i64 p.a8, .int .i64 p.a9, .int .i64 p.a10, .int .i64 p.a11, .int .i64 p.a12] 46)))
  generalize w3.alloc (.cells #[.int .i64 p.a0, .int .i64 p.a1, .int .i64 p.a2, .int .i64 p.a3, .int .i64 p.a4, .int .i64 p.a5, .int .i64 p.a6, .int .i64 p.a7, .int .i64 p.a8, .int .i64 p.a9, .int .i64 p.a10, .int .i64 p.a11, .int .i64 p.a12] 46) = wa at BA HA CA ⊢
  clear B3 H3
  go_cut [7] from 17 to 24 (fun s7 wc => ∃ P pw q, s7 = .pointer (some ⟨P, 0, none⟩) ∧ Hid (Bg wa P p pw q wc))
  case first =>
    have KS : Hid (∀ y, Below wa.heap.size wa y → y.heap[w3.heap.size]? = some (.cells #[.int .i64 p.a0, .int .i64 p.a1, .int .i64 p.a2, .int .i64 p.a3, .int .i64 p.a4, .int .i64 p.a5, .int .i64 p.a6, .int .i64 p.a7, .int .i64 p.a8, .int .i64 p.a9, .int .i64 p.a10, .int .i64 p.a11, .int .i64 p.a12] 46 (0, 0)) ∧ y.heap[w1.heap.size]? = some (.cells #[.int .i64 c.c0, .int .i64 c.c1, .int .i64 c.c2, .int .i64 c.c3, .int .i64 c.c4, c.c5, c.c6, c.c7, c.c8, .int .i64 c.c9] 70 (0, 0))) := fun y hy => ⟨kept_below HA.out hy, kept_below CA.out hy⟩
    refine gate (fun y => y.heap[w3.heap.size]? = some (.cells #[.int .i64 p.a0, .int .i64 p.a1, .int .i64 p.a2, .int .i64 p.a3, .int .i64 p.a4, .int .i64 p.a5, .int .i64 p.a6, .int .i64 p.a7, .int .i64 p.a8, .int .i64 p.a9, .int .i64 p.a10, .int .i64 p.a11, .int .i64 p.a12] 46 (0, 0)) ∧ y.heap[w1.heap.size]? = some (.cells #[.int .i64 c.c0, .int .i64 c.c1, .int .i64 c.c2, .int .i64 c.c3, .int .i64 c.c4, c.c5, c.c6, c.c7, c.c8, .int .i64 c.c9] 70 (0, 0))) 8 [0, 1, 4] 6 (by kernel_rfl) (by kernel_rfl) (by kernel_rfl) rfl ?_ (KS.out _ (Below.refl _ _).drew) ?_
    · intro d v c a w h
      cases d <;> exact h
    refine yields_step (.agg #[.int .i64 p.a0, .int .i64 p.a1, .int .i64 p.a2, .int .i64 p.a3, .int .i64 p.a4, .int .i64 p.a5, .int .i64 p.a6, .int .i64 p.a7, .int .i64 p.a8, .int .i64 p.a9, .int .i64 p.a10, .int .i64 p.a11, .int .i64 p.a12]) rfl rfl ?_ ?_
    · intro y hS; exact exec_ld rfl (by go_simp) (run_load_row46 hS.1)
    refine yields_step (.agg #[.int .i64 c.c0, .int .i64 c.c1, .int .i64 c.c2, .int .i64 c.c3, .int .i64 c.c4, c.c5, c.c6, c.c7, c.c8, .int .i64 c.c9]) rfl rfl ?_ ?_
    · intro y hS; exact exec_ld rfl (by go_simp) (run_load_row70 hS.2)
    refine yields_step ?_ rfl rfl ?_ ?_
    rotate_left
    · intro y hS; go_simp; rfl
    refine Gate.fork (i := 2) (j := 5) (by kernel_rfl) rfl rfl rfl rfl (fun K hK => ?_) (fun K hK => ?_)
    · go_simp
      refine (ROF.out _).mono ?_; rintro e w4 ⟨rfl, b4⟩
      have B4 : Hid (Below wa.heap.size wa w4) := below_of_drew b4
      refine hK _ _ (fun _ => KS.out _ B4.out) ?_
      clear hK K b4
      refine Gate.fork (i := 3) (j := 5) (by kernel_rfl) rfl rfl rfl rfl (fun K hK => ?_) (fun K hK => ?_)
      · go_simp
        refine (newpower_any _).mono ?_; rintro e w5 ⟨rfl, p5, b5, s5⟩
        have B5 := Lib.hid (bthen B4.out b5)
        have P5 := Lib.hid p5
        have S4 := B4.out.size
        have S5 := s5
        refine hK _ _ (fun _ => KS.out _ B5.out) ?_
        clear hK K b5 p5
        refine Gate.next (i := 5) (by kernel_rfl) rfl rfl (fun K hK => ?_)
        go_simp
        have b6 := balloc w5 (.cells #[.bool false, .bool false, .int .i64 0, .int .i64 0] 87)
        have B6 := Lib.hid (bthen B5.out b6)
        refine hK _ _ (fun _ => KS.out _ B6.out) ?_
        clear hK K
        refine Gate.next (i := 6) (by kernel_rfl) rfl rfl (fun K hK => ?_)
        go_simp
        refine hK _ _ (fun _ => KS.out _ B6.out) ?_
        clear hK K
        refine Gate.next (i := 7) (by kernel_rfl) rfl rfl (fun K hK => ?_)
        go_simp
        refine hK _ _ (fun _ => KS.out _ (bthen B6.out (balloc _ _))) ?_
        clear hK K
        refine Gate.next (i := 8) (by kernel_rfl) rfl rfl (fun K hK => ?_)
        go_simp
        refine hK _ _ (fun h => absurd rfl h) ?_
        clear hK K
        refine Gate.done (by kernel_rfl) ?_
        go_wp2_with fail
        go_meet
        exact ⟨_, _, _, rfl, bg_fin2 (by simp; omega) (by omega) (by omega) (P5.out.heap (b6.block _ (by omega))) (qw_box w5) B6.out (by omega) (by omega) (by omega)⟩
      · go_simp
        have b5 := balloc w4 (.cells #[.bool false, .bool false, .int .i64 0, .int .i64 0] 87)
        have B5 := Lib.hid (bthen B4.out b5)
        refine hK _ _ (fun _ => KS.out _ B5.out) ?_
        clear hK K
        refine Gate.next (i := 3) (by kernel_rfl) rfl rfl (fun K hK => ?_)
        go_simp
        refine (newpower_any _).mono ?_; rintro e w6 ⟨rfl, p6, b6, s6⟩
        have B6 := Lib.hid (bthen B5.out b6)
        have P6 := Lib.hid p6
        have S4 := B4.out.size
        have Q6 := Lib.hid ((qw_box w4).heap (b6.block _ (by simp)))
        rw [World.size_alloc] at P6 s6
        refine hK _ _ (fun _ => KS.out _ B6.out) ?_
        clear hK K
        refine Gate.next (i := 6) (by kernel_rfl) rfl rfl (fun K hK => ?_)
        go_simp
        refine hK _ _ (fun _ => KS.out _ B6.out) ?_
        clear hK K
        refine Gate.next (i := 7) (by kernel_rfl) rfl rfl (fun K hK => ?_)
        go_simp
        refine hK _ _ (fun _ => KS.out _ (bthen B6.out (balloc _ _))) ?_
        clear hK K
        refine Gate.next (i := 8) (by kernel_rfl) rfl rfl (fun K hK => ?_)
        go_simp
        refine hK _ _ (fun h => absurd rfl h) ?_
        clear hK K
        refine Gate.done (by kernel_rfl) ?_
        go_wp2_with fail
        go_meet
        exact ⟨_, _, _, rfl, bg_fin2 (by omega) (by omega) (by omega) P6.out Q6.out B6.out (by omega) (by omega) (by omega)⟩
    · go_simp
      have b4 := balloc wa (.cells #[.bool false, .bool false, .int .i64 0, .int .i64 0] 87)
      have B4 : Hid (Below wa.heap.size wa ((wa.alloc (.cells #[.bool false, .bool false, .int .i64 0, .int .i64 0] 87)).drew)) := b4.drew
      have Q4 : Hid (Qw ((wa.alloc (.cells #[.bool false, .bool false, .int .i64 0, .int .i64 0] 87)).drew) wa.heap.size ⟨false, none, 0⟩) := (qw_box wa).heap rfl
      refine hK _ _ (fun _ => KS.out _ B4.out) ?_
      clear hK K b4
      have sz4 : ((wa.alloc (.cells #[.bool false, .bool false, .int .i64 0, .int .i64 0] 87)).drew).heap.size = wa.heap.size + 1 := by rw [← World.size_alloc wa (.cells #[.bool false, .bool false, .int .i64 0, .int .i64 0] 87)]; rfl
      refine Gate.next (i := 2) (by kernel_rfl) rfl rfl (fun K hK => ?_)
      go_simp
      · refine (ROF.out _).mono ?_; rintro e w5 ⟨rfl, b5⟩
        have B5 := Lib.hid (bthen B4.out b5)
        have Q5 := Lib.hid (Q4.out.heap (b5.block _ (by omega)))
        have S5 := b5.size
        refine hK _ _ (fun _ => KS.out _ B5.out) ?_
        clear hK K b5
        refine Gate.next (i := 3) (by kernel_rfl) rfl rfl (fun K hK => ?_)
        go_simp
        refine (newpower_any _).mono ?_; rintro e w6 ⟨rfl, p6, b6, s6⟩
        have B6 := Lib.hid (bthen B5.out b6)
        have P6 := Lib.hid p6
        have Q6 := Lib.hid (Q5.out.heap (b6.block _ Q5.out.lt))
        have S4 := B5.out.size
        rw [sz4] at S5
        refine hK _ _ (fun _ => KS.out _ B6.out) ?_
        clear hK K
        refine Gate.next (i := 6) (by kernel_rfl) rfl rfl (fun K hK => ?_)
        go_simp
        refine hK _ _ (fun _ => KS.out _ B6.out) ?_
        clear hK K
        refine Gate.next (i := 7) (by kernel_rfl) rfl rfl (fun K hK => ?_)
        go_simp
        refine hK _ _ (fun _ => KS.out _ (bthen B6.out (balloc _ _))) ?_
        clear hK K
        refine Gate.next (i := 8) (by kernel_rfl) rfl rfl (fun K hK => ?_)
        go_simp
        refine hK _ _ (fun h => absurd rfl h) ?_
        clear hK K
        refine Gate.done (by kernel_rfl) ?_
        go_wp2_with fail
        go_meet
        exact ⟨_, _, _, rfl, bg_fin2 (by omega) (by omega) (by omega) P6.out Q6.out B6.out (by omega) (by omega) (by omega)⟩
  case rest =>
    obtain ⟨P, pw, q, rfl, BG⟩ := hcut
    have hn2 : n ≤ 4096 := HP.out.hn2
    have hnp : np ≤ 4096 := by have := HP.out.hn; omega
    have hP := BG.out.head
    have c17 : wc.cell? ⟨P, 17, none⟩ = some (.int .i64 (n : Int)) := by rw [← HP.out.h4]; exact cell_of_row _ _ 17 _ _ _ hP
    have c26 : wc.cell? ⟨P, 26, none⟩ = some (.pointer (some ⟨pw, 0, none⟩)) := cell_of_row _ _ 26 _ _ _ hP
    have KN := Lib.hid (fun (w' : World) (hb : Below wc.heap.size wc w') => new_pd (BG.out.hpw.heap (hb.block _ BG.out.hpw.lt)) hn2)
    have KC : Hid (∀ y, Below wc.heap.size wc y → y.cell? ⟨P, 17, none⟩ = some (.int .i64 (n : Int)) ∧ y.cell? ⟨P, 26, none⟩ = some (.pointer (some ⟨pw, 0, none⟩))) := fun y hy => ⟨(hy.cell (p := ⟨P, 17, none⟩) (World.block_lt_of_cell? wc ⟨P, 17, none⟩ c17)).trans c17, (hy.cell (p := ⟨P, 26, none⟩) (World.block_lt_of_cell? wc ⟨P, 26, none⟩ c26)).trans c26⟩
    go_wp2_with fail
    go_region_held (fun y => y.cell? ⟨P, 17, none⟩ = some (.int .i64 (n : Int)) ∧ y.cell? ⟨P, 26, none⟩ = some (.pointer (some ⟨pw, 0, none⟩))) (first | go_keep | exact KC.out _ B1.out)
      (first
        | (go_at_call 23; (with_reducible refine (KN.out _ (below_drew1 _)).mono ?_); rintro e w4 ⟨D, rfl, hD, p4, b4⟩; have B1 : Hid (Below wc.heap.size wc w4) := below_of_drew b4; have P4 : Hid (PD w4 (Fresh wc w4) D pw n 0 m00) := p4; have HD : Hid (wc.heap.size ≤ D) := hD; clear p4 b4 hD))
    all_goals
      clear c17 c26
      have H4 := Lib.hid (kept_below hP B1.out)
      have c27 : w4.cell? ⟨P, 27, none⟩ = some (.pointer none) := cell_of_row _ _ 27 _ _ _ H4.out
      have f27 := frozen_of_row w4 P 27 _ _ H4.out
      have g5 := grown_set w4 P 27 (.pointer (some ⟨D, 0, none⟩))
      have H5 : Hid ((w4.setCell ⟨P, 27, none⟩ (.pointer (some ⟨D, 0, none⟩))).heap[P]? = some (.cells (PCo p (some ⟨pw, 0, none⟩) (some ⟨D, 0, none⟩) (some ⟨q, 0, none⟩) none none none) 54 (0, 0))) := by
        show _ = _
        rw [heap_setCell_same _ _ _ _ _ _ H4.out]
        rfl
      have PL4 : Hid (P < w4.heap.size ∧ wc.heap.size ≤ w4.heap.size) := ⟨lt_of_heap H4.out, B1.out.size⟩
      have B5 : Hid (Below wa.heap.size wa (w4.setCell ⟨P, 27, none⟩ (.pointer (some ⟨D, 0, none⟩)))) := (BG.out.bel.trans (B1.out.mono BG.out.bel.size)).grown g5 (Nat.le_trans BG.out.bel.size B1.out.size) (fun k e => by injection e with e; have := BG.out.ge.1; omega)
      have P5 := Lib.hid (P4.out.kept (G := fun b => b = P) (Chg.of_grown g5 (fun k e _ => by injection e with e; exact e.symm)) (fun b x e => by
        subst e
        have h1 := lt_of_heap hP
        rcases x with x | x
        · have := x.1; omega
        · have := BG.out.ne.1; omega))
      have Q5 := Lib.hid ((BG.out.hqw.heap (B1.out.block _ BG.out.hqw.lt)).heap (g5.block q (Nat.lt_of_lt_of_le BG.out.hqw.lt B1.out.size) (fun e => by injection e with e; have := BG.out.ne.2.1; omega)))
      have S5 : Hid ((w4.setCell ⟨P, 27, none⟩ (.pointer (some ⟨D, 0, none⟩))).heap.size = w4.heap.size) := by show _ = _; simp [World.setCell]
      go_upto_region 6 with fail
      generalize w4.setCell ⟨P, 27, none⟩ (.pointer (some ⟨D, 0, none⟩)) = w5 at H5 B5 P5 Q5 S5 ⊢
      clear c27 f27 g5 H4
      have KR := Lib.hid (fun (w' : World) (hb : Below w5.heap.size w5 w') => rnew_rd (Q5.out.heap (hb.block _ Q5.out.lt)) hn2)
      refine gate (fun y => y.heap[P]? = some (.cells (PCo p (some ⟨pw, 0, none⟩) (some ⟨D, 0, none⟩) (some ⟨q, 0, none⟩) none none none) 54 (0, 0))) 13 [0, 1, 2, 3, 4, 5, 6, 7, 8, 9] 4 (by kernel_rfl) (by kernel_rfl) (by kernel_rfl) rfl ?_ (kept_below H5.out (below_drew1 _)) ?_
      · intro d v c a w h
        cases d <;> exact h
      iterate 5
        refine yields_step ?_ rfl rfl ?_ ?_
        rotate_left
        · intro y hS; go_simp; rfl
      refine yields_step (.int .i64 (n : Int)) rfl rfl ?_ ?_
      · intro y hS
        have c17 : y.cell? ⟨P, 17, none⟩ = some (.int .i64 (n : Int)) := by rw [← HP.out.h4]; exact cell_of_row _ _ 17 _ _ _ hS
        go_simp
      iterate 3
        refine yields_step ?_ rfl rfl ?_ ?_
        rotate_left
        · intro y hS; go_simp; rfl
      refine yields_step (.pointer (some ⟨q, 0, none⟩)) rfl rfl ?_ ?_
      · intro y hS
        have c29 : y.cell? ⟨P, 29, none⟩ = some (.pointer (some ⟨q, 0, none⟩)) := cell_of_row _ _ 29 _ _ _ hS
        go_simp
      refine Gate.next (i := 10) (by kernel_rfl) rfl rfl (fun K hK => ?_)
      go_simp
      refine (KR.out _ (below_drew1 _)).mono ?_; rintro e w6 ⟨E, rfl, hE, r6, b6⟩
      have B6 : Hid (Below w5.heap.size w5 w6) := below_of_drew b6
      have R6 : Hid (RD w6 (Fresh w5 w6) E q n 0 m00) := r6
      have HE6 : Hid (w5.heap.size ≤ E) := hE
      have H6 := Lib.hid (kept_below H5.out B6.out)
      refine hK _ _ (fun _ => H6.out) ?_
      clear hK K b6 r6 hE
      refine Gate.next (i := 11) (by kernel_rfl) rfl rfl (fun K hK => ?_)
      go_simp
      refine hK _ _ (fun _ => H6.out) ?_
      clear hK K
      refine Gate.next (i := 12) (by kernel_rfl) rfl rfl (fun K hK => ?_)
      go_simp
      refine hK _ _ (fun _ => H6.out) ?_
      clear hK K
      refine Gate.next (i := 13) (by kernel_rfl) rfl rfl (fun K hK => ?_)
      have c30 : w6.cell? ⟨P, 30, none⟩ = some (.pointer none) := cell_of_row _ _ 30 _ _ _ H6.out
      have f30 := frozen_of_row w6 P 30 _ _ H6.out
      go_simp
      refine hK _ _ (fun h => absurd rfl h) ?_
      clear hK K c30 f30
      refine Gate.done (by kernel_rfl) ?_
      have g7 := grown_set w6 P 30 (.pointer (some ⟨E, 0, none⟩))
      have H7 : Hid (PHead (w6.setCell ⟨P, 30, none⟩ (.pointer (some ⟨E, 0, none⟩))) P p pw D q E none none) := by
        show PHead _ _ _ _ _ _ _ _ _
        unfold PHead
        rw [heap_setCell_same _ _ _ _ _ _ H6.out]
        rfl
      have sz := World.size_alloc
      have s7 : (w6.setCell ⟨P, 30, none⟩ (.pointer (some ⟨E, 0, none⟩))).heap.size = w6.heap.size := by simp [World.setCell]
      have hPl := lt_of_heap hP
      have sBA := BA.out.size
      have sB6 := B6.out.size
      have c7 : Chg (fun b => b = P) w6 (w6.setCell ⟨P, 30, none⟩ (.pointer (some ⟨E, 0, none⟩))) := Chg.of_grown g7 (fun k e _ => by injection e with e; exact e.symm)
      obtain ⟨ne1, ne2, ne3⟩ := BG.out.ne
      obtain ⟨ge1, ge2, ge3⟩ := BG.out.ge
      have lpw := BG.out.hpw.lt
      have lq := BG.out.hqw.lt
      have sP4 := PL4.out.2
      have sS5 := S5.out
      have R7 : Hid (Pr wa P p n 0 pw D q E none none (Fresh wc w4) (Fresh w5 w6) (fun _ => False) (fun _ => False) m00 m00 none none (w6.setCell ⟨P, 30, none⟩ (.pointer (some ⟨E, 0, none⟩)))) := by
        refine ⟨(P5.out.below B6.out).kept c7 (fun b x e => ?_), R6.out.kept c7 (fun b x e => ?_), rfl, rfl, ⟨⟨fun b => if b = P then 5 else if b = pw then 1 else if b = q then 2 else if b < w5.heap.size then 1 else 2, fun b x => ?_, fun b x => ?_, fun b x => x.elim, fun b x => x.elim, if_pos rfl⟩, fun b x => ?_⟩, ?_⟩
        · subst e; rcases x with x | x
          · have := x.1; omega
          · omega
        · subst e; rcases x with x | x
          · have := x.1; omega
          · omega
        · show (if b = P then 5 else if b = pw then 1 else if b = q then 2 else if b < w5.heap.size then 1 else 2) = 1
          rcases x with x | x
          · obtain ⟨x1, x2⟩ := x
            rw [if_neg (by omega), if_neg (by omega), if_neg (by omega), if_pos (by omega)]
          · rw [if_neg (by omega), if_pos x]
        · show (if b = P then 5 else if b = pw then 1 else if b = q then 2 else if b < w5.heap.size then 1 else 2) = 2
          rcases x with x | x
          · obtain ⟨x1, x2⟩ := x
            rw [if_neg (by omega), if_neg (by omega), if_neg (by omega), if_neg (by omega)]
          · rw [if_neg (by omega), if_neg (by omega), if_pos x]
        · rw [s7]
          rcases x with (x | x) | (x | x) | x | x | x
          · have := x.1; have := x.2; omega
          · omega
          · have := x.1; have := x.2; omega
          · omega
          · exact x.elim
          · exact x.elim
          · omega
        · exact (bthen B5.out B6.out).grown g7 (by omega) (fun k e => by injection e with e; omega)
      have M7 : Hid ((w6.setCell ⟨P, 30, none⟩ (.pointer (some ⟨E, 0, none⟩))).heap[w3.heap.size]? = some (.cells #[.int .i64 p.a0, .int .i64 p.a1, .int .i64 p.a2, .int .i64 p.a3, .int .i64 p.a4, .int .i64 p.a5, .int .i64 p.a6, .int .i64 p.a7, .int .i64 p.a8, .int .i64 p.a9, .int .i64 p.a10, .int .i64 p.a11, .int .i64 p.a12] 46 (0, 0))) := by
        have hl := lt_of_heap HA.out
        exact (g7.block w3.heap.size (by omega) (fun e => by injection e with e; omega)).trans ((B6.out.block w3.heap.size (by have := B5.out.size; omega)).trans ((B5.out.block w3.heap.size hl).trans HA.out))
      generalize w6.setCell ⟨P, 30, none⟩ (.pointer (some ⟨E, 0, none⟩)) = w7 at H7 R7 M7 ⊢
      clear sz g7 s7 c7 ne1 ne2 ne3 ge1 ge2 ge3 lpw lq sP4 sS5 hPl sBA sB6
      have FD := fmt_done (ga := ga) (np := np) (m := m00) (by have := HP.out.hn; omega) m00_quiet (fun _ => rfl)
      obtain ⟨rf, hrf⟩ : ∃ r, fmt ga np m00 = r := ⟨_, rfl⟩
      rw [hrf] at FD
      have FDH := Lib.hid FD
      have rf0 : rf.1 = 0 := FD.1
      have RF := Lib.hid hrf
      clear FD hrf
      have K1 : Hid (∀ y, Below w7.heap.size w7 y → Calls Tryz.prog 24 #[.pointer (some ⟨D, 0, none⟩), (.agg #[.int .i64 p.a0, .int .i64 p.a1, .int .i64 p.a2, .int .i64 p.a3, .int .i64 p.a4, .int .i64 p.a5, .int .i64 p.a6, .int .i64 p.a7, .int .i64 p.a8, .int .i64 p.a9, .int .i64 p.a10, .int .i64 p.a11, .int .i64 p.a12])] y fun e y' => e = .returned (.int .i64 0) ∧ (∃ F, Pr wa P p n (np + 1) pw D q E none none F (Fresh w5 w6) (fun _ => False) (fun _ => False) rf.2 m00 none none y') ∧ y'.heap[P]? = y.heap[P]?) := fun y hy => by
        have r := R7.out.below hy
        obtain ⟨he1, he2⟩ := r.env (HE.out.below BA.out)
        exact (format_yes r.pd he1 (fun k x => he2 k x) HP.out (by omega) rf RF.out).mono fun e y' ⟨e1, e2, e3⟩ => by
          rw [Nat.zero_add] at e2
          have hh := r.prog0 (by omega) (by omega) e2 e3
          exact ⟨by rw [e1, rf0], ⟨_, hh.1⟩, hh.2.1⟩
      have K2 : Hid (∀ y F, Pr wa P p n (np + 1) pw D q E none none F (Fresh w5 w6) (fun _ => False) (fun _ => False) rf.2 m00 none none y → Calls Tryz.prog 28 #[.pointer (some ⟨E, 0, none⟩), (.agg #[.int .i64 p.a0, .int .i64 p.a1, .int .i64 p.a2, .int .i64 p.a3, .int .i64 p.a4, .int .i64 p.a5, .int .i64 p.a6, .int .i64 p.a7, .int .i64 p.a8, .int .i64 p.a9, .int .i64 p.a10, .int .i64 p.a11, .int .i64 p.a12])] y fun e y' => e = .returned (.int .i64 0) ∧ (∃ G, Pr wa P p n (np + np + 2) pw D q E none none F G (fun _ => False) (fun _ => False) rf.2 rf.2 none none y') ∧ y'.heap[P]? = y.heap[P]?) := fun y F hy => by
        exact (rformat_any hy.rd HP.out (by omega) rf RF.out).mono fun e y' ⟨e1, e2, e3⟩ => by
          have hh := hy.doc (N' := np + np + 2) (by omega) (by omega) (e2.more (by omega) (by omega)) e3
          exact ⟨by rw [e1, rf0], ⟨_, hh.1⟩, hh.2.1⟩
      have CS : Hid (∀ y, PHead y P p pw D q E none none → y.heap[w3.heap.size]? = some (.cells #[.int .i64 p.a0, .int .i64 p.a1, .int .i64 p.a2, .int .i64 p.a3, .int .i64 p.a4, .int .i64 p.a5, .int .i64 p.a6, .int .i64 p.a7, .int .i64 p.a8, .int .i64 p.a9, .int .i64 p.a10, .int .i64 p.a11, .int .i64 p.a12] 46 (0, 0)) → y.cell? ⟨P, 13, none⟩ = some (.int .i64 p.a0) ∧ y.cell? ⟨P, 14, none⟩ = some (.int .i64 p.a1) ∧ y.cell? ⟨P, 15, none⟩ = some (.int .i64 p.a2) ∧ y.cell? ⟨P, 16, none⟩ = some (.int .i64 p.a3) ∧ y.cell? ⟨P, 17, none⟩ = some (.int .i64 p.a4) ∧ y.cell? ⟨P, 18, none⟩ = some (.int .i64 p.a5) ∧ y.cell? ⟨P, 19, none⟩ = some (.int .i64 p.a6) ∧ y.cell? ⟨P, 20, none⟩ = some (.int .i64 p.a7) ∧ y.cell? ⟨P, 21, none⟩ = some (.int .i64 p.a8) ∧ y.cell? ⟨P, 22, none⟩ = some (.int .i64 p.a9) ∧ y.cell? ⟨P, 23, none⟩ = some (.int .i64 p.a10) ∧ y.cell? ⟨P, 24, none⟩ = some (.int .i64 p.a11) ∧ y.cell? ⟨P, 25, none⟩ = some (.int .i64 p.a12) ∧ y.cell? ⟨P, 30, none⟩ = some (.pointer (some ⟨E, 0, none⟩)) ∧ y.cell? ⟨w3.heap.size, 0, none⟩ = some (.int .i64 p.a0) ∧ y.cell? ⟨w3.heap.size, 1, none⟩ = some (.int .i64 p.a1) ∧ y.cell? ⟨w3.heap.size, 2, none⟩ = some (.int .i64 p.a2) ∧ y.cell? ⟨w3.heap.size, 3, none⟩ = some (.int .i64 p.a3) ∧ y.cell? ⟨w3.heap.size, 4, none⟩ = some (.int .i64 p.a4) ∧ y.cell? ⟨w3.heap.size, 5, none⟩ = some (.int .i64 p.a5) ∧ y.cell? ⟨w3.heap.size, 6, none⟩ = some (.int .i64 p.a6) ∧ y.cell? ⟨w3.heap.size, 7, none⟩ = some (.int .i64 p.a7) ∧ y.cell? ⟨w3.heap.size, 8, none⟩ = some (.int .i64 p.a8) ∧ y.cell? ⟨w3.heap.size, 9, none⟩ = some (.int .i64 p.a9) ∧ y.cell? ⟨w3.heap.size, 10, none⟩ = some (.int .i64 p.a10) ∧ y.cell? ⟨w3.heap.size, 11, none⟩ = some (.int .i64 p.a11) ∧ y.cell? ⟨w3.heap.size, 12, none⟩ = some (.int .i64 p.a12)) := fun y h1 h2 => by
        obtain ⟨x0, x1, x2, x3, x4, x5, x6, x7, x8, x9, x10, x11, x12, x13⟩ := phead_plan h1
        exact ⟨x0, x1, x2, x3, x4, x5, x6, x7, x8, x9, x10, x11, x12, x13, plan_cells h2⟩
      obtain ⟨z0, z1, z2, z3, z4, z5, z6, z7, z8, z9, z10, z11, z12, z13, z14, z15, z16, z17, z18, z19, z20, z21, z22, z23, z24, z25, z26⟩ := CS.out _ H7.out M7.out
      go_upto_region 7 with fail
      go_region_held (fun y => y.cell? ⟨P, 13, none⟩ = some (.int .i64 p.a0) ∧ y.cell? ⟨P, 14, none⟩ = some (.int .i64 p.a1) ∧ y.cell? ⟨P, 15, none⟩ = some (.int .i64 p.a2) ∧ y.cell? ⟨P, 16, none⟩ = some (.int .i64 p.a3) ∧ y.cell? ⟨P, 17, none⟩ = some (.int .i64 p.a4) ∧ y.cell? ⟨P, 18, none⟩ = some (.int .i64 p.a5) ∧ y.cell? ⟨P, 19, none⟩ = some (.int .i64 p.a6) ∧ y.cell? ⟨P, 20, none⟩ = some (.int .i64 p.a7) ∧ y.cell? ⟨P, 21, none⟩ = some (.int .i64 p.a8) ∧ y.cell? ⟨P, 22, none⟩ = some (.int .i64 p.a9) ∧ y.cell? ⟨P, 23, none⟩ = some (.int .i64 p.a10) ∧ y.cell? ⟨P, 24, none⟩ = some (.int .i64 p.a11) ∧ y.cell? ⟨P, 25, none⟩ = some (.int .i64 p.a12) ∧ y.cell? ⟨P, 30, none⟩ = some (.pointer (some ⟨E, 0, none⟩)) ∧ y.cell? ⟨w3.heap.size, 0, none⟩ = some (.int .i64 p.a0) ∧ y.cell? ⟨w3.heap.size, 1, none⟩ = some (.int .i64 p.a1) ∧ y.cell? ⟨w3.heap.size, 2, none⟩ = some (.int .i64 p.a2) ∧ y.cell? ⟨w3.heap.size, 3, none⟩ = some (.int .i64 p.a3) ∧ y.cell? ⟨w3.heap.size, 4, none⟩ = some (.int .i64 p.a4) ∧ y.cell? ⟨w3.heap.size, 5, none⟩ = some (.int .i64 p.a5) ∧ y.cell? ⟨w3.heap.size, 6, none⟩ = some (.int .i64 p.a6) ∧ y.cell? ⟨w3.heap.size, 7, none⟩ = some (.int .i64 p.a7) ∧ y.cell? ⟨w3.heap.size, 8, none⟩ = some (.int .i64 p.a8) ∧ y.cell? ⟨w3.heap.size, 9, none⟩ = some (.int .i64 p.a9) ∧ y.cell? ⟨w3.heap.size, 10, none⟩ = some (.int .i64 p.a10) ∧ y.cell? ⟨w3.heap.size, 11, none⟩ = some (.int .i64 p.a11) ∧ y.cell? ⟨w3.heap.size, 12, none⟩ = some (.int .i64 p.a12)) (first | go_keep | exact CS.out _ Z8.out.1 Z8.out.2 | exact CS.out _ Z9.out.1 Z9.out.2)
        (first
          | (go_at_call 24; (with_reducible refine (K1.out _ (below_drew1 _)).mono ?_); rintro e w8 ⟨rfl, ⟨F8, p8⟩, h8⟩; have P8 := Lib.hid p8; have Z8 : Hid (PHead w8 P p pw D q E none none ∧ w8.heap[w3.heap.size]? = some (.cells #[.int .i64 p.a0, .int .i64 p.a1, .int .i64 p.a2, .int .i64 p.a3, .int .i64 p.a4, .int .i64 p.a5, .int .i64 p.a6, .int .i64 p.a7, .int .i64 p.a8, .int .i64 p.a9, .int .i64 p.a10, .int .i64 p.a11, .int .i64 p.a12] 46 (0, 0))) := ⟨H7.out.of h8, (p8.bel.block _ (lt_of_heap HA.out)).trans HA.out⟩; clear p8 h8)
          | (go_at_call 28; (with_reducible refine (K2.out _ _ P8.out).mono ?_); rintro e w9 ⟨rfl, ⟨G9, p9⟩, h9⟩; have P9 := Lib.hid p9; have Z9 : Hid (PHead w9 P p pw D q E none none ∧ w9.heap[w3.heap.size]? = some (.cells #[.int .i64 p.a0, .int .i64 p.a1, .int .i64 p.a2, .int .i64 p.a3, .int .i64 p.a4, .int .i64 p.a5, .int .i64 p.a6, .int .i64 p.a7, .int .i64 p.a8, .int .i64 p.a9, .int .i64 p.a10, .int .i64 p.a11, .int .i64 p.a12] 46 (0, 0))) := ⟨Z8.out.1.of h9, (p9.bel.block _ (lt_of_heap HA.out)).trans HA.out⟩; clear p9 h9))
      all_goals
        clear z0 z1 z2 z3 z4 z5 z6 z7 z8 z9 z10 z11 z12 z13 z14 z15 z16 z17 z18 z19 z20 z21 z22 z23 z24 z25 z26
        obtain ⟨f1, f2, f3, f4, f5⟩ := FDH.out
        obtain ⟨L2, o1, o2, o3⟩ := opn_all f2.off f2.rd (fun j _ => ⟨f5 _, f5 _⟩) f4
        have BE : Hid (Begun x ne np ga n p rf.2 L2) := ⟨HP.out, f2, by rw [f3]; exact Nat.zero_add _ ▸ rfl, o2, fun j q' hq => by
          obtain ⟨p', h1, h2⟩ := o3 j q' hq
          obtain ⟨_, rfl⟩ := freshL_at h1
          exact h2.elim id (fun y => y.2.2.elim)⟩
        have KO : Hid (∀ y, Below w9.heap.size w9 y → Calls Tryz.prog 29 #[.pointer (some ⟨P, 0, none⟩)] y fun e y' => e = .returned (.bool true) ∧ ∃ T U, (∃ H1 H2, Pr wa P p n (np + np + 2) pw D q E (some ⟨T, 0, none⟩) U F8 G9 H1 H2 rf.2 rf.2 (some L2) (some L2) y') ∧ PHead y' P p pw D q E (some ⟨T, 0, none⟩) U) := fun y hy =>
          (pair_open (P9.out.below hy) (Z9.out.1.below hy) (HE.out.below BA.out) HP.out 0 L2 rf.2 o1).mono fun e y' ⟨e1, T', U', ⟨H1, H2, e2, _⟩, e3, e4⟩ => by
            obtain ⟨t, g, cap, ht, _⟩ := e2.tb1
            subst ht
            exact ⟨e1, t, U', ⟨H1, H2, e2⟩, e3⟩
        clear f1 f2 f3 f4 f5 o1 o2 o3
        go_upto_region 9 with fail
        go_region_with (first
            | (go_at_call 29; (with_reducible refine (KO.out _ (below_drew1 _)).mono ?_); rintro e w10 ⟨rfl, T, U, ⟨H1, H2, p10⟩, h10⟩; have P10 := Lib.hid p10; have H10 := Lib.hid h10; have c28 : w10.cell? ⟨P, 28, none⟩ = some (.pointer (some ⟨T, 0, none⟩)) := (h10.cell 28).1; clear p10 h10))
        all_goals
          clear c28
          go_wp2
          go_ret2
          exact ⟨P, pw, D, q, E, T, U, rf.2, L2, rfl, ⟨_, _, _, _, P10.out.base BA.out⟩, H10.out, BE.out⟩
end
end Go.Proofs.YtgdgehfapfgdfaaGreatDoor.Tb

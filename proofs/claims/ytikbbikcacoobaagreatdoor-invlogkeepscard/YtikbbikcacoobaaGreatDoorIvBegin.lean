/-
  begin. No conditions.
-/
import Derived.Test.YtikbbikcacoobaaGreatDoorIvPairOpen
import Derived.BigQuiet
namespace Go.Proofs.YtikbbikcacoobaaGreatDoor.Pd.Iv
open Go.RowKit Oc Dm W Dw Sr Gt
set_option linter.unusedVariables false
set_option maxRecDepth 100000
attribute [local go_sem ↓] Go.wp_at_zero Go.wp_at_succ

theorem yields_on {P : Program} {ops : Array Oper} {S : World → Prop} {i : Nat} {is : List Nat} {K : Act → Prop} {a : Act} {o : Oper} (v : Value) (ho : ops[i]? = some o) (hg : Region.wanted o (yielded ops a.tmps) = true) (hv : ∀ w, S w → (execOp a.eval o).run P w = .ok (.value v) w)
    (h : Taken P ops S is K (a.put o.dst v)) : Taken P ops S (i :: is) K a :=
  ⟨o, v, ho, .inl ⟨hg, hv⟩, h⟩
theorem yields_off {P : Program} {ops : Array Oper} {S : World → Prop} {i : Nat} {is : List Nat} {K : Act → Prop} {a : Act} {o : Oper} (ho : ops[i]? = some o) (hg : Region.wanted o (yielded ops a.tmps) = false)
    (h : Taken P ops S is K (a.put o.dst undef)) : Taken P ops S (i :: is) K a :=
  ⟨o, undef, ho, .inr ⟨hg, rfl⟩, h⟩
theorem gate_on {P : Program} {md : Region.Mode} {ops : Array Oper} {Q : Exit → Act → World → Prop} {S : World → Prop} {t : Nat} {i : Nat} {o : Oper} {fuel : Nat} {listed : Array Bool} {a : Act} {w : World} (hr : Region.ready md ops listed = [i]) (ho : ops[i]? = some o) (hg : Region.wanted o (yielded ops a.tmps) = true)
    (h : ∀ K : Act → World → Prop, (∀ a' w', (i ≠ t → S w') → Gate P md ops Q S t fuel (listed.setIfInBounds i true) a' w' → K a' w') → Oper.wp P o a w K Q) : Gate P md ops Q S t (fuel + 1) listed a w :=
  Gate.one hr ho fun K hK => by rw [if_pos hg]; exact h K hK
theorem pln_plan (x : Nat) (hx : x ≤ 255) : Pln (Pn.planOf 1 1 (1 + (x : Int))) 4 (1 + x) (7 + x) := by
  have e1 : Pn.ups (1 : Int) 3 = 1 := by decide
  refine ⟨?_, ?_, ?_, by omega, by omega, by omega, by omega⟩
  · show 2 + 2 * Pn.ups (1 : Int) 3 = _; rw [e1]; rfl
  · show 1 + (x : Int) = ((1 + x : Nat) : Int); omega
  · show 2 + 2 * Pn.ups (1 : Int) 3 + (1 + (x : Int)) + 2 * 1 = _; rw [e1]; omega
def m00 : Vs := ⟨⟨false, none, 0⟩, fun _ => sec0, 0, 0⟩
/-- a blank device has no records -/
theorem rdl_blank (la lg ep k q h : Nat) : rdl la lg ep k q h m00 = ([], m00) := by
  cases k with
  | zero => rfl
  | succ k =>
    have hr : rd1 m00 (la + q % lg) = (0, zs, m00) := rfl
    obtain ⟨r, E, hg⟩ : ∃ r E, gd zs = (r, E) := ⟨_, _, rfl⟩
    have hE : E ≠ 0 := by have := gd_zs; rw [hg] at this; exact this
    exact rdl_no (gt_got hr hg) (fun x => hE (of_decide_eq_true x.1))
def PCo (p : Pn.Pl) (pw D q E T U : Option Addr) : Array Value := #[.int .i64 p.a0, .int .i64 p.a1, .int .i64 p.a2, .int .i64 p.a3, .int .i64 p.a4, .int .i64 p.a5, .int .i64 p.a6, .int .i64 p.a7, .int .i64 p.a8, .int .i64 p.a9, .int .i64 p.a10, .int .i64 p.a11, .int .i64 p.a12, .int .i64 p.a0, .int .i64 p.a1, .int .i64 p.a2, .int .i64 p.a3, .int .i64 p.a4, .int .i64 p.a5, .int .i64 p.a6, .int .i64 p.a7, .int .i64 p.a8, .int .i64 p.a9, .int .i64 p.a10, .int .i64 p.a11, .int .i64 p.a12, .pointer pw, .pointer D, .pointer T, .pointer q, .pointer E, .pointer U]
/-- the pair as it is first, without devices -/
structure Bg (wa : World) (P : Nat) (p : Pn.Pl) (pw q : Nat) (wc : World) : Prop where
  head : wc.heap[P]? = some (.cells (PCo p (some ⟨pw, 0, none⟩) none (some ⟨q, 0, none⟩) none none none) 51 (0, 0))
  hpw : Pw wc pw ⟨false, none, 0⟩
  hqw : Qw wc q ⟨false, none, 0⟩
  ne : P ≠ pw ∧ P ≠ q ∧ pw ≠ q
  ge : wa.heap.size ≤ P ∧ wa.heap.size ≤ pw ∧ wa.heap.size ≤ q
  bel : Below wa.heap.size wa wc
theorem qw_box (w : World) : Qw (w.alloc (.cells #[.bool false, .bool false, .int .i64 0, .int .i64 0] 78)) w.heap.size ⟨false, none, 0⟩ := ⟨0, heap_alloc_new w _, fun k e => by cases e⟩
theorem bg_fin {wa wx : World} {p : Pn.Pl} {pw q : Nat} (h1 : Pw wx pw ⟨false, none, 0⟩) (h2 : Qw wx q ⟨false, none, 0⟩) (hb : Below wa.heap.size wa wx) (hne : pw ≠ q) (g1 : wa.heap.size ≤ pw) (g2 : wa.heap.size ≤ q) :
    Bg wa wx.heap.size p pw q (wx.alloc (.cells (PCo p (some ⟨pw, 0, none⟩) none (some ⟨q, 0, none⟩) none none none) 51)) := by
  have b := balloc wx (.cells (PCo p (some ⟨pw, 0, none⟩) none (some ⟨q, 0, none⟩) none none none) 51)
  have l1 := h1.lt
  have l2 := h2.lt
  exact ⟨heap_alloc_new _ _, h1.heap (b.block _ l1), h2.heap (b.block _ l2), ⟨by omega, by omega, hne⟩, ⟨hb.size, g1, g2⟩, bthen hb b⟩
theorem bg_fin2 {wa wx : World} {p : Pn.Pl} {pw q P pw' q' : Nat} (eP : P = wx.heap.size) (e1 : pw' = pw) (e2 : q' = q) (h1 : Pw wx pw ⟨false, none, 0⟩) (h2 : Qw wx q ⟨false, none, 0⟩) (hb : Below wa.heap.size wa wx) (hne : pw ≠ q) (g1 : wa.heap.size ≤ pw) (g2 : wa.heap.size ≤ q) :
    Hid (Bg wa P p pw' q' (wx.alloc (.cells (PCo p (some ⟨pw', 0, none⟩) none (some ⟨q', 0, none⟩) none none none) 51))) := by
  subst eP e1 e2
  exact bg_fin h1 h2 hb hne g1 g2
/-- what begin leaves -/
def Begun (w : World) (p : Pn.Pl) (n f : Nat) (e : Ending) (w' : World) : Prop :=
  ∃ P pw D q E T U, e = .returned (.tuple #[.pointer (some ⟨P, 0, none⟩), .bool true]) ∧ (∃ F G H1 H2, Pr w P p n 0 pw D q E (some ⟨T, 0, none⟩) (some ⟨U, 0, none⟩) F G H1 H2 m00 m00 (some ⟨f, f, 0⟩) (some ⟨f, f, 0⟩) w') ∧ PHead w' P p pw D q E (some ⟨T, 0, none⟩) (some ⟨U, 0, none⟩)
theorem run_load_row46 {w : World} {b : Nat} {T : TypeId} {p : Pn.Pl} (hg : w.heap[b]? = some (.cells #[.int .i64 p.a0, .int .i64 p.a1, .int .i64 p.a2, .int .i64 p.a3, .int .i64 p.a4, .int .i64 p.a5, .int .i64 p.a6, .int .i64 p.a7, .int .i64 p.a8, .int .i64 p.a9, .int .i64 p.a10, .int .i64 p.a11, .int .i64 p.a12] T (0, 0))) : (Instr.loadAt 43 (.pointer (some ⟨b, 0, none⟩))).run Tryz.prog w = .ok (.agg #[.int .i64 p.a0, .int .i64 p.a1, .int .i64 p.a2, .int .i64 p.a3, .int .i64 p.a4, .int .i64 p.a5, .int .i64 p.a6, .int .i64 p.a7, .int .i64 p.a8, .int .i64 p.a9, .int .i64 p.a10, .int .i64 p.a11, .int .i64 p.a12]) w := by
  simp only [Instr.loadAt, Instr.sureAddr, Sem.run_bind, Sem.run_pure, Result.andThen_ok, run_loadVar_row w b T 43 _ (0, 0) _ hg Tryz.underlying43 rfl Pn.info_map]
theorem run_load_row70 {w : World} {b : Nat} {T : TypeId} {c : Pn.Cf} (hg : w.heap[b]? = some (.cells #[.int .i64 c.c0, .int .i64 c.c1, .int .i64 c.c2, .int .i64 c.c3, .int .i64 c.c4, c.c5, c.c6, c.c7, c.c8, .int .i64 c.c9] T (0, 0))) : (Instr.loadAt 72 (.pointer (some ⟨b, 0, none⟩))).run Tryz.prog w = .ok (.agg #[.int .i64 c.c0, .int .i64 c.c1, .int .i64 c.c2, .int .i64 c.c3, .int .i64 c.c4, c.c5, c.c6, c.c7, c.c8, .int .i64 c.c9]) w := by
  simp only [Instr.loadAt, Instr.sureAddr, Sem.run_bind, Sem.run_pure, Result.andThen_ok, run_loadVar_row w b T 72 _ (0, 0) _ hg Tryz.underlying72 rfl Pn.info_conf]
theorem new_pd {w : World} {n pw : Nat} (hp : Pw w pw ⟨false, none, 0⟩) (hn : n ≤ 4096) : Calls Tryz.prog 29 #[.int .i64 (n : Int), .pointer (some ⟨pw, 0, none⟩)] w fun e w' => ∃ D, e = .returned (.tuple #[.pointer (some ⟨D, 0, none⟩), .int .i64 0]) ∧ w.heap.size ≤ D ∧ PD w' (Fresh w w') D pw n 0 m00 ∧ Below w.heap.size w w' :=
  (new_yes hp hn).mono fun e w' ⟨D, fx, m, r, e1, e2, e3, e4⟩ => ⟨D, e1, e2, ⟨hp.heap (e4.block _ hp.lt), ⟨_, _, _, _, e3⟩, fun x => by have := hp.lt; have := x.1; omega, Nat.zero_le _, by decide⟩, e4⟩
theorem rnew_rd {w : World} {n q : Nat} (hq : Qw w q ⟨false, none, 0⟩) (hn : n ≤ 4096) : Calls Tryz.prog 30 #[.int .i64 (n : Int), .pointer (some ⟨q, 0, none⟩)] w fun e w' => ∃ E, e = .returned (.pointer (some ⟨E, 0, none⟩)) ∧ w.heap.size ≤ E ∧ RD w' (Fresh w w') E q n 0 m00 ∧ Below w.heap.size w w' :=
  (rnew_any w n q hn).mono fun e w' ⟨E, gs, e1, e2, e3, e4⟩ => ⟨E, e1, e2, ⟨hq.heap (e4.block _ hq.lt), ⟨_, _, e3⟩, fun x => by have := hq.lt; have := x.1; omega, fun k e => (by cases e), Nat.zero_le _, fun i hi => Nat.zero_le _, by decide⟩, e4⟩
theorem Pr.base {w wa w' : World} {P n N pw D q E : Nat} {p : Pn.Pl} {T U : Option Addr} {F G H1 H2 : Nat → Prop} {m1 m2 : Vs} {t1 t2 : Option Lg} (h : Pr wa P p n N pw D q E T U F G H1 H2 m1 m2 t1 t2 w') (hb : Below w.heap.size w wa) : Pr w P p n N pw D q E T U F G H1 H2 m1 m2 t1 t2 w' :=
  ⟨h.pd, h.rd, h.tb1, h.tb2, ⟨h.ap.col, fun b x => ⟨Nat.le_trans hb.size (h.ap.lo b x).1, (h.ap.lo b x).2⟩⟩, bthen hb h.bel⟩
section
variable {w w' : World}
set_option maxHeartbeats 8000000 in
theorem begin_any (x : Nat) (hx : x ≤ 255) (f : Nat) (hf : f ≤ 65535) (c : Pn.Cf) (hc : c = Pn.cfOf (1 + (0 : Int) % 512) (1 + (0 : Int) % 192) (1 + (x : Int) % 256)) (p : Pn.Pl) (hp : p = Pn.planOf c.c0 c.c1 c.c2) (la lg n : Nat) (hP : Pln p la lg n) (w : World) (he : Env w) :
    Calls Tryz.prog 6 #[.int .u16 (x : Int), .int .u64 (f : Int)] w (Begun w p n f) := by
  have hm : Pn.May c := by rw [hc]; exact ⟨⟨(show (1 : Int) ≤ 1 by decide), (show (1 : Int) ≤ 512 by decide)⟩, ⟨(show (1 : Int) ≤ 1 by decide), (show (1 : Int) ≤ 192 by decide)⟩, ⟨by show 1 ≤ 1 + (x : Int) % 256; omega, by show 1 + (x : Int) % 256 ≤ 256; omega⟩, ⟨(show (1 : Int) ≤ 10 by decide), (show (10 : Int) ≤ 4096 by decide)⟩, ⟨(show (0 : Int) ≤ 100 by decide), (show (100 : Int) ≤ 1048576 by decide)⟩, ⟨(show (0 : Int) ≤ 0 by decide), (show (0 : Int) ≤ 1048576 by decide)⟩⟩
  have ONE := Lib.hid (show (#[.int .i64 c.c0, .int .i64 c.c1, .int .i64 c.c2, .int .i64 c.c3, .int .i64 c.c4, c.c5, c.c6, c.c7, c.c8, .int .i64 c.c9] : Array Value).all (fun x => x.oneCell') = true by rw [hc]; simp [Pn.cfOf, Value.oneCell'])
  have CONF := Lib.hid (fun w => Pn.conf_any 0 0 (x : Int) c hc w (by decide) (by decide) (by decide) (by decide) (by omega) (by omega))
  have OF := Lib.hid (fun w => Pn.of_yes c p hp hm w)
  have ROF := Lib.hid (fun w => Pn.rof_any c p hp w hm.1.1 hm.1.2 hm.2.1.1 hm.2.1.2 hm.2.2.1.1 hm.2.2.1.2)
  have HE := Lib.hid he
  have HP := Lib.hid hP
  have HF : Hid (f ≤ most) := by show f ≤ 4611686014132420608; omega
  clear hc hp hP he hm
  go_enter Tryz.func6, Tryz.ntmps6
  go_wp2_with fail
  refine (CONF.out _).mono ?_; rintro e w1 ⟨rfl, b1⟩
  have B1 := Lib.hid b1
  clear b1
  go_wp2_with (first | ((with_reducible apply Pn.L_storeRow (N := 10) Pn.info_conf); exact rfl; exact rfl; exact heap_alloc_new _ _; exact rfl; exact rfl; (first | exact ONE.out | (simp [Value.oneCell'])); intro w2 h2 g2; have H2 := Lib.hid h2; have B2 := Lib.hid (bthen B1.out ((balloc _ _).grown g2 (by simp) (fun k e => by injection e with e; omega))); clear h2 g2) | ((with_reducible apply Pn.L_loadConf); exact rfl; exact H2.out; exact rfl))
  refine (OF.out _).mono ?_; rintro e w3 ⟨rfl, b3⟩
  have H3 := Lib.hid (kept_below H2.out b3)
  have B3 := Lib.hid (bthen B2.out b3)
  clear b3 B1 B2 H2
  go_upto_region 3 with fail
  have BA := Lib.hid (bthen B3.out (balloc w3 (.cells #[.int .i64 p.a0, .int .i64 p.a1, .int .i64 p.a2, .int .i64 p.a3, .int .i64 p.a4, .int .i64 p.a5, .int .i64 p.a6, .int .i64 p.a7, .int .i64 p.a8, .int .i64 p.a9, .int .i64 p.a10, .int .i64 p.a11, .int .i64 p.a12] 43)))
  have HA := Lib.hid (heap_alloc_new w3 (.cells #[.int .i64 p.a0, .int .i64 p.a1, .int .i64 p.a2, .int .i64 p.a3, .int .i64 p.a4, .int .i64 p.a5, .int .i64 p.a6, .int .i64 p.a7, .int .i64 p.a8, .int .i64 p.a9, .int .i64 p.a10, .int .i64 p.a11, .int .i64 p.a12] 43))
  have CA := Lib.hid (kept_below H3.out (balloc w3 (.cells #[.int .i64 p.a0, .int .i64 p.a1, .int .i64 p.a2, .int .i64 p.a3, .int .i64 p.a4, .int .i64 p.a5, .int .i64 p.a6, .int .i64 p.a7, .int .i64 p.a8, .int .i64 p.a9, .int .i64 p.a10, .int .i64 p.a11, .int .i64 p.a12] 43)))
  generalize w3.alloc (.cells #[.int .i64 p.a0, .int .i64 p.a1, .int .i64 p.a2, .int .i64 p.a3, .int .i64 p.a4, .int .i64 p.a5, .int .i64 p.a6, .int .i64 p.a7, .int .i64 p.a8, .int .i64 p.a9, .int .i64 p.a10, .int .i64 p.a11, .int .i64 p.a12] 43) = wa at BA HA CA ⊢
  clear B3 H3
  go_cut [9] from 19 to 26 (fun s7 wc => ∃ P pw q, s7 = .pointer (some ⟨P, 0, none⟩) ∧ Hid (Bg wa P p pw q wc))
  case first =>
    have KS : Hid (∀ y, Below wa.heap.size wa y → y.heap[w3.heap.size]? = some (.cells #[.int .i64 p.a0, .int .i64 p.a1, .int .i64 p.a2, .int .i64 p.a3, .int .i64 p.a4, .int .i64 p.a5, .int .i64 p.a6, .int .i64 p.a7, .int .i64 p.a8, .int .i64 p.a9, .int .i64 p.a10, .int .i64 p.a11, .int .i64 p.a12] 43 (0, 0)) ∧ y.heap[w1.heap.size]? = some (.cells #[.int .i64 c.c0, .int .i64 c.c1, .int .i64 c.c2, .int .i64 c.c3, .int .i64 c.c4, c.c5, c.c6, c.c7, c.c8, .int .i64 c.c9] 72 (0, 0))) := fun y hy => ⟨kept_below HA.out hy, kept_below CA.out hy⟩
    refine gate (fun y => y.heap[w3.heap.size]? = some (.cells #[.int .i64 p.a0, .int .i64 p.a1, .int .i64 p.a2, .int .i64 p.a3, .int .i64 p.a4, .int .i64 p.a5, .int .i64 p.a6, .int .i64 p.a7, .int .i64 p.a8, .int .i64 p.a9, .int .i64 p.a10, .int .i64 p.a11, .int .i64 p.a12] 43 (0, 0)) ∧ y.heap[w1.heap.size]? = some (.cells #[.int .i64 c.c0, .int .i64 c.c1, .int .i64 c.c2, .int .i64 c.c3, .int .i64 c.c4, c.c5, c.c6, c.c7, c.c8, .int .i64 c.c9] 72 (0, 0))) 8 [0, 1, 4] 6 (by kernel_rfl) (by kernel_rfl) (by kernel_rfl) rfl ?_ (KS.out _ (Below.refl _ _).drew) ?_
    · intro d v c a w h
      cases d <;> exact h
    refine yields_step (.agg #[.int .i64 p.a0, .int .i64 p.a1, .int .i64 p.a2, .int .i64 p.a3, .int .i64 p.a4, .int .i64 p.a5, .int .i64 p.a6, .int .i64 p.a7, .int .i64 p.a8, .int .i64 p.a9, .int .i64 p.a10, .int .i64 p.a11, .int .i64 p.a12]) rfl rfl ?_ ?_
    · intro y hS; exact exec_ld rfl (by go_simp) (run_load_row46 hS.1)
    refine yields_step (.agg #[.int .i64 c.c0, .int .i64 c.c1, .int .i64 c.c2, .int .i64 c.c3, .int .i64 c.c4, c.c5, c.c6, c.c7, c.c8, .int .i64 c.c9]) rfl rfl ?_ ?_
    · intro y hS; exact exec_ld rfl (by go_simp) (run_load_row70 hS.2)
    refine yields_step ?_ rfl rfl ?_ ?_
    rotate_left
    · intro y hS; go_simp; rfl
    refine Gate.fork (i := 2) (j := 5) (by kernel_rfl) rfl rfl rfl rfl (fun K hK => ?_) (fun K hK => ?_)
    · go_simp
      refine (ROF.out _).mono ?_; rintro e w4 ⟨rfl, b4⟩
      have B4 : Hid (Below wa.heap.size wa w4) := below_of_drew b4
      refine hK _ _ (fun _ => KS.out _ B4.out) ?_
      clear hK K b4
      refine Gate.fork (i := 3) (j := 5) (by kernel_rfl) rfl rfl rfl rfl (fun K hK => ?_) (fun K hK => ?_)
      · go_simp
        refine (newpower_any _).mono ?_; rintro e w5 ⟨rfl, p5, b5, s5⟩
        have B5 := Lib.hid (bthen B4.out b5)
        have P5 := Lib.hid p5
        have S4 := B4.out.size
        have S5 := s5
        refine hK _ _ (fun _ => KS.out _ B5.out) ?_
        clear hK K b5 p5
        refine Gate.next (i := 5) (by kernel_rfl) rfl rfl (fun K hK => ?_)
        go_simp
        have b6 := balloc w5 (.cells #[.bool false, .bool false, .int .i64 0, .int .i64 0] 78)
        have B6 := Lib.hid (bthen B5.out b6)
        refine hK _ _ (fun _ => KS.out _ B6.out) ?_
        clear hK K
        refine Gate.next (i := 6) (by kernel_rfl) rfl rfl (fun K hK => ?_)
        go_simp
        refine hK _ _ (fun _ => KS.out _ B6.out) ?_
        clear hK K
        refine Gate.next (i := 7) (by kernel_rfl) rfl rfl (fun K hK => ?_)
        go_simp
        refine hK _ _ (fun _ => KS.out _ (bthen B6.out (balloc _ _))) ?_
        clear hK K
        refine Gate.next (i := 8) (by kernel_rfl) rfl rfl (fun K hK => ?_)
        go_simp
        refine hK _ _ (fun h => absurd rfl h) ?_
        clear hK K
        refine Gate.done (by kernel_rfl) ?_
        go_wp2_with fail
        go_meet
        exact ⟨_, _, _, rfl, bg_fin2 (by simp; omega) (by omega) (by omega) (P5.out.heap (b6.block _ (by omega))) (qw_box w5) B6.out (by omega) (by omega) (by omega)⟩
      · go_simp
        have b5 := balloc w4 (.cells #[.bool false, .bool false, .int .i64 0, .int .i64 0] 78)
        have B5 := Lib.hid (bthen B4.out b5)
        refine hK _ _ (fun _ => KS.out _ B5.out) ?_
        clear hK K
        refine Gate.next (i := 3) (by kernel_rfl) rfl rfl (fun K hK => ?_)
        go_simp
        refine (newpower_any _).mono ?_; rintro e w6 ⟨rfl, p6, b6, s6⟩
        have B6 := Lib.hid (bthen B5.out b6)
        have P6 := Lib.hid p6
        have S4 := B4.out.size
        have Q6 := Lib.hid ((qw_box w4).heap (b6.block _ (by simp)))
        rw [World.size_alloc] at P6 s6
        refine hK _ _ (fun _ => KS.out _ B6.out) ?_
        clear hK K
        refine Gate.next (i := 6) (by kernel_rfl) rfl rfl (fun K hK => ?_)
        go_simp
        refine hK _ _ (fun _ => KS.out _ B6.out) ?_
        clear hK K
        refine Gate.next (i := 7) (by kernel_rfl) rfl rfl (fun K hK => ?_)
        go_simp
        refine hK _ _ (fun _ => KS.out _ (bthen B6.out (balloc _ _))) ?_
        clear hK K
        refine Gate.next (i := 8) (by kernel_rfl) rfl rfl (fun K hK => ?_)
        go_simp
        refine hK _ _ (fun h => absurd rfl h) ?_
        clear hK K
        refine Gate.done (by kernel_rfl) ?_
        go_wp2_with fail
        go_meet
        exact ⟨_, _, _, rfl, bg_fin2 (by omega) (by omega) (by omega) P6.out Q6.out B6.out (by omega) (by omega) (by omega)⟩
    · go_simp
      have b4 := balloc wa (.cells #[.bool false, .bool false, .int .i64 0, .int .i64 0] 78)
      have B4 : Hid (Below wa.heap.size wa ((wa.alloc (.cells #[.bool false, .bool false, .int .i64 0, .int .i64 0] 78)).drew)) := b4.drew
      have Q4 : Hid (Qw ((wa.alloc (.cells #[.bool false, .bool false, .int .i64 0, .int .i64 0] 78)).drew) wa.heap.size ⟨false, none, 0⟩) := (qw_box wa).heap rfl
      refine hK _ _ (fun _ => KS.out _ B4.out) ?_
      clear hK K b4
      have sz4 : ((wa.alloc (.cells #[.bool false, .bool false, .int .i64 0, .int .i64 0] 78)).drew).heap.size = wa.heap.size + 1 := by rw [← World.size_alloc wa (.cells #[.bool false, .bool false, .int .i64 0, .int .i64 0] 78)]; rfl
      refine Gate.next (i := 2) (by kernel_rfl) rfl rfl (fun K hK => ?_)
      go_simp
      · refine (ROF.out _).mono ?_; rintro e w5 ⟨rfl, b5⟩
        have B5 := Lib.hid (bthen B4.out b5)
        have Q5 := Lib.hid (Q4.out.heap (b5.block _ (by omega)))
        have S5 := b5.size
        refine hK _ _ (fun _ => KS.out _ B5.out) ?_
        clear hK K b5
        refine Gate.next (i := 3) (by kernel_rfl) rfl rfl (fun K hK => ?_)
        go_simp
        refine (newpower_any _).mono ?_; rintro e w6 ⟨rfl, p6, b6, s6⟩
        have B6 := Lib.hid (bthen B5.out b6)
        have P6 := Lib.hid p6
        have Q6 := Lib.hid (Q5.out.heap (b6.block _ Q5.out.lt))
        have S4 := B5.out.size
        rw [sz4] at S5
        refine hK _ _ (fun _ => KS.out _ B6.out) ?_
        clear hK K
        refine Gate.next (i := 6) (by kernel_rfl) rfl rfl (fun K hK => ?_)
        go_simp
        refine hK _ _ (fun _ => KS.out _ B6.out) ?_
        clear hK K
        refine Gate.next (i := 7) (by kernel_rfl) rfl rfl (fun K hK => ?_)
        go_simp
        refine hK _ _ (fun _ => KS.out _ (bthen B6.out (balloc _ _))) ?_
        clear hK K
        refine Gate.next (i := 8) (by kernel_rfl) rfl rfl (fun K hK => ?_)
        go_simp
        refine hK _ _ (fun h => absurd rfl h) ?_
        clear hK K
        refine Gate.done (by kernel_rfl) ?_
        go_wp2_with fail
        go_meet
        exact ⟨_, _, _, rfl, bg_fin2 (by omega) (by omega) (by omega) P6.out Q6.out B6.out (by omega) (by omega) (by omega)⟩
  case rest =>
    obtain ⟨P, pw, q, rfl, BG⟩ := hcut
    have hn2 : n ≤ 4096 := HP.out.hn2
    have hP := BG.out.head
    have c17 : wc.cell? ⟨P, 25, none⟩ = some (.int .i64 (n : Int)) := by rw [← HP.out.h12]; exact cell_of_row _ _ 25 _ _ _ hP
    have c26 : wc.cell? ⟨P, 26, none⟩ = some (.pointer (some ⟨pw, 0, none⟩)) := cell_of_row _ _ 26 _ _ _ hP
    have KN := Lib.hid (fun (w' : World) (hb : Below wc.heap.size wc w') => new_pd (BG.out.hpw.heap (hb.block _ BG.out.hpw.lt)) hn2)
    have KC : Hid (∀ y, Below wc.heap.size wc y → y.cell? ⟨P, 25, none⟩ = some (.int .i64 (n : Int)) ∧ y.cell? ⟨P, 26, none⟩ = some (.pointer (some ⟨pw, 0, none⟩))) := fun y hy => ⟨(hy.cell (p := ⟨P, 25, none⟩) (World.block_lt_of_cell? wc ⟨P, 25, none⟩ c17)).trans c17, (hy.cell (p := ⟨P, 26, none⟩) (World.block_lt_of_cell? wc ⟨P, 26, none⟩ c26)).trans c26⟩
    go_wp2_with fail
    go_region_held (fun y => y.cell? ⟨P, 25, none⟩ = some (.int .i64 (n : Int)) ∧ y.cell? ⟨P, 26, none⟩ = some (.pointer (some ⟨pw, 0, none⟩))) (first | go_keep | exact KC.out _ B1.out)
      (first
        | (go_at_call 29; (with_reducible refine (KN.out _ (bdrew _)).mono ?_); rintro e w4 ⟨D, rfl, hD, p4, b4⟩; have B1 : Hid (Below wc.heap.size wc w4) := below_of_drew b4; have P4 : Hid (PD w4 (Fresh wc w4) D pw n 0 m00) := p4; have HD : Hid (wc.heap.size ≤ D) := hD; clear p4 b4 hD))
    all_goals
      clear c17 c26
      have H4 := Lib.hid (kept_below hP B1.out)
      have c27 : w4.cell? ⟨P, 27, none⟩ = some (.pointer none) := cell_of_row _ _ 27 _ _ _ H4.out
      have f27 := frozen_of_row w4 P 27 _ _ H4.out
      have g5 := grown_set w4 P 27 (.pointer (some ⟨D, 0, none⟩))
      have H5 : Hid ((w4.setCell ⟨P, 27, none⟩ (.pointer (some ⟨D, 0, none⟩))).heap[P]? = some (.cells (PCo p (some ⟨pw, 0, none⟩) (some ⟨D, 0, none⟩) (some ⟨q, 0, none⟩) none none none) 51 (0, 0))) := by
        show _ = _
        rw [heap_setCell_same _ _ _ _ _ _ H4.out]
        rfl
      have PL4 : Hid (P < w4.heap.size ∧ wc.heap.size ≤ w4.heap.size) := ⟨lt_of_heap H4.out, B1.out.size⟩
      have B5 : Hid (Below wa.heap.size wa (w4.setCell ⟨P, 27, none⟩ (.pointer (some ⟨D, 0, none⟩)))) := (BG.out.bel.trans (B1.out.mono BG.out.bel.size)).grown g5 (Nat.le_trans BG.out.bel.size B1.out.size) (fun k e => by injection e with e; have := BG.out.ge.1; omega)
      have P5 := Lib.hid (P4.out.kept (G := fun b => b = P) (Chg.of_grown g5 (fun k e _ => by injection e with e; exact e.symm)) (fun b x e => by
        subst e
        have h1 := lt_of_heap hP
        rcases x with x | x
        · have := x.1; omega
        · have := BG.out.ne.1; omega))
      have Q5 := Lib.hid ((BG.out.hqw.heap (B1.out.block _ BG.out.hqw.lt)).heap (g5.block q (Nat.lt_of_lt_of_le BG.out.hqw.lt B1.out.size) (fun e => by injection e with e; have := BG.out.ne.2.1; omega)))
      have S5 : Hid ((w4.setCell ⟨P, 27, none⟩ (.pointer (some ⟨D, 0, none⟩))).heap.size = w4.heap.size) := by show _ = _; simp [World.setCell]
      go_upto_region 6 with fail
      generalize w4.setCell ⟨P, 27, none⟩ (.pointer (some ⟨D, 0, none⟩)) = w5 at H5 B5 P5 Q5 S5 ⊢
      clear c27 f27 g5 H4
      have KR := Lib.hid (fun (w' : World) (hb : Below w5.heap.size w5 w') => rnew_rd (Q5.out.heap (hb.block _ Q5.out.lt)) hn2)
      refine gate (fun y => y.heap[P]? = some (.cells (PCo p (some ⟨pw, 0, none⟩) (some ⟨D, 0, none⟩) (some ⟨q, 0, none⟩) none none none) 51 (0, 0))) 13 [0, 1, 2, 3, 4, 5, 6, 7, 8, 9] 4 (by kernel_rfl) (by kernel_rfl) (by kernel_rfl) rfl ?_ (kept_below H5.out (bdrew _)) ?_
      · intro d v c a w h
        cases d <;> exact h
      iterate 5
        refine yields_step ?_ rfl rfl ?_ ?_
        rotate_left
        · intro y hS; go_simp; rfl
      refine yields_step (.int .i64 (n : Int)) rfl rfl ?_ ?_
      · intro y hS
        have c17 : y.cell? ⟨P, 25, none⟩ = some (.int .i64 (n : Int)) := by rw [← HP.out.h12]; exact cell_of_row _ _ 25 _ _ _ hS
        go_simp
      iterate 3
        refine yields_step ?_ rfl rfl ?_ ?_
        rotate_left
        · intro y hS; go_simp; rfl
      refine yields_step (.pointer (some ⟨q, 0, none⟩)) rfl rfl ?_ ?_
      · intro y hS
        have c29 : y.cell? ⟨P, 29, none⟩ = some (.pointer (some ⟨q, 0, none⟩)) := cell_of_row _ _ 29 _ _ _ hS
        go_simp
      refine Gate.next (i := 10) (by kernel_rfl) rfl rfl (fun K hK => ?_)
      go_simp
      refine (KR.out _ (bdrew _)).mono ?_; rintro e w6 ⟨E, rfl, hE, r6, b6⟩
      have B6 : Hid (Below w5.heap.size w5 w6) := below_of_drew b6
      have R6 : Hid (RD w6 (Fresh w5 w6) E q n 0 m00) := r6
      have HE6 : Hid (w5.heap.size ≤ E) := hE
      have H6 := Lib.hid (kept_below H5.out B6.out)
      refine hK _ _ (fun _ => H6.out) ?_
      clear hK K b6 r6 hE
      refine Gate.next (i := 11) (by kernel_rfl) rfl rfl (fun K hK => ?_)
      go_simp
      refine hK _ _ (fun _ => H6.out) ?_
      clear hK K
      refine Gate.next (i := 12) (by kernel_rfl) rfl rfl (fun K hK => ?_)
      go_simp
      refine hK _ _ (fun _ => H6.out) ?_
      clear hK K
      refine Gate.next (i := 13) (by kernel_rfl) rfl rfl (fun K hK => ?_)
      have c30 : w6.cell? ⟨P, 30, none⟩ = some (.pointer none) := cell_of_row _ _ 30 _ _ _ H6.out
      have f30 := frozen_of_row w6 P 30 _ _ H6.out
      go_simp
      refine hK _ _ (fun h => absurd rfl h) ?_
      clear hK K c30 f30
      refine Gate.done (by kernel_rfl) ?_
      have g7 := grown_set w6 P 30 (.pointer (some ⟨E, 0, none⟩))
      have H7 : Hid (PHead (w6.setCell ⟨P, 30, none⟩ (.pointer (some ⟨E, 0, none⟩))) P p pw D q E none none) := by
        show PHead _ _ _ _ _ _ _ _ _
        unfold PHead
        rw [heap_setCell_same _ _ _ _ _ _ H6.out]
        rfl
      have sz := World.size_alloc
      have s7 : (w6.setCell ⟨P, 30, none⟩ (.pointer (some ⟨E, 0, none⟩))).heap.size = w6.heap.size := by simp [World.setCell]
      have hPl := lt_of_heap hP
      have sBA := BA.out.size
      have sB6 := B6.out.size
      have c7 : Chg (fun b => b = P) w6 (w6.setCell ⟨P, 30, none⟩ (.pointer (some ⟨E, 0, none⟩))) := Chg.of_grown g7 (fun k e _ => by injection e with e; exact e.symm)
      obtain ⟨ne1, ne2, ne3⟩ := BG.out.ne
      obtain ⟨ge1, ge2, ge3⟩ := BG.out.ge
      have lpw := BG.out.hpw.lt
      have lq := BG.out.hqw.lt
      have sP4 := PL4.out.2
      have sS5 := S5.out
      have R7 : Hid (Pr wa P p n 0 pw D q E none none (Fresh wc w4) (Fresh w5 w6) (fun _ => False) (fun _ => False) m00 m00 none none (w6.setCell ⟨P, 30, none⟩ (.pointer (some ⟨E, 0, none⟩)))) := by
        refine ⟨(P5.out.below B6.out).kept c7 (fun b x e => ?_), R6.out.kept c7 (fun b x e => ?_), rfl, rfl, ⟨⟨fun b => if b = P then 5 else if b = pw then 1 else if b = q then 2 else if b < w5.heap.size then 1 else 2, fun b x => ?_, fun b x => ?_, fun b x => x.elim, fun b x => x.elim, if_pos rfl⟩, fun b x => ?_⟩, ?_⟩
        · subst e; rcases x with x | x
          · have := x.1; omega
          · omega
        · subst e; rcases x with x | x
          · have := x.1; omega
          · omega
        · show (if b = P then 5 else if b = pw then 1 else if b = q then 2 else if b < w5.heap.size then 1 else 2) = 1
          rcases x with x | x
          · obtain ⟨x1, x2⟩ := x
            rw [if_neg (by omega), if_neg (by omega), if_neg (by omega), if_pos (by omega)]
          · rw [if_neg (by omega), if_pos x]
        · show (if b = P then 5 else if b = pw then 1 else if b = q then 2 else if b < w5.heap.size then 1 else 2) = 2
          rcases x with x | x
          · obtain ⟨x1, x2⟩ := x
            rw [if_neg (by omega), if_neg (by omega), if_neg (by omega), if_neg (by omega)]
          · rw [if_neg (by omega), if_neg (by omega), if_pos x]
        · rw [s7]
          rcases x with (x | x) | (x | x) | x | x | x
          · have := x.1; have := x.2; omega
          · omega
          · have := x.1; have := x.2; omega
          · omega
          · exact x.elim
          · exact x.elim
          · omega
        · exact (bthen B5.out B6.out).grown g7 (by omega) (fun k e => by injection e with e; omega)
      have M7 : Hid ((w6.setCell ⟨P, 30, none⟩ (.pointer (some ⟨E, 0, none⟩))).heap[w3.heap.size]? = some (.cells #[.int .i64 p.a0, .int .i64 p.a1, .int .i64 p.a2, .int .i64 p.a3, .int .i64 p.a4, .int .i64 p.a5, .int .i64 p.a6, .int .i64 p.a7, .int .i64 p.a8, .int .i64 p.a9, .int .i64 p.a10, .int .i64 p.a11, .int .i64 p.a12] 43 (0, 0))) := by
        have hl := lt_of_heap HA.out
        exact (g7.block w3.heap.size (by omega) (fun e => by injection e with e; omega)).trans ((B6.out.block w3.heap.size (by have := B5.out.size; omega)).trans ((B5.out.block w3.heap.size hl).trans HA.out))
      generalize w6.setCell ⟨P, 30, none⟩ (.pointer (some ⟨E, 0, none⟩)) = w7 at H7 R7 M7 ⊢
      clear sz g7 s7 c7 ne1 ne2 ne3 ge1 ge2 ge3 lpw lq sP4 sS5 hPl sBA sB6
      have KO : Hid (∀ y, Below w7.heap.size w7 y → Calls Tryz.prog 31 #[.pointer (some ⟨P, 0, none⟩), .int .u64 (f : Int), .int .u64 0] y fun e y' => e = .returned (.bool true) ∧ ∃ T U, (∃ H1 H2, Pr wa P p n 0 pw D q E (some ⟨T, 0, none⟩) (some ⟨U, 0, none⟩) (Fresh wc w4) (Fresh w5 w6) H1 H2 m00 m00 (some ⟨f, f, 0⟩) (some ⟨f, f, 0⟩) y') ∧ PHead y' P p pw D q E (some ⟨T, 0, none⟩) (some ⟨U, 0, none⟩)) := fun y hy => by
        have h0 := pair_open_yes (f := f) (ep := 0) (R7.out.below hy) (H7.out.below hy) (HE.out.below BA.out) HP.out rfl HF.out (Nat.zero_le _) ([], m00) (rdl_blank la lg 0 lg f 0)
        exact h0.mono fun e y' ⟨e1, T', U', H1', H2', e2, e3, _⟩ => ⟨e1, T', U', ⟨H1', H2', e2⟩, e3⟩
      go_upto_region 7 with fail
      refine gate (fun _ => True) 20 [0, 1, 2, 3, 4, 5, 6, 7, 8, 9] 11 (by kernel_rfl) (by kernel_rfl) (by kernel_rfl) rfl ?_ trivial ?_
      · intro d v c a w h
        cases d <;> exact h
      refine yields_step ?_ rfl rfl ?_ ?_
      rotate_left
      · intro x hS; go_simp; rfl
      refine yields_step ?_ rfl rfl ?_ ?_
      rotate_left
      · intro x hS; go_simp; rfl
      refine yields_step ?_ rfl rfl ?_ ?_
      rotate_left
      · intro x hS; go_simp; rfl
      refine yields_step ?_ rfl rfl ?_ ?_
      rotate_left
      · intro x hS; go_simp; rfl
      refine yields_on ?_ rfl (by kernel_rfl) ?_ ?_
      rotate_left
      · intro x hS; go_simp; rfl
      refine yields_on ?_ rfl (by kernel_rfl) ?_ ?_
      rotate_left
      · intro x hS; go_simp; rfl
      refine yields_step ?_ rfl rfl ?_ ?_
      rotate_left
      · intro x hS; go_simp; rfl
      refine yields_step ?_ rfl rfl ?_ ?_
      rotate_left
      · intro x hS; go_simp; rfl
      refine yields_on ?_ rfl (by kernel_rfl) ?_ ?_
      rotate_left
      · intro x hS; go_simp; rfl
      refine yields_on ?_ rfl (by kernel_rfl) ?_ ?_
      rotate_left
      · intro x hS; go_simp; rfl
      refine gate_on (i := 10) (by kernel_rfl) rfl (by kernel_rfl) (fun K hK => ?_)
      go_simp
      refine (KO.out _ (bdrew _)).mono ?_; rintro e w10 ⟨rfl, T, U, ⟨H1, H2, p10⟩, h10⟩
      have P10 := Lib.hid p10
      have H10 := Lib.hid h10
      have c28 : w10.cell? ⟨P, 28, none⟩ = some (.pointer (some ⟨T, 0, none⟩)) := (h10.cell 28).1
      refine hK _ _ (fun _ => trivial) ?_
      clear hK K p10 h10
      refine Gate.takes (P := Tryz.prog) (t := 20) (by kernel_rfl) (fun d v c a w h => by cases d <;> exact h) trivial [11, 12, 19] 7 _ _ (by kernel_rfl) ?_
      refine yields_step ?_ rfl rfl ?_ ?_
      rotate_left
      · intro x hS; go_simp; rfl
      refine yields_step ?_ rfl rfl ?_ ?_
      rotate_left
      · intro x hS; go_simp; rfl
      refine yields_step ?_ rfl rfl ?_ ?_
      rotate_left
      · intro x hS; go_simp; rfl
      refine gate_on (i := 13) (by kernel_rfl) rfl (by kernel_rfl) (fun K hK => ?_)
      go_simp
      refine hK _ _ (fun _ => trivial) ?_
      clear hK K
      refine gate_on (i := 14) (by kernel_rfl) rfl (by kernel_rfl) (fun K hK => ?_)
      go_simp
      refine hK _ _ (fun _ => trivial) ?_
      clear hK K
      refine gate_on (i := 15) (by kernel_rfl) rfl (by kernel_rfl) (fun K hK => ?_)
      go_simp
      refine hK _ _ (fun _ => trivial) ?_
      clear hK K
      refine gate_on (i := 16) (by kernel_rfl) rfl (by kernel_rfl) (fun K hK => ?_)
      go_simp
      refine hK _ _ (fun _ => trivial) ?_
      clear hK K
      refine gate_on (i := 17) (by kernel_rfl) rfl (by kernel_rfl) (fun K hK => ?_)
      go_simp
      refine hK _ _ (fun _ => trivial) ?_
      clear hK K
      refine Gate.next (i := 18) (by kernel_rfl) rfl rfl (fun K hK => ?_)
      go_simp
      refine hK _ _ (fun _ => trivial) ?_
      clear hK K
      refine Gate.next (i := 20) (by kernel_rfl) rfl rfl (fun K hK => ?_)
      go_simp
      refine hK _ _ (fun h => absurd rfl h) ?_
      clear hK K
      refine Gate.done (by kernel_rfl) ?_
      clear c28
      go_wp2
      go_ret2
      exact ⟨P, pw, D, q, E, T, U, rfl, ⟨_, _, _, _, P10.out.base BA.out⟩, H10.out⟩
end
end Go.Proofs.YtikbbikcacoobaaGreatDoor.Pd.Iv

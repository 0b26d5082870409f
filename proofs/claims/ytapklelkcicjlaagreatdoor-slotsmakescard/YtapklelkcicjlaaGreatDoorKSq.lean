/-
  Elder texts, one behind the other: SlBegin, SlPairCrash. No conditions.
-/
import Derived.Test.YtapklelkcicjlaaGreatDoorKSp
import Derived.Test.YtapklelkcicjlaaGreatDoorKSe
import Derived.BigQuiet
import Derived.Deep.RegionHeld
import Derived.Deep.DrawnRows
/-! begin. No conditions. -/
namespace Go.Proofs.YtapklelkcicjlaaGreatDoor.Pd.Sl
set_option maxRecDepth 100000
open Go.RowKit Oc Dm W Dw Sr Gt W.Hd
set_option linter.unusedVariables false
set_option maxRecDepth 100000
attribute [local go_sem ↓] Go.wp_at_zero Go.wp_at_succ

theorem yields_on {P : Program} {ops : Array Oper} {S : World → Prop} {i : Nat} {is : List Nat} {K : Act → Prop} {a : Act} {o : Oper} (v : Value) (ho : ops[i]? = some o) (hg : Region.wanted o (yielded ops a.tmps) = true) (hv : ∀ w, S w → (execOp a.eval o).run P w = .ok (.value v) w)
    (h : Taken P ops S is K (a.put o.dst v)) : Taken P ops S (i :: is) K a :=
  ⟨o, v, ho, .inl ⟨hg, hv⟩, h⟩
theorem yields_off {P : Program} {ops : Array Oper} {S : World → Prop} {i : Nat} {is : List Nat} {K : Act → Prop} {a : Act} {o : Oper} (ho : ops[i]? = some o) (hg : Region.wanted o (yielded ops a.tmps) = false)
    (h : Taken P ops S is K (a.put o.dst undef)) : Taken P ops S (i :: is) K a :=
  ⟨o, undef, ho, .inr ⟨hg, rfl⟩, h⟩
theorem gate_on {P : Program} {md : Region.Mode} {ops : Array Oper} {Q : Exit → Act → World → Prop} {S : World → Prop} {t : Nat} {i : Nat} {o : Oper} {fuel : Nat} {listed : Array Bool} {a : Act} {w : World} (hr : Region.ready md ops listed = [i]) (ho : ops[i]? = some o) (hg : Region.wanted o (yielded ops a.tmps) = true)
    (h : ∀ K : Act → World → Prop, (∀ a' w', (i ≠ t → S w') → Gate P md ops Q S t fuel (listed.setIfInBounds i true) a' w' → K a' w') → Oper.wp P o a w K Q) : Gate P md ops Q S t (fuel + 1) listed a w :=
  Gate.one hr ho fun K hK => by rw [if_pos hg]; exact h K hK
theorem pln_plan (s : Nat) (h1 : 1 ≤ s) (h2 : s ≤ 192) : ∃ la, Pln (Pn.planOf 1 (s : Int) 1) la s (la + 2 * s) := by
  obtain ⟨e1, e2⟩ := Pn.ups_bd (n := (s : Int)) (d := 3) (by omega) (by decide)
  refine ⟨(2 + 2 * Pn.ups (s : Int) 3 + 1).toNat, ?_, rfl, ?_, rfl, by omega, h1, by omega⟩
  · show 2 + 2 * Pn.ups (s : Int) 3 + 1 = _; omega
  · show 2 + 2 * Pn.ups (s : Int) 3 + 1 + 2 * (s : Int) = _; omega
def m00 : Vs := ⟨⟨false, none, 0⟩, fun _ => sec0, 0, 0⟩
/-- a blank device's slots -/
def fresh (k : Nat) : List Slt := List.replicate k ⟨0, 0⟩
theorem opn_blank (la : Nat) : ∀ k i, opn la k i m00 = (fresh k, m00)
  | 0, _ => rfl
  | k + 1, i => by
    have hr : rd1 m00 (la + 2 * i) = (0, zs, m00) := rfl
    have hw : wornAt la i m00 = 0 := by
      unfold wornAt
      rw [hr]
      dsimp only
      rw [if_pos rfl]
      exact hg_zero (xs := zs) (E' := (hg zs).2) rfl zs_hg
    show (⟨0, wornAt la i m00⟩ :: (opn la k (i + 1) (rd1 m00 (la + 2 * i)).2.2).1, (opn la k (i + 1) (rd1 m00 (la + 2 * i)).2.2).2) = _
    rw [hw, hr]
    dsimp only
    rw [opn_blank la k (i + 1)]
    rfl
def PCo (p : Pn.Pl) (pw D q E T U : Option Addr) : Array Value := #[.int .i64 p.a0, .int .i64 p.a1, .int .i64 p.a2, .int .i64 p.a3, .int .i64 p.a4, .int .i64 p.a5, .int .i64 p.a6, .int .i64 p.a7, .int .i64 p.a8, .int .i64 p.a9, .int .i64 p.a10, .int .i64 p.a11, .int .i64 p.a12, .int .i64 p.a0, .int .i64 p.a1, .int .i64 p.a2, .int .i64 p.a3, .int .i64 p.a4, .int .i64 p.a5, .int .i64 p.a6, .int .i64 p.a7, .int .i64 p.a8, .int .i64 p.a9, .int .i64 p.a10, .int .i64 p.a11, .int .i64 p.a12, .pointer pw, .pointer D, .pointer T, .pointer q, .pointer E, .pointer U]
/-- the pair as it is first, without devices -/
structure Bg (wa : World) (P : Nat) (p : Pn.Pl) (pw q : Nat) (wc : World) : Prop where
  head : wc.heap[P]? = some (.cells (PCo p (some ⟨pw, 0, none⟩) none (some ⟨q, 0, none⟩) none none none) 53 (0, 0))
  hpw : Pw wc pw ⟨false, none, 0⟩
  hqw : Qw wc q ⟨false, none, 0⟩
  ne : P ≠ pw ∧ P ≠ q ∧ pw ≠ q
  ge : wa.heap.size ≤ P ∧ wa.heap.size ≤ pw ∧ wa.heap.size ≤ q
  bel : Below wa.heap.size wa wc
theorem qw_box (w : World) : Qw (w.alloc (.cells #[.bool false, .bool false, .int .i64 0, .int .i64 0] 96)) w.heap.size ⟨false, none, 0⟩ := ⟨0, heap_alloc_new w _, fun k e => by cases e⟩
theorem bg_fin {wa wx : World} {p : Pn.Pl} {pw q : Nat} (h1 : Pw wx pw ⟨false, none, 0⟩) (h2 : Qw wx q ⟨false, none, 0⟩) (hb : Below wa.heap.size wa wx) (hne : pw ≠ q) (g1 : wa.heap.size ≤ pw) (g2 : wa.heap.size ≤ q) :
    Bg wa wx.heap.size p pw q (wx.alloc (.cells (PCo p (some ⟨pw, 0, none⟩) none (some ⟨q, 0, none⟩) none none none) 53)) := by
  have b := balloc wx (.cells (PCo p (some ⟨pw, 0, none⟩) none (some ⟨q, 0, none⟩) none none none) 53)
  have l1 := h1.lt
  have l2 := h2.lt
  exact ⟨heap_alloc_new _ _, h1.heap (b.block _ l1), h2.heap (b.block _ l2), ⟨by omega, by omega, hne⟩, ⟨hb.size, g1, g2⟩, bthen hb b⟩
theorem bg_fin2 {wa wx : World} {p : Pn.Pl} {pw q P pw' q' : Nat} (eP : P = wx.heap.size) (e1 : pw' = pw) (e2 : q' = q) (h1 : Pw wx pw ⟨false, none, 0⟩) (h2 : Qw wx q ⟨false, none, 0⟩) (hb : Below wa.heap.size wa wx) (hne : pw ≠ q) (g1 : wa.heap.size ≤ pw) (g2 : wa.heap.size ≤ q) :
    Hid (Bg wa P p pw' q' (wx.alloc (.cells (PCo p (some ⟨pw', 0, none⟩) none (some ⟨q', 0, none⟩) none none none) 53))) := by
  subst eP e1 e2
  exact bg_fin h1 h2 hb hne g1 g2
/-- what begin leaves -/
def Begun (w : World) (p : Pn.Pl) (n ns : Nat) (e : Ending) (w' : World) : Prop :=
  ∃ P pw D q E T U, e = .returned (.tuple #[.pointer (some ⟨P, 0, none⟩), .bool true]) ∧ (∃ F G H1 H2, Pr w P p n 0 pw D q E (some ⟨T, 0, none⟩) (some ⟨U, 0, none⟩) F G H1 H2 m00 m00 (some (fresh ns)) (some (fresh ns)) w') ∧ PHead w' P p pw D q E (some ⟨T, 0, none⟩) (some ⟨U, 0, none⟩)
theorem run_load_row46 {w : World} {b : Nat} {T : TypeId} {p : Pn.Pl} (hg : w.heap[b]? = some (.cells #[.int .i64 p.a0, .int .i64 p.a1, .int .i64 p.a2, .int .i64 p.a3, .int .i64 p.a4, .int .i64 p.a5, .int .i64 p.a6, .int .i64 p.a7, .int .i64 p.a8, .int .i64 p.a9, .int .i64 p.a10, .int .i64 p.a11, .int .i64 p.a12] T (0, 0))) : (Instr.loadAt 45 (.pointer (some ⟨b, 0, none⟩))).run Tryz.prog w = .ok (.agg #[.int .i64 p.a0, .int .i64 p.a1, .int .i64 p.a2, .int .i64 p.a3, .int .i64 p.a4, .int .i64 p.a5, .int .i64 p.a6, .int .i64 p.a7, .int .i64 p.a8, .int .i64 p.a9, .int .i64 p.a10, .int .i64 p.a11, .int .i64 p.a12]) w := by
  simp only [Instr.loadAt, Instr.sureAddr, Sem.run_bind, Sem.run_pure, Result.andThen_ok, run_loadVar_row w b T 45 _ (0, 0) _ hg Tryz.underlying45 rfl Pn.info_map]
theorem run_load_row70 {w : World} {b : Nat} {T : TypeId} {c : Pn.Cf} (hg : w.heap[b]? = some (.cells #[.int .i64 c.c0, .int .i64 c.c1, .int .i64 c.c2, .int .i64 c.c3, .int .i64 c.c4, c.c5, c.c6, c.c7, c.c8, .int .i64 c.c9] T (0, 0))) : (Instr.loadAt 77 (.pointer (some ⟨b, 0, none⟩))).run Tryz.prog w = .ok (.agg #[.int .i64 c.c0, .int .i64 c.c1, .int .i64 c.c2, .int .i64 c.c3, .int .i64 c.c4, c.c5, c.c6, c.c7, c.c8, .int .i64 c.c9]) w := by
  simp only [Instr.loadAt, Instr.sureAddr, Sem.run_bind, Sem.run_pure, Result.andThen_ok, run_loadVar_row w b T 77 _ (0, 0) _ hg Tryz.underlying77 rfl Pn.info_conf]
theorem new_pd {w : World} {n pw : Nat} (hp : Pw w pw ⟨false, none, 0⟩) (hn : n ≤ 4096) : Calls Tryz.prog 28 #[.int .i64 (n : Int), .pointer (some ⟨pw, 0, none⟩)] w fun e w' => ∃ D, e = .returned (.tuple #[.pointer (some ⟨D, 0, none⟩), .int .i64 0]) ∧ w.heap.size ≤ D ∧ PD w' (Fresh w w') D pw n 0 m00 ∧ Below w.heap.size w w' :=
  (new_yes hp hn).mono fun e w' ⟨D, fx, m, r, e1, e2, e3, e4⟩ => ⟨D, e1, e2, ⟨hp.heap (e4.block _ hp.lt), ⟨_, _, _, _, e3⟩, fun x => by have := hp.lt; have := x.1; omega, Nat.zero_le _, by decide⟩, e4⟩
theorem rnew_rd {w : World} {n q : Nat} (hq : Qw w q ⟨false, none, 0⟩) (hn : n ≤ 4096) : Calls Tryz.prog 39 #[.int .i64 (n : Int), .pointer (some ⟨q, 0, none⟩)] w fun e w' => ∃ E, e = .returned (.pointer (some ⟨E, 0, none⟩)) ∧ w.heap.size ≤ E ∧ RD w' (Fresh w w') E q n 0 m00 ∧ Below w.heap.size w w' :=
  (rnew_any w n q hn).mono fun e w' ⟨E, gs, e1, e2, e3, e4⟩ => ⟨E, e1, e2, ⟨hq.heap (e4.block _ hq.lt), ⟨_, _, e3⟩, fun x => by have := hq.lt; have := x.1; omega, fun k e => (by cases e), Nat.zero_le _, fun i hi => Nat.zero_le _, by decide⟩, e4⟩
theorem Pr.base {w wa w' : World} {P n N pw D q E : Nat} {p : Pn.Pl} {T U : Option Addr} {F G H1 H2 : Nat → Prop} {m1 m2 : Vs} {t1 t2 : Option (List Slt)} (h : Pr wa P p n N pw D q E T U F G H1 H2 m1 m2 t1 t2 w') (hb : Below w.heap.size w wa) : Pr w P p n N pw D q E T U F G H1 H2 m1 m2 t1 t2 w' :=
  ⟨h.pd, h.rd, h.tb1, h.tb2, ⟨h.ap.col, fun b x => ⟨Nat.le_trans hb.size (h.ap.lo b x).1, (h.ap.lo b x).2⟩⟩, bthen hb h.bel⟩
section
variable {w w' : World}
set_option maxHeartbeats 8000000 in
theorem begin_any (x : Nat) (hx : x ≤ 65535) (c : Pn.Cf) (hc : c = Pn.cfOf (1 + (0 : Int) % 512) (1 + (x : Int) % 192) (1 + (0 : Int) % 256)) (p : Pn.Pl) (hp : p = Pn.planOf c.c0 c.c1 c.c2) (la ns n : Nat) (hP : Pln p la ns n) (w : World) (he : EnvH w) :
    Calls Tryz.prog 7 #[.int .u16 (x : Int)] w (Begun w p n ns) := by
  have hm : Pn.May c := by rw [hc]; exact ⟨⟨(show (1 : Int) ≤ 1 by decide), (show (1 : Int) ≤ 512 by decide)⟩, ⟨by show 1 ≤ 1 + (x : Int) % 192; omega, by show 1 + (x : Int) % 192 ≤ 192; omega⟩, ⟨(show (1 : Int) ≤ 1 by decide), (show (1 : Int) ≤ 256 by decide)⟩, ⟨(show (1 : Int) ≤ 10 by decide), (show (10 : Int) ≤ 4096 by decide)⟩, ⟨(show (0 : Int) ≤ 100 by decide), (show (100 : Int) ≤ 1048576 by decide)⟩, ⟨(show (0 : Int) ≤ 0 by decide), (show (0 : Int) ≤ 1048576 by decide)⟩⟩
  have ONE := Lib.hid (show (#[.int .i64 c.c0, .int .i64 c.c1, .int .i64 c.c2, .int .i64 c.c3, .int .i64 c.c4, c.c5, c.c6, c.c7, c.c8, .int .i64 c.c9] : Array Value).all (fun x => x.oneCell') = true by rw [hc]; simp [Pn.cfOf, Value.oneCell'])
  have CONF := Lib.hid (fun w => Pn.conf_any 0 (x : Int) 0 c hc w (by decide) (by decide) (by omega) (by omega) (by decide) (by decide))
  have OF := Lib.hid (fun w => Pn.of_yes c p hp hm w)
  have ROF := Lib.hid (fun w => Pn.rof_any c p hp w hm.1.1 hm.1.2 hm.2.1.1 hm.2.1.2 hm.2.2.1.1 hm.2.2.1.2)
  have HE := Lib.hid he
  have HP := Lib.hid hP
  clear hc hp hP he hm
  go_enter Tryz.func7, Tryz.ntmps7
  go_wp2_with fail
  refine (CONF.out _).mono ?_; rintro e w1 ⟨rfl, b1⟩
  have B1 := Lib.hid b1
  clear b1
  go_wp2_with (first | ((with_reducible apply Pn.L_storeRow (N := 10) Pn.info_conf); exact rfl; exact rfl; exact heap_alloc_new _ _; exact rfl; exact rfl; (first | exact ONE.out | (simp [Value.oneCell'])); intro w2 h2 g2; have H2 := Lib.hid h2; have B2 := Lib.hid (bthen B1.out ((balloc _ _).grown g2 (by simp) (fun k e => by injection e with e; omega))); clear h2 g2) | ((with_reducible apply Pn.L_loadConf); exact rfl; exact H2.out; exact rfl))
  refine (OF.out _).mono ?_; rintro e w3 ⟨rfl, b3⟩
  have H3 := Lib.hid (kept_below H2.out b3)
  have B3 := Lib.hid (bthen B2.out b3)
  clear b3 B1 B2 H2
  go_upto_region 3 with fail
  have BA := Lib.hid (bthen B3.out (balloc w3 (.cells #[.int .i64 p.a0, .int .i64 p.a1, .int .i64 p.a2, .int .i64 p.a3, .int .i64 p.a4, .int .i64 p.a5, .int .i64 p.a6, .int .i64 p.a7, .int .i64 p.a8, .int .i64 p.a9, .int .i64 p.a10, .int .i64 p.a11, .int .i64 p.a12] 45)))
  have HA := Lib.hid (heap_alloc_new w3 (.cells #[.int .i64 p.a0, .int .i64 p.a1, .int .i64 p.a2, .int .i64 p.a3, .int .i64 p.a4, .int .i64 p.a5, .int .i64 p.a6, .int .i64 p.a7, .int .i64 p.a8, .int .i64 p.a9, .int .i64 p.a10, .int .i64 p.a11, .int .i64 p.a12] 45))
  have CA := Lib.hid (kept_below H3.out (balloc w3 (.cells #[.int .i64 p.a0, .int .i64 p.a1, .int .i64 p.a2, .int .i64 p.a3, .int .i64 p.a4, .int .i64 p.a5, .int .i64 p.a6, .int .i64 p.a7, .int .i64 p.a8, .int .i64 p.a9, .int .i64 p.a10, .int .i64 p.a11, .int .i64 p.a12] 45)))
  generalize w3.alloc (.cells #[.int .i64 p.a0, .int .i64 p.a1, .int .i64 p.a2, .int .i64 p.a3, .int .i64 p.a4, .int .i64 p.a5, .int .i64 p.a6, .int .i64 p.a7, .int .i64 p.a8, .int .i64 p.a9, .int .i64 p.a10, .int .i64 p.a11, .int .i64 p.a12] 45) = wa at BA HA CA ⊢
  clear B3 H3
  go_cut [7] from 17 to 24 (fun s7 wc => ∃ P pw q, s7 = .pointer (some ⟨P, 0, none⟩) ∧ Hid (Bg wa P p pw q wc))
  case first =>
    have KS : Hid (∀ y, Below wa.heap.size wa y → y.heap[w3.heap.size]? = some (.cells #[.int .i64 p.a0, .int .i64 p.a1, .int .i64 p.a2, .int .i64 p.a3, .int .i64 p.a4, .int .i64 p.a5, .int .i64 p.a6, .int .i64 p.a7, .int .i64 p.a8, .int .i64 p.a9, .int .i64 p.a10, .int .i64 p.a11, .int .i64 p.a12] 45 (0, 0)) ∧ y.heap[w1.heap.size]? = some (.cells #[.int .i64 c.c0, .int .i64 c.c1, .int .i64 c.c2, .int .i64 c.c3, .int .i64 c.c4, c.c5, c.c6, c.c7, c.c8, .int .i64 c.c9] 77 (0, 0))) := fun y hy => ⟨kept_below HA.out hy, kept_below CA.out hy⟩
    refine gate (fun y => y.heap[w3.heap.size]? = some (.cells #[.int .i64 p.a0, .int .i64 p.a1, .int .i64 p.a2, .int .i64 p.a3, .int .i64 p.a4, .int .i64 p.a5, .int .i64 p.a6, .int .i64 p.a7, .int .i64 p.a8, .int .i64 p.a9, .int .i64 p.a10, .int .i64 p.a11, .int .i64 p.a12] 45 (0, 0)) ∧ y.heap[w1.heap.size]? = some (.cells #[.int .i64 c.c0, .int .i64 c.c1, .int .i64 c.c2, .int .i64 c.c3, .int .i64 c.c4, c.c5, c.c6, c.c7, c.c8, .int .i64 c.c9] 77 (0, 0))) 8 [0, 1, 4] 6 (by kernel_rfl) (by kernel_rfl) (by kernel_rfl) rfl ?_ (KS.out _ (Below.refl _ _).drew) ?_
    · intro d v c a w h
      cases d <;> exact h
    refine yields_step (.agg #[.int .i64 p.a0, .int .i64 p.a1, .int .i64 p.a2, .int .i64 p.a3, .int .i64 p.a4, .int .i64 p.a5, .int .i64 p.a6, .int .i64 p.a7, .int .i64 p.a8, .int .i64 p.a9, .int .i64 p.a10, .int .i64 p.a11, .int .i64 p.a12]) rfl rfl ?_ ?_
    · intro y hS; exact exec_ld rfl (by go_simp) (run_load_row46 hS.1)
    refine yields_step (.agg #[.int .i64 c.c0, .int .i64 c.c1, .int .i64 c.c2, .int .i64 c.c3, .int .i64 c.c4, c.c5, c.c6, c.c7, c.c8, .int .i64 c.c9]) rfl rfl ?_ ?_
    · intro y hS; exact exec_ld rfl (by go_simp) (run_load_row70 hS.2)
    refine yields_step ?_ rfl rfl ?_ ?_
    rotate_left
    · intro y hS; go_simp; rfl
    refine Gate.fork (i := 2) (j := 5) (by kernel_rfl) rfl rfl rfl rfl (fun K hK => ?_) (fun K hK => ?_)
    · go_simp
      refine (ROF.out _).mono ?_; rintro e w4 ⟨rfl, b4⟩
      have B4 : Hid (Below wa.heap.size wa w4) := below_of_drew b4
      refine hK _ _ (fun _ => KS.out _ B4.out) ?_
      clear hK K b4
      refine Gate.fork (i := 3) (j := 5) (by kernel_rfl) rfl rfl rfl rfl (fun K hK => ?_) (fun K hK => ?_)
      · go_simp
        refine (newpower_any _).mono ?_; rintro e w5 ⟨rfl, p5, b5, s5⟩
        have B5 := Lib.hid (bthen B4.out b5)
        have P5 := Lib.hid p5
        have S4 := B4.out.size
        have S5 := s5
        refine hK _ _ (fun _ => KS.out _ B5.out) ?_
        clear hK K b5 p5
        refine Gate.next (i := 5) (by kernel_rfl) rfl rfl (fun K hK => ?_)
        go_simp
        have b6 := balloc w5 (.cells #[.bool false, .bool false, .int .i64 0, .int .i64 0] 96)
        have B6 := Lib.hid (bthen B5.out b6)
        refine hK _ _ (fun _ => KS.out _ B6.out) ?_
        clear hK K
        refine Gate.next (i := 6) (by kernel_rfl) rfl rfl (fun K hK => ?_)
        go_simp
        refine hK _ _ (fun _ => KS.out _ B6.out) ?_
        clear hK K
        refine Gate.next (i := 7) (by kernel_rfl) rfl rfl (fun K hK => ?_)
        go_simp
        refine hK _ _ (fun _ => KS.out _ (bthen B6.out (balloc _ _))) ?_
        clear hK K
        refine Gate.next (i := 8) (by kernel_rfl) rfl rfl (fun K hK => ?_)
        go_simp
        refine hK _ _ (fun h => absurd rfl h) ?_
        clear hK K
        refine Gate.done (by kernel_rfl) ?_
        go_wp2_with fail
        go_meet
        exact ⟨_, _, _, rfl, bg_fin2 (by simp; omega) (by omega) (by omega) (P5.out.heap (b6.block _ (by omega))) (qw_box w5) B6.out (by omega) (by omega) (by omega)⟩
      · go_simp
        have b5 := balloc w4 (.cells #[.bool false, .bool false, .int .i64 0, .int .i64 0] 96)
        have B5 := Lib.hid (bthen B4.out b5)
        refine hK _ _ (fun _ => KS.out _ B5.out) ?_
        clear hK K
        refine Gate.next (i := 3) (by kernel_rfl) rfl rfl (fun K hK => ?_)
        go_simp
        refine (newpower_any _).mono ?_; rintro e w6 ⟨rfl, p6, b6, s6⟩
        have B6 := Lib.hid (bthen B5.out b6)
        have P6 := Lib.hid p6
        have S4 := B4.out.size
        have Q6 := Lib.hid ((qw_box w4).heap (b6.block _ (by simp)))
        rw [World.size_alloc] at P6 s6
        refine hK _ _ (fun _ => KS.out _ B6.out) ?_
        clear hK K
        refine Gate.next (i := 6) (by kernel_rfl) rfl rfl (fun K hK => ?_)
        go_simp
        refine hK _ _ (fun _ => KS.out _ B6.out) ?_
        clear hK K
        refine Gate.next (i := 7) (by kernel_rfl) rfl rfl (fun K hK => ?_)
        go_simp
        refine hK _ _ (fun _ => KS.out _ (bthen B6.out (balloc _ _))) ?_
        clear hK K
        refine Gate.next (i := 8) (by kernel_rfl) rfl rfl (fun K hK => ?_)
        go_simp
        refine hK _ _ (fun h => absurd rfl h) ?_
        clear hK K
        refine Gate.done (by kernel_rfl) ?_
        go_wp2_with fail
        go_meet
        exact ⟨_, _, _, rfl, bg_fin2 (by omega) (by omega) (by omega) P6.out Q6.out B6.out (by omega) (by omega) (by omega)⟩
    · go_simp
      have b4 := balloc wa (.cells #[.bool false, .bool false, .int .i64 0, .int .i64 0] 96)
      have B4 : Hid (Below wa.heap.size wa ((wa.alloc (.cells #[.bool false, .bool false, .int .i64 0, .int .i64 0] 96)).drew)) := b4.drew
      have Q4 : Hid (Qw ((wa.alloc (.cells #[.bool false, .bool false, .int .i64 0, .int .i64 0] 96)).drew) wa.heap.size ⟨false, none, 0⟩) := (qw_box wa).heap rfl
      refine hK _ _ (fun _ => KS.out _ B4.out) ?_
      clear hK K b4
      have sz4 : ((wa.alloc (.cells #[.bool false, .bool false, .int .i64 0, .int .i64 0] 96)).drew).heap.size = wa.heap.size + 1 := by rw [← World.size_alloc wa (.cells #[.bool false, .bool false, .int .i64 0, .int .i64 0] 96)]; rfl
      refine Gate.next (i := 2) (by kernel_rfl) rfl rfl (fun K hK => ?_)
      go_simp
      · refine (ROF.out _).mono ?_; rintro e w5 ⟨rfl, b5⟩
        have B5 := Lib.hid (bthen B4.out b5)
        have Q5 := Lib.hid (Q4.out.heap (b5.block _ (by omega)))
        have S5 := b5.size
        refine hK _ _ (fun _ => KS.out _ B5.out) ?_
        clear hK K b5
        refine Gate.next (i := 3) (by kernel_rfl) rfl rfl (fun K hK => ?_)
        go_simp
        refine (newpower_any _).mono ?_; rintro e w6 ⟨rfl, p6, b6, s6⟩
        have B6 := Lib.hid (bthen B5.out b6)
        have P6 := Lib.hid p6
        have Q6 := Lib.hid (Q5.out.heap (b6.block _ Q5.out.lt))
        have S4 := B5.out.size
        rw [sz4] at S5
        refine hK _ _ (fun _ => KS.out _ B6.out) ?_
        clear hK K
        refine Gate.next (i := 6) (by kernel_rfl) rfl rfl (fun K hK => ?_)
        go_simp
        refine hK _ _ (fun _ => KS.out _ B6.out) ?_
        clear hK K
        refine Gate.next (i := 7) (by kernel_rfl) rfl rfl (fun K hK => ?_)
        go_simp
        refine hK _ _ (fun _ => KS.out _ (bthen B6.out (balloc _ _))) ?_
        clear hK K
        refine Gate.next (i := 8) (by kernel_rfl) rfl rfl (fun K hK => ?_)
        go_simp
        refine hK _ _ (fun h => absurd rfl h) ?_
        clear hK K
        refine Gate.done (by kernel_rfl) ?_
        go_wp2_with fail
        go_meet
        exact ⟨_, _, _, rfl, bg_fin2 (by omega) (by omega) (by omega) P6.out Q6.out B6.out (by omega) (by omega) (by omega)⟩
  case rest =>
    obtain ⟨P, pw, q, rfl, BG⟩ := hcut
    have hn2 : n ≤ 4096 := HP.out.hn2
    have hP := BG.out.head
    have c17 : wc.cell? ⟨P, 25, none⟩ = some (.int .i64 (n : Int)) := by rw [← HP.out.h12]; exact cell_of_row _ _ 25 _ _ _ hP
    have c26 : wc.cell? ⟨P, 26, none⟩ = some (.pointer (some ⟨pw, 0, none⟩)) := cell_of_row _ _ 26 _ _ _ hP
    have KN := Lib.hid (fun (w' : World) (hb : Below wc.heap.size wc w') => new_pd (BG.out.hpw.heap (hb.block _ BG.out.hpw.lt)) hn2)
    have KC : Hid (∀ y, Below wc.heap.size wc y → y.cell? ⟨P, 25, none⟩ = some (.int .i64 (n : Int)) ∧ y.cell? ⟨P, 26, none⟩ = some (.pointer (some ⟨pw, 0, none⟩))) := fun y hy => ⟨(hy.cell (p := ⟨P, 25, none⟩) (World.block_lt_of_cell? wc ⟨P, 25, none⟩ c17)).trans c17, (hy.cell (p := ⟨P, 26, none⟩) (World.block_lt_of_cell? wc ⟨P, 26, none⟩ c26)).trans c26⟩
    go_wp2_with fail
    go_region_held (fun y => y.cell? ⟨P, 25, none⟩ = some (.int .i64 (n : Int)) ∧ y.cell? ⟨P, 26, none⟩ = some (.pointer (some ⟨pw, 0, none⟩))) (first | go_keep | exact KC.out _ B1.out)
      (first
        | (go_at_call 28; (with_reducible refine (KN.out _ (bdrew _)).mono ?_); rintro e w4 ⟨D, rfl, hD, p4, b4⟩; have B1 : Hid (Below wc.heap.size wc w4) := below_of_drew b4; have P4 : Hid (PD w4 (Fresh wc w4) D pw n 0 m00) := p4; have HD : Hid (wc.heap.size ≤ D) := hD; clear p4 b4 hD))
    all_goals
      clear c17 c26
      have H4 := Lib.hid (kept_below hP B1.out)
      have c27 : w4.cell? ⟨P, 27, none⟩ = some (.pointer none) := cell_of_row _ _ 27 _ _ _ H4.out
      have f27 := frozen_of_row w4 P 27 _ _ H4.out
      have g5 := grown_set w4 P 27 (.pointer (some ⟨D, 0, none⟩))
      have H5 : Hid ((w4.setCell ⟨P, 27, none⟩ (.pointer (some ⟨D, 0, none⟩))).heap[P]? = some (.cells (PCo p (some ⟨pw, 0, none⟩) (some ⟨D, 0, none⟩) (some ⟨q, 0, none⟩) none none none) 53 (0, 0))) := by
        show _ = _
        rw [heap_setCell_same _ _ _ _ _ _ H4.out]
        rfl
      have PL4 : Hid (P < w4.heap.size ∧ wc.heap.size ≤ w4.heap.size) := ⟨lt_of_heap H4.out, B1.out.size⟩
      have B5 : Hid (Below wa.heap.size wa (w4.setCell ⟨P, 27, none⟩ (.pointer (some ⟨D, 0, none⟩)))) := (BG.out.bel.trans (B1.out.mono BG.out.bel.size)).grown g5 (Nat.le_trans BG.out.bel.size B1.out.size) (fun k e => by injection e with e; have := BG.out.ge.1; omega)
      have P5 := Lib.hid (P4.out.kept (G := fun b => b = P) (Chg.of_grown g5 (fun k e _ => by injection e with e; exact e.symm)) (fun b x e => by
        subst e
        have h1 := lt_of_heap hP
        rcases x with x | x
        · have := x.1; omega
        · have := BG.out.ne.1; omega))
      have Q5 := Lib.hid ((BG.out.hqw.heap (B1.out.block _ BG.out.hqw.lt)).heap (g5.block q (Nat.lt_of_lt_of_le BG.out.hqw.lt B1.out.size) (fun e => by injection e with e; have := BG.out.ne.2.1; omega)))
      have S5 : Hid ((w4.setCell ⟨P, 27, none⟩ (.pointer (some ⟨D, 0, none⟩))).heap.size = w4.heap.size) := by show _ = _; simp [World.setCell]
      go_upto_region 6 with fail
      generalize w4.setCell ⟨P, 27, none⟩ (.pointer (some ⟨D, 0, none⟩)) = w5 at H5 B5 P5 Q5 S5 ⊢
      clear c27 f27 g5 H4
      have KR := Lib.hid (fun (w' : World) (hb : Below w5.heap.size w5 w') => rnew_rd (Q5.out.heap (hb.block _ Q5.out.lt)) hn2)
      refine gate (fun y => y.heap[P]? = some (.cells (PCo p (some ⟨pw, 0, none⟩) (some ⟨D, 0, none⟩) (some ⟨q, 0, none⟩) none none none) 53 (0, 0))) 13 [0, 1, 2, 3, 4, 5, 6, 7, 8, 9] 4 (by kernel_rfl) (by kernel_rfl) (by kernel_rfl) rfl ?_ (kept_below H5.out (bdrew _)) ?_
      · intro d v c a w h
        cases d <;> exact h
      iterate 5
        refine yields_step ?_ rfl rfl ?_ ?_
        rotate_left
        · intro y hS; go_simp; rfl
      refine yields_step (.int .i64 (n : Int)) rfl rfl ?_ ?_
      · intro y hS
        have c17 : y.cell? ⟨P, 25, none⟩ = some (.int .i64 (n : Int)) := by rw [← HP.out.h12]; exact cell_of_row _ _ 25 _ _ _ hS
        go_simp
      iterate 3
        refine yields_step ?_ rfl rfl ?_ ?_
        rotate_left
        · intro y hS; go_simp; rfl
      refine yields_step (.pointer (some ⟨q, 0, none⟩)) rfl rfl ?_ ?_
      · intro y hS
        have c29 : y.cell? ⟨P, 29, none⟩ = some (.pointer (some ⟨q, 0, none⟩)) := cell_of_row _ _ 29 _ _ _ hS
        go_simp
      refine Gate.next (i := 10) (by kernel_rfl) rfl rfl (fun K hK => ?_)
      go_simp
      refine (KR.out _ (bdrew _)).mono ?_; rintro e w6 ⟨E, rfl, hE, r6, b6⟩
      have B6 : Hid (Below w5.heap.size w5 w6) := below_of_drew b6
      have R6 : Hid (RD w6 (Fresh w5 w6) E q n 0 m00) := r6
      have HE6 : Hid (w5.heap.size ≤ E) := hE
      have H6 := Lib.hid (kept_below H5.out B6.out)
      refine hK _ _ (fun _ => H6.out) ?_
      clear hK K b6 r6 hE
      refine Gate.next (i := 11) (by kernel_rfl) rfl rfl (fun K hK => ?_)
      go_simp
      refine hK _ _ (fun _ => H6.out) ?_
      clear hK K
      refine Gate.next (i := 12) (by kernel_rfl) rfl rfl (fun K hK => ?_)
      go_simp
      refine hK _ _ (fun _ => H6.out) ?_
      clear hK K
      refine Gate.next (i := 13) (by kernel_rfl) rfl rfl (fun K hK => ?_)
      have c30 : w6.cell? ⟨P, 30, none⟩ = some (.pointer none) := cell_of_row _ _ 30 _ _ _ H6.out
      have f30 := frozen_of_row w6 P 30 _ _ H6.out
      go_simp
      refine hK _ _ (fun h => absurd rfl h) ?_
      clear hK K c30 f30
      refine Gate.done (by kernel_rfl) ?_
      have g7 := grown_set w6 P 30 (.pointer (some ⟨E, 0, none⟩))
      have H7 : Hid (PHead (w6.setCell ⟨P, 30, none⟩ (.pointer (some ⟨E, 0, none⟩))) P p pw D q E none none) := by
        show PHead _ _ _ _ _ _ _ _ _
        unfold PHead
        rw [heap_setCell_same _ _ _ _ _ _ H6.out]
        rfl
      have sz := World.size_alloc
      have s7 : (w6.setCell ⟨P, 30, none⟩ (.pointer (some ⟨E, 0, none⟩))).heap.size = w6.heap.size := by simp [World.setCell]
      have hPl := lt_of_heap hP
      have sBA := BA.out.size
      have sB6 := B6.out.size
      have c7 : Chg (fun b => b = P) w6 (w6.setCell ⟨P, 30, none⟩ (.pointer (some ⟨E, 0, none⟩))) := Chg.of_grown g7 (fun k e _ => by injection e with e; exact e.symm)
      obtain ⟨ne1, ne2, ne3⟩ := BG.out.ne
      obtain ⟨ge1, ge2, ge3⟩ := BG.out.ge
      have lpw := BG.out.hpw.lt
      have lq := BG.out.hqw.lt
      have sP4 := PL4.out.2
      have sS5 := S5.out
      have R7 : Hid (Pr wa P p n 0 pw D q E none none (Fresh wc w4) (Fresh w5 w6) (fun _ => False) (fun _ => False) m00 m00 none none (w6.setCell ⟨P, 30, none⟩ (.pointer (some ⟨E, 0, none⟩)))) := by
        refine ⟨(P5.out.below B6.out).kept c7 (fun b x e => ?_), R6.out.kept c7 (fun b x e => ?_), rfl, rfl, ⟨⟨fun b => if b = P then 5 else if b = pw then 1 else if b = q then 2 else if b < w5.heap.size then 1 else 2, fun b x => ?_, fun b x => ?_, fun b x => x.elim, fun b x => x.elim, if_pos rfl⟩, fun b x => ?_⟩, ?_⟩
        · subst e; rcases x with x | x
          · have := x.1; omega
          · omega
        · subst e; rcases x with x | x
          · have := x.1; omega
          · omega
        · show (if b = P then 5 else if b = pw then 1 else if b = q then 2 else if b < w5.heap.size then 1 else 2) = 1
          rcases x with x | x
          · obtain ⟨x1, x2⟩ := x
            rw [if_neg (by omega), if_neg (by omega), if_neg (by omega), if_pos (by omega)]
          · rw [if_neg (by omega), if_pos x]
        · show (if b = P then 5 else if b = pw then 1 else if b = q then 2 else if b < w5.heap.size then 1 else 2) = 2
          rcases x with x | x
          · obtain ⟨x1, x2⟩ := x
            rw [if_neg (by omega), if_neg (by omega), if_neg (by omega), if_neg (by omega)]
          · rw [if_neg (by omega), if_neg (by omega), if_pos x]
        · rw [s7]
          rcases x with (x | x) | (x | x) | x | x | x
          · have := x.1; have := x.2; omega
          · omega
          · have := x.1; have := x.2; omega
          · omega
          · exact x.elim
          · exact x.elim
          · omega
        · exact (bthen B5.out B6.out).grown g7 (by omega) (fun k e => by injection e with e; omega)
      have M7 : Hid ((w6.setCell ⟨P, 30, none⟩ (.pointer (some ⟨E, 0, none⟩))).heap[w3.heap.size]? = some (.cells #[.int .i64 p.a0, .int .i64 p.a1, .int .i64 p.a2, .int .i64 p.a3, .int .i64 p.a4, .int .i64 p.a5, .int .i64 p.a6, .int .i64 p.a7, .int .i64 p.a8, .int .i64 p.a9, .int .i64 p.a10, .int .i64 p.a11, .int .i64 p.a12] 45 (0, 0))) := by
        have hl := lt_of_heap HA.out
        exact (g7.block w3.heap.size (by omega) (fun e => by injection e with e; omega)).trans ((B6.out.block w3.heap.size (by have := B5.out.size; omega)).trans ((B5.out.block w3.heap.size hl).trans HA.out))
      generalize w6.setCell ⟨P, 30, none⟩ (.pointer (some ⟨E, 0, none⟩)) = w7 at H7 R7 M7 ⊢
      clear sz g7 s7 c7 ne1 ne2 ne3 ge1 ge2 ge3 lpw lq sP4 sS5 hPl sBA sB6
      have KO : Hid (∀ y, Below w7.heap.size w7 y → Calls Tryz.prog 40 #[.pointer (some ⟨P, 0, none⟩)] y fun e y' => e = .returned (.bool true) ∧ ∃ T U, (∃ H1 H2, Pr wa P p n 0 pw D q E (some ⟨T, 0, none⟩) (some ⟨U, 0, none⟩) (Fresh wc w4) (Fresh w5 w6) H1 H2 m00 m00 (some (fresh ns)) (some (fresh ns)) y') ∧ PHead y' P p pw D q E (some ⟨T, 0, none⟩) (some ⟨U, 0, none⟩)) := fun y hy => by
        have h0 := pair_open_yes (R7.out.below hy) (H7.out.below hy) (HE.out.below BA.out) HP.out rfl (fresh ns, m00) (opn_blank la ns 0)
        exact h0.mono fun e y' ⟨e1, T', U', H1', H2', e2, e3, _⟩ => ⟨e1, T', U', ⟨H1', H2', e2⟩, e3⟩
      go_upto_region 7 with fail
      refine gate (fun _ => True) 19 [0, 1, 2, 3, 4, 5, 6, 7, 8] 11 (by kernel_rfl) (by kernel_rfl) (by kernel_rfl) rfl ?_ trivial ?_
      · intro d v c a w h
        cases d <;> exact h
      refine yields_step ?_ rfl rfl ?_ ?_
      rotate_left
      · intro x hS; go_simp; rfl
      refine yields_step ?_ rfl rfl ?_ ?_
      rotate_left
      · intro x hS; go_simp; rfl
      refine yields_step ?_ rfl rfl ?_ ?_
      rotate_left
      · intro x hS; go_simp; rfl
      refine yields_step ?_ rfl rfl ?_ ?_
      rotate_left
      · intro x hS; go_simp; rfl
      refine yields_on ?_ rfl (by kernel_rfl) ?_ ?_
      rotate_left
      · intro x hS; go_simp; rfl
      refine yields_on ?_ rfl (by kernel_rfl) ?_ ?_
      rotate_left
      · intro x hS; go_simp; rfl
      refine yields_step ?_ rfl rfl ?_ ?_
      rotate_left
      · intro x hS; go_simp; rfl
      refine yields_step ?_ rfl rfl ?_ ?_
      rotate_left
      · intro x hS; go_simp; rfl
      refine yields_on ?_ rfl (by kernel_rfl) ?_ ?_
      rotate_left
      · intro x hS; go_simp; rfl
      refine gate_on (i := 9) (by kernel_rfl) rfl (by kernel_rfl) (fun K hK => ?_)
      go_simp
      refine (KO.out _ (bdrew _)).mono ?_; rintro e w10 ⟨rfl, T, U, ⟨H1, H2, p10⟩, h10⟩
      have P10 := Lib.hid p10
      have H10 := Lib.hid h10
      have c28 : w10.cell? ⟨P, 28, none⟩ = some (.pointer (some ⟨T, 0, none⟩)) := (h10.cell 28).1
      refine hK _ _ (fun _ => trivial) ?_
      clear hK K p10 h10
      refine Gate.takes (P := Tryz.prog) (t := 19) (by kernel_rfl) (fun d v c a w h => by cases d <;> exact h) trivial [10, 11, 18] 7 _ _ (by kernel_rfl) ?_
      refine yields_step ?_ rfl rfl ?_ ?_
      rotate_left
      · intro x hS; go_simp; rfl
      refine yields_step ?_ rfl rfl ?_ ?_
      rotate_left
      · intro x hS; go_simp; rfl
      refine yields_step ?_ rfl rfl ?_ ?_
      rotate_left
      · intro x hS; go_simp; rfl
      refine gate_on (i := 12) (by kernel_rfl) rfl (by kernel_rfl) (fun K hK => ?_)
      go_simp
      refine hK _ _ (fun _ => trivial) ?_
      clear hK K
      refine gate_on (i := 13) (by kernel_rfl) rfl (by kernel_rfl) (fun K hK => ?_)
      go_simp
      refine hK _ _ (fun _ => trivial) ?_
      clear hK K
      refine gate_on (i := 14) (by kernel_rfl) rfl (by kernel_rfl) (fun K hK => ?_)
      go_simp
      refine hK _ _ (fun _ => trivial) ?_
      clear hK K
      refine gate_on (i := 15) (by kernel_rfl) rfl (by kernel_rfl) (fun K hK => ?_)
      go_simp
      refine hK _ _ (fun _ => trivial) ?_
      clear hK K
      refine gate_on (i := 16) (by kernel_rfl) rfl (by kernel_rfl) (fun K hK => ?_)
      go_simp
      refine hK _ _ (fun _ => trivial) ?_
      clear hK K
      refine Gate.next (i := 17) (by kernel_rfl) rfl rfl (fun K hK => ?_)
      go_simp
      refine hK _ _ (fun _ => trivial) ?_
      clear hK K
      refine Gate.next (i := 19) (by kernel_rfl) rfl rfl (fun K hK => ?_)
      go_simp
      refine hK _ _ (fun h => absurd rfl h) ?_
      clear hK K
      refine Gate.done (by kernel_rfl) ?_
      clear c28
      go_wp2
      go_ret2
      exact ⟨P, pw, D, q, E, T, U, rfl, ⟨_, _, _, _, P10.out.base BA.out⟩, H10.out⟩
end
end Go.Proofs.YtapklelkcicjlaaGreatDoor.Pd.Sl

/-! crash, on a pair. No conditions. -/
namespace Go.Proofs.YtapklelkcicjlaaGreatDoor.Pd.Sl
set_option maxRecDepth 100000
open Go.RowKit Oc Dm W Dw Sr Gt W.Hd
set_option linter.unusedVariables false
set_option maxRecDepth 100000
attribute [local go_sem ↓] Go.wp_at_zero Go.wp_at_succ
/-- what a crash leaves -/
def fits (n : Nat) (S : Nat → Sec) (fs : List Int) : List Int := fitOf (looseOf n S) fs (min fs.length (looseOf n S).length)
def crashed (n : Nat) (S : Nat → Sec) (fs : List Int) : Vs := ⟨⟨false, none, 0⟩, crashTo n S (fits n S fs) (fits n S fs).length, 0, 0⟩
theorem own_fresh {w : World} {e : TypeId} {B n c b off : Nat} {A : Option Addr} {vs : List Value} (h : Rw.OwnV w e B (.slice A n c) vs) (hl : vs.length = n) (h0 : 0 < n) (hA : A = some ⟨b, off, none⟩) : B ≤ b := by
  rcases h.2 with ⟨e1, h1⟩ | ⟨g, cap, cur, e1, hb, _⟩
  · omega
  · injection e1 with e1 e2 e3
    rw [hA] at e1
    injection e1 with e1
    injection e1 with e1
    omega
theorem fi_set {w : World} {A : Option Addr} {k P : Nat} {fs : List Int} (h : Fi w A k fs) (hP : ∀ b off, 0 < k → A = some ⟨b, off, none⟩ → b ≠ P) (j : Nat) (v : Value) : Fi (w.setCell ⟨P, j, none⟩ v) A k fs :=
  Rw.Sl.heap h (fun b off h0 e => heap_setCell_other _ _ _ _ (hP b off h0 e))
set_option maxHeartbeats 1000000 in
theorem fit_own (w : World) (A B : Option Addr) (k c l c2 : Nat) (ps : List (Nat × Nat)) (fs : List Int) (hp : Lo w A k ps) (hf : Fi w B l fs) (hk : k ≤ 4096) (hm : ∀ x ∈ ps, x.2 ≤ 1000000000) (hl9 : l ≤ 9223372036854775807) :
    Calls Tryz.prog 19 #[.slice A k c, .slice B l c2] w fun e w' => ∃ A' c', e = .returned (.slice A' (fitOf ps fs (min l k)).length c') ∧ Fi w' A' (fitOf ps fs (min l k)).length (fitOf ps fs (min l k)) ∧ (∀ b off, 0 < (fitOf ps fs (min l k)).length → A' = some ⟨b, off, none⟩ → w.heap.size ≤ b) ∧ Below w.heap.size w w' := by
  have HP := Lib.hid hp
  have HF := Lib.hid hf
  have HM := Lib.hid hm
  have hk2 := hp.1
  clear hp hf hm
  go_enter Tryz.func19, Tryz.ntmps19
  go_wp2
  go_loopw [5, 6] (fun v p wr => ∃ j : Nat, j ≤ l ∧ j ≤ k ∧ p = .int .i64 (j : Int) ∧ Hid (Rw.OwnV wr 3 w.heap.size v ((fitOf ps fs j).map (Value.int .i64))) ∧ Hid (Below w.heap.size w wr)) (fun _ p _ => k - (intOf p).toNat)
  case atStart => exact ⟨0, Nat.zero_le _, Nat.zero_le _, rfl, Rw.OwnV.nil _ _ _, Below.refl _ _⟩
  case round =>
    obtain ⟨j, hj, hj2, rfl, OJ, BJ⟩ := hrel
    have hcase : (j < l ∧ j < k) ∨ (l ≤ j) ∨ (j < l ∧ k ≤ j) := by omega
    rcases hcase with ⟨h1, h2⟩ | hend
    · have hfl := HF.out.len
      obtain ⟨f, hf⟩ : ∃ f, fs[j]? = some f := ⟨_, List.getElem?_eq_getElem (by omega)⟩
      obtain ⟨x, hx⟩ : ∃ x, ps[j]? = some x := ⟨_, List.getElem?_eq_getElem (by omega)⟩
      obtain ⟨b1, o1, rfl, cf⟩ := (HF.out.below BJ.out).at_ hf
      obtain ⟨b2, rfl, _, cx⟩ := (HP.out.below BJ.out).at_ hx
      have hx9 := HM.out x (List.mem_of_getElem? hx)
      have ST := Lib.hid (fitOf_step ps fs j)
      rw [show fs.getD j 0 = f by simp [List.getD, hf], show (ps.getD j (0, 0)).2 = x.2 by simp [List.getD, hx]] at ST
      have hj3 : (j : Int) < (l : Int) := by omega
      have hj4 : (j : Int) < (k : Int) := by omega
      have LEN := Lib.hid (fitOf_len ps fs j)
      clear hf hx hfl
      obtain ⟨x1, m⟩ := x
      dsimp only at cx hx9 ST
      have hm1 : ¬ ((m : Int) + 1 = 0) := by omega
      obtain ⟨t, ht⟩ : ∃ t, f.tmod ((m : Int) + 1) = t := ⟨_, rfl⟩
      have hb := fit1_le f m
      have ef : fit1 f m = (t.natAbs : Int) := by rw [fit1, ht]
      rw [ef] at hb ST
      by_cases htn : t < 0
      · have hneg : 0 - t = (t.natAbs : Int) := by omega
        have hlow : -9223372036854775808 ≤ t := by omega
        generalize (t.natAbs : Int) = y at hneg ST hb
        clear ef
        go_wp2_with fail
        go_region
        go_wp2_with (at_builtin; refine Rw.wpList_append_one rfl _ _ 24 rfl itt rfl OJ.out BJ.out.drew _ rfl rfl (by rw [List.length_map, LEN.out]; omega) ?_; intro v2 w2 o2 b2; have O2 := Lib.hid o2; have B2 := Lib.hid b2; clear o2 b2)
        go_roundw
        case rel => exact ⟨j + 1, by omega, by omega, by go_num, by rw [ST.out, List.map_append]; exact O2, B2⟩
        case measure => simp [intOf]; omega
      · have hneg : (t.natAbs : Int) = t := by omega
        rw [hneg] at ST hb
        clear ef hneg
        go_wp2_with fail
        go_region
        go_wp2_with (at_builtin; refine Rw.wpList_append_one rfl _ _ 24 rfl itt rfl OJ.out BJ.out.drew _ rfl rfl (by rw [List.length_map, LEN.out]; omega) ?_; intro v2 w2 o2 b2; have O2 := Lib.hid o2; have B2 := Lib.hid b2; clear o2 b2)
        go_roundw
        case rel => exact ⟨j + 1, by omega, by omega, by go_num, by rw [ST.out, List.map_append]; exact O2, B2⟩
        case measure => simp [intOf]; omega
    · have HJM : Hid (min l k = j) := Lib.hid (by omega)
      have LEN : ((fitOf ps fs j).map (Value.int .i64)).length = (fitOf ps fs j).length := by simp
      obtain ⟨A2, c3, rfl, _, _, sl⟩ := OJ.out.form LEN
      have SL := Lib.hid sl
      have LEN2 := Lib.hid LEN
      clear sl LEN
      rcases hend with hend | ⟨hend, hend2⟩
      all_goals
        go_wp2
        go_ret
        rw [HJM.out]
        exact ⟨A2, c3, rfl, SL.out, fun b off h0 e => own_fresh OJ.out LEN2.out h0 e, BJ.out⟩
def none1 (b : Nat) : Prop := False
section
variable {w0 w wa wb wc : World} {P n N pw D q E pw' D' q' E' la lg : Nat} {p : Pn.Pl} {T U T0 U0 : Option Addr} {F G H1 H2 : Nat → Prop} {m m1 m2 : Vs} {t1 t2 : Option (List Slt)} {l c : Nat} {A : Option Addr} {fs : List Int} {S : Nat → Sec} {fx mm r gs : Nat} {vs : Nat → Value}
theorem phead_set {j : Nat} {v : Value} {pw'' D'' q'' E'' : Nat} {T'' U'' : Option Addr} (h : PHead w P p pw D q E T U) (e : (PCs p pw D q E T U).setIfInBounds j v = PCs p pw'' D'' q'' E'' T'' U'') : PHead (w.setCell ⟨P, j, none⟩ v) P p pw'' D'' q'' E'' T'' U'' := by
  unfold PHead
  rw [heap_setCell_same _ _ _ _ _ _ h, e]
theorem set_size (w : World) (a : Addr) (v : Value) : (w.setCell a v).heap.size = w.heap.size := by simp [World.setCell]
set_option maxHeartbeats 1000000 in
theorem cr_done (h : Pr w0 P p n N pw D q E T U F G H1 H2 m1 m2 t1 t2 wa) (hw : w.heap.size ≤ wa.heap.size) (hP : P < w.heap.size) (hU : ∀ b, Us F pw G q H1 H2 b → b < w.heap.size) (hk : Kp' w P none1 wa none1) (hd : PHead wa P p pw' D q' E T0 U0)
    (hp : Pw wa pw' ⟨false, none, 0⟩) (hq : Qw wa q' ⟨false, none, 0⟩) (hne : pw' ≠ q') (gp : w.heap.size ≤ pw') (gq : w.heap.size ≤ q') (hS : ∀ i, (S i).loose = [])
    (d : DvAt wb (Fresh wa wb) D' pw' n N S 0 0 fx mm r (fun _ => none)) (b1 : Below wa.heap.size wa wb) (e : RvAt wc (Fresh wb wc) E' q' n S 0 0 gs vs) (b2 : Below wb.heap.size wb wc) :
    Pr w0 P p n N pw' D' q' E' none none (Fresh wa wb) (Fresh wb wc) none1 none1 ⟨⟨false, none, 0⟩, S, 0, 0⟩ ⟨⟨false, none, 0⟩, S, 0, 0⟩ none none ((wc.setCell ⟨P, 27, none⟩ (.pointer (some ⟨D', 0, none⟩))).setCell ⟨P, 30, none⟩ (.pointer (some ⟨E', 0, none⟩))) ∧
    PHead ((wc.setCell ⟨P, 27, none⟩ (.pointer (some ⟨D', 0, none⟩))).setCell ⟨P, 30, none⟩ (.pointer (some ⟨E', 0, none⟩))) P p pw' D' q' E' T0 U0 ∧
    Kp' w P (Us F pw G q H1 H2) ((wc.setCell ⟨P, 27, none⟩ (.pointer (some ⟨D', 0, none⟩))).setCell ⟨P, 30, none⟩ (.pointer (some ⟨E', 0, none⟩))) (Us (Fresh wa wb) pw' (Fresh wb wc) q' none1 none1) ∧
    ∀ b, b < w.heap.size → b ≠ P → ((wc.setCell ⟨P, 27, none⟩ (.pointer (some ⟨D', 0, none⟩))).setCell ⟨P, 30, none⟩ (.pointer (some ⟨E', 0, none⟩))).heap[b]? = w.heap[b]? := by
  have lp := hp.lt
  have lq := hq.lt
  have s1 := b1.size
  have s2 := b2.size
  have gP := h.lt.2
  have g0 : w0.heap.size ≤ w.heap.size := by omega
  have hsz : ((wc.setCell ⟨P, 27, none⟩ (.pointer (some ⟨D', 0, none⟩))).setCell ⟨P, 30, none⟩ (.pointer (some ⟨E', 0, none⟩))).heap.size = wc.heap.size := by rw [set_size, set_size]
  have ho : ∀ b, b ≠ P → ((wc.setCell ⟨P, 27, none⟩ (.pointer (some ⟨D', 0, none⟩))).setCell ⟨P, 30, none⟩ (.pointer (some ⟨E', 0, none⟩))).heap[b]? = wc.heap[b]? := fun b hb => by rw [heap_setCell_other _ _ _ _ hb, heap_setCell_other _ _ _ _ hb]
  have hc : Chg (fun b => b = P) wc ((wc.setCell ⟨P, 27, none⟩ (.pointer (some ⟨D', 0, none⟩))).setCell ⟨P, 30, none⟩ (.pointer (some ⟨E', 0, none⟩))) :=
    (Chg.of_grown (grown_set wc P 27 _) (fun k e _ => by injection e with e; exact e.symm)).trans (Chg.of_grown (grown_set _ P 30 _) (fun k e _ => by injection e with e; exact e.symm)) (fun _ _ y => y)
  refine ⟨⟨⟨?_, ?_, fun x => ?_, Nat.zero_le _, h.pd.hN⟩, ⟨?_, ⟨gs, vs, ?_⟩, fun x => ?_, fun k e => (by cases e), Nat.zero_le _, fun i hi => (by show (S i).loose.length ≤ N; rw [hS i]; exact Nat.zero_le _), h.pd.hN⟩, rfl, rfl, ⟨⟨fun b => if b = pw' then 1 else if b = q' then 2 else if wa.heap.size ≤ b ∧ b < wb.heap.size then 1 else if wb.heap.size ≤ b ∧ b < wc.heap.size then 2 else if b = P then 5 else 0, fun b x => ?_, fun b x => ?_, fun b x => x.elim, fun b x => x.elim, ?_⟩, fun b x => ?_⟩, ?_⟩, ?_, ?_, fun b hb x => ?_⟩
  · exact hp.heap (((ho pw' (by omega)).trans (b2.block pw' (by omega))).trans (b1.block pw' lp))
  · exact ⟨fx, mm, r, _, (d.frame (fun _ x => x) (fun k x => by have := x.2; omega) (fun k x => b2.block k x.2)).kept hc (fun k x e => by have := x.1; omega)⟩
  · have := x.1; omega
  · exact hq.heap (((ho q' (by omega)).trans (b2.block q' (by omega))).trans (b1.block q' lq))
  · exact e.kept hc (fun k x e => by have := x.1; omega)
  · have := x.1; omega
  · rcases x with x | x
    · have h1 := x.1
      have h2 := x.2
      show (if b = pw' then 1 else if b = q' then 2 else if wa.heap.size ≤ b ∧ b < wb.heap.size then 1 else if wb.heap.size ≤ b ∧ b < wc.heap.size then 2 else if b = P then 5 else 0) = 1
      rw [if_neg (by omega), if_neg (by omega), if_pos ⟨h1, h2⟩]
    · exact if_pos x
  · rcases x with x | x
    · have h1 := x.1
      have h2 := x.2
      show (if b = pw' then 1 else if b = q' then 2 else if wa.heap.size ≤ b ∧ b < wb.heap.size then 1 else if wb.heap.size ≤ b ∧ b < wc.heap.size then 2 else if b = P then 5 else 0) = 2
      rw [if_neg (by omega), if_neg (by omega), if_neg (by omega), if_pos ⟨h1, h2⟩]
    · show (if b = pw' then 1 else if b = q' then 2 else if wa.heap.size ≤ b ∧ b < wb.heap.size then 1 else if wb.heap.size ≤ b ∧ b < wc.heap.size then 2 else if b = P then 5 else 0) = 2
      rw [if_neg (by omega), if_pos x]
  · show (if P = pw' then 1 else if P = q' then 2 else if wa.heap.size ≤ P ∧ P < wb.heap.size then 1 else if wb.heap.size ≤ P ∧ P < wc.heap.size then 2 else if P = P then 5 else 0) = 5
    rw [if_neg (by omega), if_neg (by omega), if_neg (by omega), if_neg (by omega), if_pos rfl]
  · rw [hsz]
    rcases x with (x | x) | (x | x) | x | x | x
    · have := x.1; have := x.2; omega
    · omega
    · have := x.1; have := x.2; omega
    · omega
    · exact x.elim
    · exact x.elim
    · omega
  · exact ((h.bel.trans (b1.mono h.bel.size)).trans (b2.mono (by omega))).trans (hc.below (by omega) (fun b hb x => by omega))
  · refine phead_set (pw := pw') (D := D') (q := q') (E := E) (T := T0) (U := U0) (phead_set (pw'' := pw') (D'' := D') (q'' := q') (E'' := E) (T'' := T0) (U'' := U0) (hd.of ((b2.block P (by omega)).trans (b1.block P h.lt.1))) ?_) ?_ <;> rfl
  · refine ⟨by rw [hsz]; omega, fun b hb x => ⟨(ho b (fun e => x (.inr e))).trans ((b2.block b (by omega)).trans ((b1.block b (by omega)).trans (hk.at_ b hb (fun y => x (y.elim (fun z => z.elim) .inr))).1)), fun y => ?_⟩⟩
    rcases y with ((y | y) | (y | y) | y | y) | y
    · have := y.1; omega
    · omega
    · have := y.1; omega
    · omega
    · exact y.elim
    · exact y.elim
    · exact x (.inr y)
  · exact (ho b x).trans ((b2.block b (by omega)).trans ((b1.block b (by omega)).trans (hk.at_ b hb (fun y => y.elim (fun z => z.elim) x)).1))
theorem phead_pd (h : PHead w P p pw D q E T U) : w.cell? ⟨P, 26, none⟩ = some (.pointer (some ⟨pw, 0, none⟩)) ∧ w.cell? ⟨P, 27, none⟩ = some (.pointer (some ⟨D, 0, none⟩)) ∧ w.cell? ⟨P, 29, none⟩ = some (.pointer (some ⟨q, 0, none⟩)) ∧ w.cell? ⟨P, 30, none⟩ = some (.pointer (some ⟨E, 0, none⟩)) ∧ ∀ j, w.frozen? ⟨P, j, none⟩ = false :=
  ⟨(h.cell 26).1, (h.cell 27).1, (h.cell 29).1, (h.cell 30).1, fun j => (h.cell j).2⟩
set_option maxHeartbeats 8000000 in
theorem pair_crash (h : Pr w0 P p n N pw D q E T U F G H1 H2 m m t1 t2 w) (hh : PHead w P p pw D q E T0 U0) (hf : Fi w A l fs) (hl : l ≤ maxLen) :
    Calls Tryz.prog 48 #[.pointer (some ⟨P, 0, none⟩), .slice A l c] w fun e w' => e = .returned (.bool true) ∧ ∃ pw' D' q' E' F' G', Pr w0 P p n N pw' D' q' E' none none F' G' none1 none1 (crashed n m.S fs) (crashed n m.S fs) none none w' ∧ PHead w' P p pw' D' q' E' T0 U0 ∧ Kp' w P (Us F pw G q H1 H2) w' (Us F' pw' G' q' none1 none1) ∧ ∀ b, b < w.heap.size → b ≠ P → w'.heap[b]? = w.heap[b]? := by
  have H := Lib.hid h
  have HH := Lib.hid hh
  have HF := Lib.hid hf
  have hl9 : l ≤ 9223372036854775807 := by unfold maxLen at hl; omega
  have hfl := hf.len
  have HP : Hid (P < w.heap.size) := h.lt.1
  have HU : Hid (∀ b, Us F pw G q H1 H2 b → b < w.heap.size) := fun b x => (h.ubound x).2
  obtain ⟨hn4, hsec⟩ := h.pd.secs
  have hN6 := h.pd.hN
  have HM : Hid (∀ x ∈ looseOf n m.S, x.2 ≤ 1000000000) := fun x hx => by
    obtain ⟨m1, m2, m3⟩ := mem_loose.1 hx
    have := (hsec x.1 m1).1
    omega
  have HBD : Hid (∀ i, i < n → (m.S i).loose.length ≤ 1000000000) := fun i hi => by have := (hsec i hi).1; omega
  have hL4 := loose_len n m.S
  have HCR : Hid (crashed n m.S fs = ⟨⟨false, none, 0⟩, crashTo n m.S (fits n m.S fs) (fits n m.S fs).length, 0, 0⟩) := rfl
  generalize crashed n m.S fs = mc at HCR
  unfold fits at HCR
  rw [hfl] at HCR
  have HCL : Hid (∀ i, (crashTo n m.S (fitOf (looseOf n m.S) fs (min l (looseOf n m.S).length)) (fitOf (looseOf n m.S) fs (min l (looseOf n m.S).length)).length i).loose = []) := fun i => crashTo_loose _ _ _ _ _
  clear h hh hf hfl hsec hl
  obtain ⟨gs, vs, rv⟩ := H.out.rd.rv
  have RV := Lib.hid rv
  clear rv
  obtain ⟨c26, c27, c29, c30, cf⟩ := phead_pd HH.out
  go_enter Tryz.func48, Tryz.ntmps48
  go_wp2_with fail
  refine (rloose_any RV.out).mono ?_; rintro e w1 ⟨A1, c1, rfl, lo1, b1⟩
  have LO1 := Lib.hid lo1
  have B1 := Lib.hid b1
  have F1 := Lib.hid (HF.out.below b1)
  clear lo1 b1 c26 c27 c29 c30 cf RV
  go_wp2_with fail
  refine (fit_own w1 A1 A _ _ l _ (looseOf n m.S) fs LO1.out F1.out (by omega) HM.out hl9).mono ?_; rintro e w2 ⟨A2, c2, rfl, f2, r2, b2⟩
  have RP : Hid (∀ b off, 0 < (fitOf (looseOf n m.S) fs (min l (looseOf n m.S).length)).length → A2 = some ⟨b, off, none⟩ → b ≠ P) := fun b off h0 e => by have := r2 b off h0 e; have := B1.out.size; have := HP.out; omega
  have FT2 := Lib.hid f2
  have B2 := Lib.hid (bthen B1.out b2)
  have HK : Hid ((fitOf (looseOf n m.S) fs (min l (looseOf n m.S).length)).length ≤ (looseOf n m.S).length) := by rw [fitOf_len]; exact Nat.min_le_right _ _
  have HG : Hid (∀ i, i < (fitOf (looseOf n m.S) fs (min l (looseOf n m.S).length)).length → Dw.Good (looseOf n m.S) (fitOf (looseOf n m.S) fs (min l (looseOf n m.S).length)) i) := fun i _ => fitOf_good _ _ _ i
  clear f2 b2 r2 B1 F1 LO1
  generalize fitOf (looseOf n m.S) fs (min l (looseOf n m.S).length) = ft at FT2 HK HG HCR HCL RP ⊢
  have hft : ft.length ≤ 4096 := by have := HK.out; omega
  generalize hflg : ft.length = fl at FT2 HK HG HCR HCL RP hft ⊢
  clear hflg
  go_wp2_with fail
  refine (newpower_any _).mono ?_; rintro e w3 ⟨rfl, p3, b3, z3⟩
  have P3 := Lib.hid p3
  have B3 := Lib.hid (bthen B2.out b3)
  have FT3 := Lib.hid (FT2.out.below b3)
  have hpw : w.heap.size ≤ w2.heap.size := B2.out.size
  generalize w2.heap.size = pw' at P3 z3 hpw ⊢
  have PR3 := Lib.hid (H.out.below B3.out)
  have PH3 := Lib.hid (HH.out.below B3.out)
  clear p3 b3 B2 FT2
  obtain ⟨c26, c27, c29, c30, cf⟩ := phead_pd PH3.out
  obtain ⟨w4, hw4⟩ : ∃ x, (w3.setCell ⟨P, 26, none⟩ (.pointer (some ⟨pw', 0, none⟩))).alloc (.cells #[.bool false, .bool false, .int .i64 0, .int .i64 0] 96) = x := ⟨_, rfl⟩
  have z3' : (w3.setCell ⟨P, 26, none⟩ (.pointer (some ⟨pw', 0, none⟩))).heap.size = pw' + 1 := by rw [set_size]; exact z3
  have b4 : Below (w3.setCell ⟨P, 26, none⟩ (.pointer (some ⟨pw', 0, none⟩))).heap.size (w3.setCell ⟨P, 26, none⟩ (.pointer (some ⟨pw', 0, none⟩))) w4 := by rw [← hw4]; exact balloc _ _
  have PR4 := Lib.hid ((PR3.out.store 26 (.pointer (some ⟨pw', 0, none⟩))).below b4)
  have PH4 : Hid (PHead w4 P p pw' D q E T0 U0) := (phead_set (pw'' := pw') (D'' := D) (q'' := q) (E'' := E) (T'' := T0) (U'' := U0) PH3.out rfl).below b4
  have hPp : P ≠ pw' := by have := HP.out; omega
  have hPq : pw' + 1 ≠ P := by have : P < w.heap.size := HP.out; omega
  have P4 : Hid (Pw w4 pw' ⟨false, none, 0⟩) := P3.out.heap ((b4.block pw' (by rw [z3']; omega)).trans (heap_setCell_other _ _ _ _ (fun e => hPp e.symm)))
  have Q4 : Hid (Qw w4 (pw' + 1) ⟨false, none, 0⟩) := by
    have := qw_box (w3.setCell ⟨P, 26, none⟩ (.pointer (some ⟨pw', 0, none⟩)))
    rw [z3', hw4] at this
    exact this
  have K4 : Hid (Kp' w P none1 w4 none1) := ((Kp'.of_below B3.out P _).cell 26 _).trans (Kp'.of_below b4 P _)
  have FT4 : Hid (Fi w4 A2 fl ft) := (fi_set FT3.out RP.out 26 _).below b4
  have k29 : ((w3.setCell ⟨P, 26, none⟩ (.pointer (some ⟨pw', 0, none⟩))).alloc (.cells #[.bool false, .bool false, .int .i64 0, .int .i64 0] 96)).cell? ⟨P, 29, none⟩ = some (.pointer (some ⟨q, 0, none⟩)) := by rw [hw4]; exact (phead_pd PH4.out).2.2.1
  have kf : ((w3.setCell ⟨P, 26, none⟩ (.pointer (some ⟨pw', 0, none⟩))).alloc (.cells #[.bool false, .bool false, .int .i64 0, .int .i64 0] 96)).frozen? ⟨P, 29, none⟩ = false := by rw [hw4]; exact (phead_pd PH4.out).2.2.2.2 29
  have HW4 := Lib.hid hw4
  clear hw4 b4
  go_wp2_with fail
  rw [HW4.out]
  clear k29 kf c26 c27 c29 c30 cf HW4
  have PR5 := Lib.hid (PR4.out.store 29 (.pointer (some ⟨pw' + 1, 0, none⟩)))
  have PH5 : Hid (PHead (w4.setCell ⟨P, 29, none⟩ (.pointer (some ⟨pw' + 1, 0, none⟩))) P p pw' D (pw' + 1) E T0 U0) := phead_set (pw'' := pw') (D'' := D) (q'' := pw' + 1) (E'' := E) (T'' := T0) (U'' := U0) PH4.out rfl
  have P5 : Hid (Pw (w4.setCell ⟨P, 29, none⟩ (.pointer (some ⟨pw' + 1, 0, none⟩))) pw' ⟨false, none, 0⟩) := P4.out.heap (heap_setCell_other _ _ _ _ (fun e => hPp e.symm))
  have Q5 : Hid (Qw (w4.setCell ⟨P, 29, none⟩ (.pointer (some ⟨pw' + 1, 0, none⟩))) (pw' + 1) ⟨false, none, 0⟩) := Q4.out.heap (heap_setCell_other _ _ _ _ hPq)
  have K5 : Hid (Kp' w P none1 (w4.setCell ⟨P, 29, none⟩ (.pointer (some ⟨pw' + 1, 0, none⟩))) none1) := K4.out.cell 29 _
  have FT5 := Lib.hid (fi_set FT4.out RP.out 29 (.pointer (some ⟨pw' + 1, 0, none⟩)))
  generalize w4.setCell ⟨P, 29, none⟩ (.pointer (some ⟨pw' + 1, 0, none⟩)) = w5 at PR5 PH5 P5 Q5 K5 FT5 ⊢
  clear PR4 PH4 P4 Q4 K4 FT4 z3' z3 PR3 PH3 P3 B3 FT3
  obtain ⟨c26, c27, c29, c30, cf⟩ := phead_pd PH5.out
  have KC : Hid (∀ y, Below w5.heap.size w5 y → Calls Tryz.prog 17 #[.pointer (some ⟨D, 0, none⟩), .pointer (some ⟨pw', 0, none⟩), .slice A2 fl c2] y (Crashed y pw' n N (crashTo n m.S ft fl))) := fun y hy => by
    obtain ⟨fx, a, b, g, x⟩ := (PR5.out.below hy).pd.dv
    exact crash_ok x (P5.out.heap (hy.block _ P5.out.lt)) (FT5.out.below hy) HK.out HG.out
  go_region_held (fun x => x.cell? ⟨P, 26, none⟩ = some (.pointer (some ⟨pw', 0, none⟩)) ∧ x.cell? ⟨P, 27, none⟩ = some (.pointer (some ⟨D, 0, none⟩))) (first | go_keep | exact ⟨(phead_pd PH6.out).1, (phead_pd PH6.out).2.1⟩)
    (first
      | (go_at_call 17; (with_reducible refine (KC.out _ (bdrew _)).mono ?_); rintro e w6 ⟨D', fx6, m6, r6, rfl, hD6, d6, b6⟩; have B6 : Hid (Below w5.heap.size w5 w6) := bthen (bdrew _) b6; have D6 : Hid (DvAt w6 (Fresh w5 w6) D' pw' n N (crashTo n m.S ft fl) 0 0 fx6 m6 r6 (fun _ => none)) := d6; have PH6 := Lib.hid (PH5.out.below B6.out); clear d6 b6 hD6))
  all_goals
    clear c26 c27 c29 c30 cf KC
    obtain ⟨c26, c27, c29, c30, cf⟩ := phead_pd PH6.out
    have KC : Hid (∀ y, Below w6.heap.size w6 y → Calls Tryz.prog 100 #[.pointer (some ⟨E, 0, none⟩), .pointer (some ⟨pw' + 1, 0, none⟩), .slice A2 fl c2] y (RCrashed y (pw' + 1) n (crashTo n m.S ft fl))) := fun y hy => by
      obtain ⟨gs, vs, x⟩ := ((PR5.out.below B6.out).below hy).rd.rv
      exact rcrash_ok x HBD.out ((FT5.out.below B6.out).below hy) HK.out HG.out
    go_wp2_with fail
    go_region_held (fun x => x.cell? ⟨P, 29, none⟩ = some (.pointer (some ⟨pw' + 1, 0, none⟩)) ∧ x.cell? ⟨P, 30, none⟩ = some (.pointer (some ⟨E, 0, none⟩))) (first | go_keep | exact ⟨(phead_pd PH7.out).2.2.1, (phead_pd PH7.out).2.2.2.1⟩)
      (first
        | (go_at_call 100; (with_reducible refine (KC.out _ (bdrew _)).mono ?_); rintro e w7 ⟨E', gs7, vs7, rfl, hE7, d7, b7⟩; have B7 : Hid (Below w6.heap.size w6 w7) := bthen (bdrew _) b7; have D7 : Hid (RvAt w7 (Fresh w6 w7) E' (pw' + 1) n (crashTo n m.S ft fl) 0 0 gs7 vs7) := d7; have PH7 := Lib.hid (PH6.out.below B7.out); clear d7 b7 hE7))
    all_goals
      clear c26 c27 c29 c30 cf KC
      obtain ⟨c26, c27, c29, c30, cf⟩ := phead_pd PH7.out
      go_wp2
      go_ret
      rw [HCR.out]
      obtain ⟨r1, r2, r3, r4⟩ := cr_done (w := w) PR5.out K5.out.size HP.out HU.out K5.out PH5.out P5.out Q5.out (by omega) hpw (by omega) HCL.out D6.out B6.out D7.out B7.out
      exact ⟨rfl, _, _, _, _, _, _, r1, r2, r3, r4⟩
end
end Go.Proofs.YtapklelkcicjlaaGreatDoor.Pd.Sl

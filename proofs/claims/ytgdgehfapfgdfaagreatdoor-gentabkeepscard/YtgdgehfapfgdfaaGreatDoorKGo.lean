/-
  Elder texts, one behind the other: GbDoKit, GbDo0, GbDo1, GbDo2, GbDo3, GbDo4, GbDo5, GbDo6, GbDoAll. No conditions.
-/
import Derived.Test.YtgdgehfapfgdfaaGreatDoorKGd
import Derived.Test.YtgdgehfapfgdfaaGreatDoorKGa
import Derived.Deep.RegionHeld
import Derived.Deep.DrawnRows
/-! What the walk of a call on a pair leans on: the act in its box, what such a call leaves. No conditions. -/
namespace Go.Proofs.YtgdgehfapfgdfaaGreatDoor.Tb
set_option maxRecDepth 100000
open Go.RowKit Oc Dm W Dw Sr Gt
set_option linter.unusedVariables false
set_option maxRecDepth 100000

/-- an act in its box -/
structure Bx (w : World) (P : Nat) (Z : Nat → Prop) (b : Nat) (cs : Array Value) : Prop where
  cells : ∀ j v, cs[j]? = some v → w.cell? ⟨b, j, none⟩ = some v
  lt : b < w.heap.size
  off : ¬ (Z b ∨ b = P)
theorem Bx.kp {w w' : World} {P b : Nat} {Z Z' : Nat → Prop} {cs : Array Value} (h : Bx w P Z b cs) (k : Kp' w P Z w' Z') : Bx w' P Z' b cs :=
  ⟨fun j v e => (World.cell?_of_block (a := ⟨b, j, none⟩) (k.at_ b h.lt h.off).1).trans (h.cells j v e), Nat.lt_of_lt_of_le h.lt k.size, (k.at_ b h.lt h.off).2⟩
theorem L_boxAct {ops : Array Oper} {rest : List Oper} {a : Act} {w : World} {Q : Exit → Act → World → Prop} {dst : Option Tmp} {ty : TypeId} {pos : String} {af : Array Edge} {y : Operand} {cs : Array Value} (hy : a.eval y = .agg cs)
    (hK : ∀ w1, Below w.heap.size w w1 → (∀ (P : Nat) (Z : Nat → Prop), (∀ b, Z b ∨ b = P → b < w.heap.size) → Bx w1 P Z w.heap.size cs) → wpList Tryz.prog ops Q rest (a.put dst (.pointer (some ⟨w.heap.size, 0, none⟩))) w1) :
    wpList Tryz.prog ops Q (⟨dst, .box 35 y, ty, pos, af, none⟩ :: rest) a w := by
  refine wpList_plain rfl fun K hK' => ?_
  have hrun : (Instr.box 35 (.agg cs)).run Tryz.prog w = .ok (.pointer (some ⟨w.heap.size, 0, none⟩)) (w.alloc (.cells cs 35)) := by
    simp [Instr.box, newVar, newRow, Result.andThen, go_sem, Value.cells]
  unfold Oper.wp
  simp [execOp, hy, hrun, Result.andThen]
  refine hK' _ _ (hK _ (balloc _ _) fun P Z hZ => ⟨fun j v e => ?_, by simp, fun x => absurd (hZ _ x) (Nat.lt_irrefl _)⟩)
  rw [cell_of_row _ _ _ _ _ _ (heap_alloc_new w _)]; exact e
/-- what a pair is, behind some doing -/
def St (w0 : World) (P : Nat) (p : Pn.Pl) (n N : Nat) (m1 m2 : Vs) (t1 t2 : Option (List Gp)) (w1 : World) (Z1 : Nat → Prop) (w : World) : Prop :=
  ∃ pw D q E T U F G H1 H2, Pr w0 P p n N pw D q E T U F G H1 H2 m1 m2 t1 t2 w ∧ PHead w P p pw D q E T U ∧ Kp' w1 P Z1 w (Us F pw G q H1 H2)
/-- what a whole call leaves -/
def Done (w0 : World) (P : Nat) (p : Pn.Pl) (ne np ga n N : Nat) (k : Int) (ls fs : List Int) (m : Vs) (t : Option (List Gp)) (w1 : World) (Z1 : Nat → Prop) (w : World) : Prop :=
  ∃ m' t', St w0 P p n N m' m' t' t' w1 Z1 w ∧ Way ga ne np n k ls fs m m' t t'
section
variable {w0 w w' w1 : World} {P n N N' pw D q E ne np ga : Nat} {p : Pn.Pl} {T U : Option Addr} {F G H1 H2 Z1 : Nat → Prop} {m m' m1 m2 : Vs} {t t' t1 t2 : Option (List Gp)} {L : List Gp} {k : Int} {ls fs : List Int}
theorem Pr.uP (h : Pr w0 P p n N pw D q E T U F G H1 H2 m1 m2 t1 t2 w) : ∀ b, Us F pw G q H1 H2 b ∨ b = P → b < w.heap.size := fun b x => x.elim (fun y => (h.ubound y).2) (fun e => e ▸ h.lt.1)
theorem Pr.okat (h : Pr w0 P p n N pw D q E T U F G H1 H2 m1 m2 t1 t2 w) {a : ActV} (ha : ActOk w0 a) : ActOk w a := ha.below h.bel
theorem phead_all (h : PHead w P p pw D q E T U) : w.cell? ⟨P, 26, none⟩ = some (.pointer (some ⟨pw, 0, none⟩)) ∧ w.cell? ⟨P, 27, none⟩ = some (.pointer (some ⟨D, 0, none⟩)) ∧ w.cell? ⟨P, 28, none⟩ = some (.pointer T) ∧ w.cell? ⟨P, 29, none⟩ = some (.pointer (some ⟨q, 0, none⟩)) ∧ w.cell? ⟨P, 30, none⟩ = some (.pointer (some ⟨E, 0, none⟩)) ∧ w.cell? ⟨P, 31, none⟩ = some (.pointer U) ∧ ∀ j, w.frozen? ⟨P, j, none⟩ = false :=
  ⟨(h.cell 26).1, (h.cell 27).1, (h.cell 28).1, (h.cell 29).1, (h.cell 30).1, (h.cell 31).1, fun j => (h.cell j).2⟩
theorem St.below (h : St w0 P p n N m1 m2 t1 t2 w1 Z1 w) (hb : Below w.heap.size w w') : St w0 P p n N m1 m2 t1 t2 w1 Z1 w' := by
  obtain ⟨pw, D, q, E, T, U, F, G, H1, H2, r, h2, k⟩ := h
  exact ⟨pw, D, q, E, T, U, F, G, H1, H2, r.below hb, h2.below hb, k.trans (Kp'.of_below hb P _)⟩
theorem Done.of (h : Pr w0 P p n N' pw D q E T U F G H1 H2 m' m' t' t' w) (hh : PHead w P p pw D q E T U) (hk : Kp' w1 P Z1 w (Us F pw G q H1 H2)) (hN : N' ≤ N) (hb : N ≤ 1000000) (hw : Way ga ne np n k ls fs m m' t t') : Done w0 P p ne np ga n N k ls fs m t w1 Z1 w :=
  ⟨m', t', ⟨pw, D, q, E, T, U, F, G, H1, H2, h.more hN hb, hh, hk⟩, hw⟩
/-- the document's two patterns, one behind the other -/
theorem Pr.rset2 (h : Pr w0 P p n N pw D q E T U F G H1 H2 m1 m2 t1 t2 w) (u : Nat) (hu : u < 18446744073709551616) :
    ∃ G', Pr w0 P p n N pw D q E T U F G' H1 H2 m1 { m2 with rd := u } t1 t2 (w.setCell ⟨E, 2, none⟩ (.int .u64 (u : Int))) ∧ (w.setCell ⟨E, 2, none⟩ (.int .u64 (u : Int))).heap[P]? = w.heap[P]? ∧ Kp w (Us F pw G q H1 H2) (w.setCell ⟨E, 2, none⟩ (.int .u64 (u : Int))) (Us F pw G' q H1 H2) := by
  obtain ⟨gs, vs, x⟩ := h.rd.rv
  have c1 : Chg G w (w.setCell ⟨E, 2, none⟩ (.int .u64 (u : Int))) := Chg.of_grown (grown_set w E 2 _) (fun k e _ => by injection e with e; subst e; exact x.inG.1)
  have r : RD (w.setCell ⟨E, 2, none⟩ (.int .u64 (u : Int))) G E q n N { m2 with rd := u } := ⟨h.rd.qw.heap (c1.block q h.rd.qw.lt h.rd.nq), ⟨gs, vs, x.set2 u hu⟩, h.rd.nq, h.rd.hf, h.rd.hs, h.rd.hl, h.rd.hN⟩
  exact ⟨_, h.doc (Nat.le_refl _) h.rd.hN (r.up h.rd.qw.lt c1.size) (c1.mono (fun _ _ y => .inl y))⟩
theorem Pr.rset3 (h : Pr w0 P p n N pw D q E T U F G H1 H2 m1 m2 t1 t2 w) (u : Nat) (hu : u < 18446744073709551616) :
    ∃ G', Pr w0 P p n N pw D q E T U F G' H1 H2 m1 { m2 with wr := u } t1 t2 (w.setCell ⟨E, 3, none⟩ (.int .u64 (u : Int))) ∧ (w.setCell ⟨E, 3, none⟩ (.int .u64 (u : Int))).heap[P]? = w.heap[P]? ∧ Kp w (Us F pw G q H1 H2) (w.setCell ⟨E, 3, none⟩ (.int .u64 (u : Int))) (Us F pw G' q H1 H2) := by
  obtain ⟨gs, vs, x⟩ := h.rd.rv
  have c1 : Chg G w (w.setCell ⟨E, 3, none⟩ (.int .u64 (u : Int))) := Chg.of_grown (grown_set w E 3 _) (fun k e _ => by injection e with e; subst e; exact x.inG.1)
  have r : RD (w.setCell ⟨E, 3, none⟩ (.int .u64 (u : Int))) G E q n N { m2 with wr := u } := ⟨h.rd.qw.heap (c1.block q h.rd.qw.lt h.rd.nq), ⟨gs, vs, x.set3 u hu⟩, h.rd.nq, h.rd.hf, h.rd.hs, h.rd.hl, h.rd.hN⟩
  exact ⟨_, h.doc (Nat.le_refl _) h.rd.hN (r.up h.rd.qw.lt c1.size) (c1.mono (fun _ _ y => .inl y))⟩
theorem own_oct {w : World} {B : Nat} {v : Value} {xs : List UInt8} (h : Own w 5 B v xs) (hl : xs.length = 64) : ∃ g c, v = .slice (some ⟨g, 0, none⟩) 64 c ∧ B ≤ g ∧ g < w.heap.size ∧ Oct w (some ⟨g, 0, none⟩) 64 xs := by
  obtain ⟨A, c, hv, _, ho⟩ := h.form hl
  obtain ⟨b, off, e, _⟩ := ho.2 (by decide)
  subst e hv
  have hg := h.ge b rfl
  rcases h.2 with ⟨e1, h0⟩ | ⟨g, cap, cur, e1, hb, _⟩
  · cases e1
  · injection e1 with e1 e2 e3
    injection e1 with e1
    injection e1 with e1 e4
    subst e4
    exact ⟨b, c, rfl, hg.1, hg.2, ho⟩
end
end Go.Proofs.YtgdgehfapfgdfaaGreatDoor.Tb

/-! A call on a pair: Bump. No conditions. -/
namespace Go.Proofs.YtgdgehfapfgdfaaGreatDoor.Tb
set_option maxRecDepth 100000
open Go.RowKit Oc Dm W Dw Sr Gt
set_option linter.unusedVariables false
set_option maxRecDepth 100000
attribute [local go_sem ↓] Go.wp_at_zero Go.wp_at_succ
section
variable {w0 w : World} {P n N pw D q E ne np ga : Nat} {p : Pn.Pl} {T U : Option Addr} {F G H1 H2 : Nat → Prop} {m : Vs} {t : Option (List Gp)} {L : List Gp}
set_option maxHeartbeats 8000000 in
theorem do0 (h : Pr w0 P p n N pw D q E T U F G H1 H2 m m (some L) (some L) w) (hh : PHead w P p pw D q E T U) (he : Env w0) (hp : Pln p ne np ga n) (hnp : np ≤ 3) (hN : N + 8 ≤ 1000000) (z : Int) (la : Option Addr) (ll lc : Nat) (ls : List Int) (u v : Nat) (fa : Option Addr) (fl fc : Nat) (fs : List Int) (x : Gp) (hl : Pages L np) (hf : Fi w0 la ll ls) (hll : ll ≤ 12) :
    Calls Tryz.prog 9 #[.pointer (some ⟨P, 0, none⟩), .agg #[.int .i64 0, .int .i64 z, .slice la ll lc, .int .u64 (u : Int), .int .u64 (v : Int), .slice fa fl fc, .int .i64 x.no, .int .u64 (x.v : Int), .int .u64 (x.g 0 : Int), .int .u64 (x.g 1 : Int), .int .u64 (x.g 2 : Int), .int .u64 (x.g 3 : Int), .int .u64 (x.g 4 : Int), .int .u64 (x.g 5 : Int)]] w fun e w' => e = .returned (.bool true) ∧ Done w0 P p ne np ga n (N + 8) 0 ls fs m (some L) w (Us F pw G q H1 H2) w' := by
  have H := Lib.hid h
  have HH := Lib.hid hh
  have HE := Lib.hid he
  have HP := Lib.hid hp
  obtain ⟨v0, L2, m2, hr⟩ : ∃ v0 L2 m2, bmp ga ne ls m L = (v0, L2, m2) := ⟨_, _, _, rfl⟩
  have HR := Lib.hid hr
  have HL := Lib.hid hl
  have HF := Lib.hid hf
  have HW : Hid (Way ga ne np n 0 ls fs m m2 (some L) (some L2)) := .inl ⟨rfl, L, rfl, by rw [hr], by rw [hr]⟩
  obtain ⟨ut, ug, uc, rfl, _⟩ := h.tb2
  clear hr hl hf
  clear h hh he hp
  go_enter Tryz.func9, Tryz.ntmps9
  go_wp2_with ((with_reducible refine L_boxAct (cs := #[.int .i64 0, .int .i64 z, .slice la ll lc, .int .u64 (u : Int), .int .u64 (v : Int), .slice fa fl fc, .int .i64 x.no, .int .u64 (x.v : Int), .int .u64 (x.g 0 : Int), .int .u64 (x.g 1 : Int), .int .u64 (x.g 2 : Int), .int .u64 (x.g 3 : Int), .int .u64 (x.g 4 : Int), .int .u64 (x.g 5 : Int)]) ?_ ?_); exact rfl; intro w1 b1 bx1; have B1 := Lib.hid b1; have PR1 := Lib.hid (H.out.below b1); have PH1 := Lib.hid (HH.out.below b1); have K1 := Lib.hid (Kp'.of_below b1 P (Us F pw G q H1 H2)); have BX1 := Lib.hid (bx1 P (Us F pw G q H1 H2) H.out.uP); have a0 := BX1.out.cells 0 _ rfl; have a2 := BX1.out.cells 2 _ rfl; obtain ⟨c26, c27, c28, c29, c30, c31, cf⟩ := phead_all PH1.out; clear b1 bx1)
  have HL2 : Hid (Pages L2 np) := by have := bmp_pages (ga := ga) (ne := ne) (ls := ls) (m := m) HL.out; rw [HR.out] at this; exact this
  have KB : Hid (∀ y, Below w1.heap.size w1 y → Calls Tryz.prog 12 #[.pointer T, .slice la ll lc] y fun e y' => e = .returned (.int .i64 v0) ∧ Pr w0 P p n (N + np + 1) pw D q E T (some ⟨ut, 0, none⟩) (Ext F y y') G H1 H2 m2 m (some L2) (some L) y' ∧ y'.heap[P]? = y.heap[P]? ∧ Kp y (Us F pw G q H1 H2) y' (Us (Ext F y y') pw G q H1 H2)) := fun y hy =>
    (PR1.out.below hy).bump HE.out HP.out HL.out (HF.out.below (PR1.out.below hy).bel) (by omega) (by omega) v0 L2 m2 HR.out
  go_region_held (fun x => x.cell? ⟨P, 28, none⟩ = some (.pointer T) ∧ x.cell? ⟨P, 31, none⟩ = some (.pointer (some ⟨ut, 0, none⟩)) ∧ x.cell? ⟨w.heap.size, 2, none⟩ = some (.slice la ll lc)) (first | go_keep | exact ⟨(phead_all PH3.out).2.2.1, (phead_all PH3.out).2.2.2.2.2.1, BX3.out.cells 2 _ rfl⟩ | exact ⟨(phead_all PH2.out).2.2.1, (phead_all PH2.out).2.2.2.2.2.1, BX2.out.cells 2 _ rfl⟩)
    (first
      | (go_at_call 12; (with_reducible refine (KB.out _ (below_drew1 _)).mono ?_); rintro e w2 ⟨rfl, p2, h2, k2⟩; have PR2 := Lib.hid p2; have PH2 := Lib.hid ((PH1.out.below (below_drew1 _)).of h2); have K2 := Lib.hid ((K1.out.trans (Kp'.of_below (below_drew1 _) P _)).trans (k2.but P)); have BX2 := Lib.hid (BX1.out.kp ((Kp'.of_below (below_drew1 _) P _).trans (k2.but P))); clear p2 h2 k2)
      | (go_at_call 30; (with_reducible refine (PR2.out.rbump HP.out HL.out (HF.out.below PR2.out.bel) (by omega) (by omega) v0 L2 m2 HR.out).mono ?_); rintro e w3 ⟨rfl, ⟨G3, H3, p3, k3⟩, h3⟩; have PR3 := Lib.hid p3; have PH3 := Lib.hid (PH2.out.of h3); have K3 := Lib.hid (K2.out.trans (k3.but P)); have BX3 := Lib.hid (BX2.out.kp (k3.but P)); clear p3 h3 k3))
  all_goals go_wp2
  all_goals (go_ret; exact ⟨rfl, .of PR3.out PH3.out K3.out (by omega) hN HW.out⟩)
set_option maxHeartbeats 8000000 in
theorem do0n (h : Pr w0 P p n N pw D q E T U F G H1 H2 m m none none w) (hh : PHead w P p pw D q E T U) (he : Env w0) (hp : Pln p ne np ga n) (hnp : np ≤ 3) (hN : N + 8 ≤ 1000000) (z : Int) (la : Option Addr) (ll lc : Nat) (ls : List Int) (u v : Nat) (fa : Option Addr) (fl fc : Nat) (fs : List Int) (x : Gp) :
    Calls Tryz.prog 9 #[.pointer (some ⟨P, 0, none⟩), .agg #[.int .i64 0, .int .i64 z, .slice la ll lc, .int .u64 (u : Int), .int .u64 (v : Int), .slice fa fl fc, .int .i64 x.no, .int .u64 (x.v : Int), .int .u64 (x.g 0 : Int), .int .u64 (x.g 1 : Int), .int .u64 (x.g 2 : Int), .int .u64 (x.g 3 : Int), .int .u64 (x.g 4 : Int), .int .u64 (x.g 5 : Int)]] w fun e w' => e = .returned (.bool true) ∧ Done w0 P p ne np ga n (N + 8) 0 ls fs m none w (Us F pw G q H1 H2) w' := by
  have H := Lib.hid h
  have HH := Lib.hid hh
  have HE := Lib.hid he
  have HP := Lib.hid hp
  have eT : T = none := h.tb1
  have eU : U = none := h.tb2
  subst eT eU
  clear h hh he hp
  go_enter Tryz.func9, Tryz.ntmps9
  go_wp2_with ((with_reducible refine L_boxAct (cs := #[.int .i64 0, .int .i64 z, .slice la ll lc, .int .u64 (u : Int), .int .u64 (v : Int), .slice fa fl fc, .int .i64 x.no, .int .u64 (x.v : Int), .int .u64 (x.g 0 : Int), .int .u64 (x.g 1 : Int), .int .u64 (x.g 2 : Int), .int .u64 (x.g 3 : Int), .int .u64 (x.g 4 : Int), .int .u64 (x.g 5 : Int)]) ?_ ?_); exact rfl; intro w1 b1 bx1; have B1 := Lib.hid b1; have PR1 := Lib.hid (H.out.below b1); have PH1 := Lib.hid (HH.out.below b1); have K1 := Lib.hid (Kp'.of_below b1 P (Us F pw G q H1 H2)); have BX1 := Lib.hid (bx1 P (Us F pw G q H1 H2) H.out.uP); have a0 := BX1.out.cells 0 _ rfl; have a2 := BX1.out.cells 2 _ rfl; obtain ⟨c26, c27, c28, c29, c30, c31, cf⟩ := phead_all PH1.out; clear b1 bx1)
  go_region_held (fun x => x.cell? ⟨P, 28, none⟩ = some (.pointer none) ∧ x.cell? ⟨w.heap.size, 2, none⟩ = some (.slice la ll lc)) (first | go_keep | exact ⟨(phead_all PH2.out).2.2.1, BX2.out.cells 2 _ rfl⟩)
    (first
      | (go_at_call 12; (with_reducible refine (bump_nil _ _).mono ?_); rintro e w2 ⟨rfl, b2⟩; have B2 : Hid (Below w1.heap.size w1 w2) := bthen (below_drew1 _) b2; have PR2 := Lib.hid (PR1.out.below B2.out); have PH2 := Lib.hid (PH1.out.below B2.out); have K2 := Lib.hid (K1.out.trans (Kp'.of_below B2.out P _)); have BX2 := Lib.hid (BX1.out.kp (Kp'.of_below B2.out P _)); clear b2))
  all_goals go_wp2
  all_goals (go_ret; exact ⟨rfl, .of PR2.out PH2.out K2.out (by omega) hN (.inr (.inr (.inr ⟨(by decide), rfl, .inl rfl⟩)))⟩)
end
end Go.Proofs.YtgdgehfapfgdfaaGreatDoor.Tb

/-! A call on a pair: Fail. No conditions. -/
namespace Go.Proofs.YtgdgehfapfgdfaaGreatDoor.Tb
set_option maxRecDepth 100000
open Go.RowKit Oc Dm W Dw Sr Gt
set_option linter.unusedVariables false
set_option maxRecDepth 100000
attribute [local go_sem ↓] Go.wp_at_zero Go.wp_at_succ
section
variable {w0 w : World} {P n N pw D q E ne np ga : Nat} {p : Pn.Pl} {T U : Option Addr} {F G H1 H2 : Nat → Prop} {m : Vs} {t : Option (List Gp)} {L : List Gp}
set_option maxHeartbeats 8000000 in
theorem do1 (h : Pr w0 P p n N pw D q E T U F G H1 H2 m m t t w) (hh : PHead w P p pw D q E T U) (he : Env w0) (hp : Pln p ne np ga n) (hnp : np ≤ 3) (hN : N + 8 ≤ 1000000) (z : Int) (la : Option Addr) (ll lc : Nat) (ls : List Int) (u v : Nat) (fa : Option Addr) (fl fc : Nat) (fs : List Int) (x : Gp) (hu : u < 18446744073709551616) (hv : v < 18446744073709551616) :
    Calls Tryz.prog 9 #[.pointer (some ⟨P, 0, none⟩), .agg #[.int .i64 1, .int .i64 z, .slice la ll lc, .int .u64 (u : Int), .int .u64 (v : Int), .slice fa fl fc, .int .i64 x.no, .int .u64 (x.v : Int), .int .u64 (x.g 0 : Int), .int .u64 (x.g 1 : Int), .int .u64 (x.g 2 : Int), .int .u64 (x.g 3 : Int), .int .u64 (x.g 4 : Int), .int .u64 (x.g 5 : Int)]] w fun e w' => e = .returned (.bool true) ∧ Done w0 P p ne np ga n (N + 8) 1 ls fs m t w (Us F pw G q H1 H2) w' := by
  have H := Lib.hid h
  have HH := Lib.hid hh
  have HE := Lib.hid he
  have HP := Lib.hid hp
  clear h hh he hp
  go_enter Tryz.func9, Tryz.ntmps9
  go_wp2_with ((with_reducible refine L_boxAct (cs := #[.int .i64 1, .int .i64 z, .slice la ll lc, .int .u64 (u : Int), .int .u64 (v : Int), .slice fa fl fc, .int .i64 x.no, .int .u64 (x.v : Int), .int .u64 (x.g 0 : Int), .int .u64 (x.g 1 : Int), .int .u64 (x.g 2 : Int), .int .u64 (x.g 3 : Int), .int .u64 (x.g 4 : Int), .int .u64 (x.g 5 : Int)]) ?_ ?_); exact rfl; intro w1 b1 bx1; have B1 := Lib.hid b1; have PR1 := Lib.hid (H.out.below b1); have PH1 := Lib.hid (HH.out.below b1); have K1 := Lib.hid (Kp'.of_below b1 P (Us F pw G q H1 H2)); have BX1 := Lib.hid (bx1 P (Us F pw G q H1 H2) H.out.uP); have a0 := BX1.out.cells 0 _ rfl; have a3 := BX1.out.cells 3 _ rfl; have a4 := BX1.out.cells 4 _ rfl; obtain ⟨c26, c27, c28, c29, c30, c31, cf⟩ := phead_all PH1.out; clear b1 bx1)
  have KB : Hid (∀ y, Below w1.heap.size w1 y → Calls Tryz.prog 31 #[.pointer (some ⟨D, 0, none⟩), .int .u64 (u : Int), .int .u64 (v : Int)] y fun e y' => e = .returned (.tuple #[]) ∧ Pr w0 P p n N pw D q E T U (Ext F y y') G H1 H2 { m with rd := u, wr := v } m t t y' ∧ y'.heap[P]? = y.heap[P]? ∧ Kp y (Us F pw G q H1 H2) y' (Us (Ext F y y') pw G q H1 H2)) := fun y hy =>
    (PR1.out.below hy).fail u v hu hv
  go_region_held (fun x => x.cell? ⟨P, 27, none⟩ = some (.pointer (some ⟨D, 0, none⟩)) ∧ x.cell? ⟨w.heap.size, 3, none⟩ = some (.int .u64 (u : Int)) ∧ x.cell? ⟨w.heap.size, 4, none⟩ = some (.int .u64 (v : Int))) (first | go_keep | exact ⟨(phead_all PH2.out).2.1, BX2.out.cells 3 _ rfl, BX2.out.cells 4 _ rfl⟩)
    (first
      | (go_at_call 31; (with_reducible refine (KB.out _ (below_drew1 _)).mono ?_); rintro e w2 ⟨rfl, p2, h2, k2⟩; have PR2 := Lib.hid p2; have PH2 := Lib.hid ((PH1.out.below (below_drew1 _)).of h2); have K2 := Lib.hid ((K1.out.trans (Kp'.of_below (below_drew1 _) P _)).trans (k2.but P)); have BX2 := Lib.hid (BX1.out.kp ((Kp'.of_below (below_drew1 _) P _).trans (k2.but P))); clear p2 h2 k2))
  all_goals
    clear a0 a3 a4 c26 c27 c28 c29 c30 c31 cf KB
    have a3 := BX2.out.cells 3 _ rfl
    have a4 := BX2.out.cells 4 _ rfl
    obtain ⟨c26, c27, c28, c29, c30, c31, cf⟩ := phead_all PH2.out
    obtain ⟨gs, vs, rv⟩ := PR2.out.rd.rv
    obtain ⟨e0, e1, e2, e3, ef⟩ := rv.cells
    have hne : w.heap.size ≠ E := fun e => BX2.out.off (.inl (.inr (.inl (.inl (e ▸ rv.inG.1)))))
    have hne2 : E ≠ w.heap.size := fun e => hne e.symm
    have hne3 : P ≠ E := fun e => PR2.out.us (.inr (.inl (.inl (e ▸ rv.inG.1))))
    have hne4 : E ≠ P := fun e => hne3 e.symm
    clear rv
    go_wp2_with fail
    go_region
    obtain ⟨G3, p3, h3, k3⟩ := PR2.out.rset2 u hu
    have PR3 := Lib.hid (p3.below (below_drew1 _))
    have PH3 := Lib.hid ((PH2.out.of h3).below (below_drew1 _))
    have K3 := Lib.hid (K2.out.trans ((k3.but P).trans (Kp'.of_below (below_drew1 _) P _)))
    have BX3 := Lib.hid (BX2.out.kp ((k3.but P).trans (Kp'.of_below (below_drew1 _) P _)))
    clear p3 h3 k3 a3 a4 c26 c27 c28 c29 c30 c31 cf e0 e1 e2 e3 ef
    generalize (w2.setCell ⟨E, 2, none⟩ (.int .u64 (u : Int))).drew = w3 at PR3 PH3 K3 BX3 ⊢
    have a4 := BX3.out.cells 4 _ rfl
    obtain ⟨c26, c27, c28, c29, c30, c31, cf⟩ := phead_all PH3.out
    obtain ⟨gs, vs, rv⟩ := PR3.out.rd.rv
    obtain ⟨e0, e1, e2, e3, ef⟩ := rv.cells
    clear rv
    go_wp2_with fail
    go_region
    obtain ⟨G4, p4, h4, k4⟩ := PR3.out.rset3 v hv
    have PR4 := Lib.hid (p4.below (below_drew1 _))
    have PH4 := Lib.hid ((PH3.out.of h4).below (below_drew1 _))
    have K4 := Lib.hid (K3.out.trans ((k4.but P).trans (Kp'.of_below (below_drew1 _) P _)))
    clear p4 h4 k4 a4 c26 c27 c28 c29 c30 c31 cf e0 e1 e2 e3 ef
    generalize (w3.setCell ⟨E, 3, none⟩ (.int .u64 (v : Int))).drew = w4 at PR4 PH4 K4 ⊢
    go_wp2
    go_ret
    exact ⟨rfl, .of PR4.out PH4.out K4.out (by omega) hN (.inr (.inr (.inr ⟨(by decide), rfl, .inl rfl⟩)))⟩
end
end Go.Proofs.YtgdgehfapfgdfaaGreatDoor.Tb

/-! A call on a pair: Fuse. No conditions. -/
namespace Go.Proofs.YtgdgehfapfgdfaaGreatDoor.Tb
set_option maxRecDepth 100000
open Go.RowKit Oc Dm W Dw Sr Gt
set_option linter.unusedVariables false
set_option maxRecDepth 100000
attribute [local go_sem ↓] Go.wp_at_zero Go.wp_at_succ
section
variable {w0 w : World} {P n N pw D q E ne np ga : Nat} {p : Pn.Pl} {T U : Option Addr} {F G H1 H2 : Nat → Prop} {m : Vs} {t : Option (List Gp)} {L : List Gp}
set_option maxHeartbeats 8000000 in
theorem do2 (h : Pr w0 P p n N pw D q E T U F G H1 H2 m m t t w) (hh : PHead w P p pw D q E T U) (he : Env w0) (hp : Pln p ne np ga n) (hnp : np ≤ 3) (hN : N + 8 ≤ 1000000) (z : Int) (la : Option Addr) (ll lc : Nat) (ls : List Int) (u v : Nat) (fa : Option Addr) (fl fc : Nat) (fs : List Int) (x : Gp) :
    Calls Tryz.prog 9 #[.pointer (some ⟨P, 0, none⟩), .agg #[.int .i64 2, .int .i64 z, .slice la ll lc, .int .u64 (u : Int), .int .u64 (v : Int), .slice fa fl fc, .int .i64 x.no, .int .u64 (x.v : Int), .int .u64 (x.g 0 : Int), .int .u64 (x.g 1 : Int), .int .u64 (x.g 2 : Int), .int .u64 (x.g 3 : Int), .int .u64 (x.g 4 : Int), .int .u64 (x.g 5 : Int)]] w fun e w' => e = .returned (.bool true) ∧ Done w0 P p ne np ga n (N + 8) 2 ls fs m t w (Us F pw G q H1 H2) w' := by
  have H := Lib.hid h
  have HH := Lib.hid hh
  have HE := Lib.hid he
  have HP := Lib.hid hp
  obtain ⟨ev, hev⟩ : ∃ ev, PS.fuseE m.s z = ev := ⟨_, rfl⟩
  have HV := Lib.hid hev
  clear hev
  clear h hh he hp
  go_enter Tryz.func9, Tryz.ntmps9
  go_wp2_with ((with_reducible refine L_boxAct (cs := #[.int .i64 2, .int .i64 z, .slice la ll lc, .int .u64 (u : Int), .int .u64 (v : Int), .slice fa fl fc, .int .i64 x.no, .int .u64 (x.v : Int), .int .u64 (x.g 0 : Int), .int .u64 (x.g 1 : Int), .int .u64 (x.g 2 : Int), .int .u64 (x.g 3 : Int), .int .u64 (x.g 4 : Int), .int .u64 (x.g 5 : Int)]) ?_ ?_); exact rfl; intro w1 b1 bx1; have B1 := Lib.hid b1; have PR1 := Lib.hid (H.out.below b1); have PH1 := Lib.hid (HH.out.below b1); have K1 := Lib.hid (Kp'.of_below b1 P (Us F pw G q H1 H2)); have BX1 := Lib.hid (bx1 P (Us F pw G q H1 H2) H.out.uP); have a0 := BX1.out.cells 0 _ rfl; have a1 := BX1.out.cells 1 _ rfl; obtain ⟨c26, c27, c28, c29, c30, c31, cf⟩ := phead_all PH1.out; clear b1 bx1)
  have KB : Hid (∀ y, Below w1.heap.size w1 y → Calls Tryz.prog 14 #[.pointer (some ⟨pw, 0, none⟩), .int .i64 z] y fun e y' => e = .returned (.int .i64 (PS.fuseE m.s z)) ∧ Pr w0 P p n N pw D q E T U (Ext F y y') G H1 H2 { m with s := PS.fuseS m.s z } m t t y' ∧ y'.heap[P]? = y.heap[P]? ∧ Kp y (Us F pw G q H1 H2) y' (Us (Ext F y y') pw G q H1 H2)) := fun y hy =>
    (PR1.out.below hy).fuse z
  go_region_held (fun x => x.cell? ⟨P, 26, none⟩ = some (.pointer (some ⟨pw, 0, none⟩)) ∧ x.cell? ⟨P, 29, none⟩ = some (.pointer (some ⟨q, 0, none⟩)) ∧ x.cell? ⟨w.heap.size, 1, none⟩ = some (.int .i64 z)) (first | go_keep | exact ⟨(phead_all PH3.out).1, (phead_all PH3.out).2.2.2.1, BX3.out.cells 1 _ rfl⟩ | exact ⟨(phead_all PH2.out).1, (phead_all PH2.out).2.2.2.1, BX2.out.cells 1 _ rfl⟩)
    (first
      | (go_at_call 14; (with_reducible refine (KB.out _ (below_drew1 _)).mono ?_); rintro e w2 ⟨rfl, p2, h2, k2⟩; rw [HV.out]; have PR2 := Lib.hid p2; have PH2 := Lib.hid ((PH1.out.below (below_drew1 _)).of h2); have K2 := Lib.hid ((K1.out.trans (Kp'.of_below (below_drew1 _) P _)).trans (k2.but P)); have BX2 := Lib.hid (BX1.out.kp ((Kp'.of_below (below_drew1 _) P _).trans (k2.but P))); clear p2 h2 k2)
      | (go_at_call 32; (with_reducible refine (PR2.out.rfuse z).mono ?_); rintro e w3 ⟨rfl, p3, h3, k3⟩; rw [HV.out]; have PR3 := Lib.hid p3; have PH3 := Lib.hid (PH2.out.of h3); have K3 := Lib.hid (K2.out.trans (k3.but P)); have BX3 := Lib.hid (BX2.out.kp (k3.but P)); clear p3 h3 k3))
  all_goals go_wp2
  all_goals (go_ret; exact ⟨rfl, .of PR3.out PH3.out K3.out (by omega) hN (.inr (.inr (.inr ⟨(by decide), rfl, .inl rfl⟩)))⟩)
end
end Go.Proofs.YtgdgehfapfgdfaaGreatDoor.Tb

/-! A call on a pair: a crash, and Open. No conditions. -/
namespace Go.Proofs.YtgdgehfapfgdfaaGreatDoor.Tb
set_option maxRecDepth 100000
open Go.RowKit Oc Dm W Dw Sr Gt
set_option linter.unusedVariables false
set_option maxRecDepth 100000
attribute [local go_sem ↓] Go.wp_at_zero Go.wp_at_succ
section
variable {w0 w : World} {P n N pw D q E ne np ga : Nat} {p : Pn.Pl} {T U : Option Addr} {F G H1 H2 : Nat → Prop} {m : Vs} {t : Option (List Gp)} {L : List Gp}
set_option maxHeartbeats 8000000 in
theorem do3 (h : Pr w0 P p n N pw D q E T U F G H1 H2 m m t t w) (hh : PHead w P p pw D q E T U) (he : Env w0) (hp : Pln p ne np ga n) (hnp : np ≤ 3) (hN : N + 8 ≤ 1000000) (z : Int) (la : Option Addr) (ll lc : Nat) (ls : List Int) (u v : Nat) (fa : Option Addr) (fl fc : Nat) (fs : List Int) (x : Gp) (hf : Fi w0 fa fl fs) (hfl : fl ≤ maxLen) :
    Calls Tryz.prog 9 #[.pointer (some ⟨P, 0, none⟩), .agg #[.int .i64 3, .int .i64 z, .slice la ll lc, .int .u64 (u : Int), .int .u64 (v : Int), .slice fa fl fc, .int .i64 x.no, .int .u64 (x.v : Int), .int .u64 (x.g 0 : Int), .int .u64 (x.g 1 : Int), .int .u64 (x.g 2 : Int), .int .u64 (x.g 3 : Int), .int .u64 (x.g 4 : Int), .int .u64 (x.g 5 : Int)]] w fun e w' => e = .returned (.bool true) ∧ Done w0 P p ne np ga n (N + 8) 3 ls fs m t w (Us F pw G q H1 H2) w' := by
  have H := Lib.hid h
  have HH := Lib.hid hh
  have HE := Lib.hid he
  have HP := Lib.hid hp
  have HF := Lib.hid hf
  obtain ⟨v0, L2, m2, hr⟩ : ∃ v0 L2 m2, opn ga np 0 (crashed n m.S fs) [] = (v0, L2, m2) := ⟨_, _, _, rfl⟩
  have HR := Lib.hid hr
  have HW : Hid (Way ga ne np n 3 ls fs m m2 t (opt v0 L2)) := .inr (.inl ⟨rfl, by rw [hr], by rw [hr]; rfl⟩)
  clear hr hf
  clear h hh he hp
  go_enter Tryz.func9, Tryz.ntmps9
  go_wp2_with ((with_reducible refine L_boxAct (cs := #[.int .i64 3, .int .i64 z, .slice la ll lc, .int .u64 (u : Int), .int .u64 (v : Int), .slice fa fl fc, .int .i64 x.no, .int .u64 (x.v : Int), .int .u64 (x.g 0 : Int), .int .u64 (x.g 1 : Int), .int .u64 (x.g 2 : Int), .int .u64 (x.g 3 : Int), .int .u64 (x.g 4 : Int), .int .u64 (x.g 5 : Int)]) ?_ ?_); exact rfl; intro w1 b1 bx1; have B1 := Lib.hid b1; have PR1 := Lib.hid (H.out.below b1); have PH1 := Lib.hid (HH.out.below b1); have K1 := Lib.hid (Kp'.of_below b1 P (Us F pw G q H1 H2)); have BX1 := Lib.hid (bx1 P (Us F pw G q H1 H2) H.out.uP); have a0 := BX1.out.cells 0 _ rfl; have a5 := BX1.out.cells 5 _ rfl; obtain ⟨c26, c27, c28, c29, c30, c31, cf⟩ := phead_all PH1.out; clear b1 bx1)
  refine (pair_crash PR1.out PH1.out (HF.out.below PR1.out.bel) hfl).mono ?_; rintro e w2 ⟨rfl, pw2, D2, q2, E2, F2, G2, p2, h2, k2⟩
  have PR2 := Lib.hid p2
  have PH2 := Lib.hid h2
  have K2 := Lib.hid (K1.out.trans k2)
  clear p2 h2 k2 a0 a5 c26 c27 c28 c29 c30 c31 cf
  go_wp2_with fail
  refine (pair_open PR2.out PH2.out HE.out HP.out v0 L2 m2 HR.out).mono ?_; rintro e w3 ⟨rfl, T3, U3, ⟨H3, H3', p3, k3⟩, h3, _⟩
  have PR3 := Lib.hid p3
  have PH3 := Lib.hid h3
  have K3 := Lib.hid (K2.out.trans k3)
  clear p3 h3 k3
  go_wp2
  go_ret
  exact ⟨rfl, .of PR3.out PH3.out K3.out (by omega) hN HW.out⟩
end
end Go.Proofs.YtgdgehfapfgdfaaGreatDoor.Tb

/-! A call on a pair: a page written by hand. No conditions. -/
namespace Go.Proofs.YtgdgehfapfgdfaaGreatDoor.Tb
set_option maxRecDepth 100000
open Go.RowKit Oc Dm W Dw Sr Gt
set_option linter.unusedVariables false
set_option maxRecDepth 100000
attribute [local go_sem ↓] Go.wp_at_zero Go.wp_at_succ
section
variable {w0 w : World} {P n N pw D q E ne np ga : Nat} {p : Pn.Pl} {T U : Option Addr} {F G H1 H2 : Nat → Prop} {m : Vs} {t : Option (List Gp)} {L : List Gp}
set_option maxHeartbeats 8000000 in
theorem do4y (h : Pr w0 P p n N pw D q E T U F G H1 H2 m m t t w) (hh : PHead w P p pw D q E T U) (he : Env w0) (hp : Pln p ne np ga n) (hnp : np ≤ 3) (hN : N + 8 ≤ 1000000) (z : Int) (la : Option Addr) (ll lc : Nat) (ls : List Int) (u v : Nat) (fa : Option Addr) (fl fc : Nat) (fs : List Int) (x : Gp) (hm : MayBe x) :
    Calls Tryz.prog 9 #[.pointer (some ⟨P, 0, none⟩), .agg #[.int .i64 4, .int .i64 z, .slice la ll lc, .int .u64 (u : Int), .int .u64 (v : Int), .slice fa fl fc, .int .i64 x.no, .int .u64 (x.v : Int), .int .u64 (x.g 0 : Int), .int .u64 (x.g 1 : Int), .int .u64 (x.g 2 : Int), .int .u64 (x.g 3 : Int), .int .u64 (x.g 4 : Int), .int .u64 (x.g 5 : Int)]] w fun e w' => e = .returned (.bool true) ∧ Done w0 P p ne np ga n (N + 8) 4 ls fs m t w (Us F pw G q H1 H2) w' := by
  have H := Lib.hid h
  have HH := Lib.hid hh
  have HE := Lib.hid he
  have HP := Lib.hid hp
  have HM := Lib.hid hm
  have HPB : Hid (∀ b, Us F pw G q H1 H2 b ∨ b = P → b < w.heap.size) := h.uP
  have HS : Hid ((sect x).length = 64) := sect_length x
  obtain ⟨B, hB⟩ : ∃ B, tx (sect x) = .string B := ⟨_, rfl⟩
  have HB := Lib.hid hB
  clear hm hB
  clear h hh he hp
  go_enter Tryz.func9, Tryz.ntmps9
  go_wp2_with ((with_reducible refine L_boxAct (cs := #[.int .i64 4, .int .i64 z, .slice la ll lc, .int .u64 (u : Int), .int .u64 (v : Int), .slice fa fl fc, .int .i64 x.no, .int .u64 (x.v : Int), .int .u64 (x.g 0 : Int), .int .u64 (x.g 1 : Int), .int .u64 (x.g 2 : Int), .int .u64 (x.g 3 : Int), .int .u64 (x.g 4 : Int), .int .u64 (x.g 5 : Int)]) ?_ ?_); exact rfl; intro w1 b1 bx1; have B1 := Lib.hid b1; have PR1 := Lib.hid (H.out.below b1); have PH1 := Lib.hid (HH.out.below b1); have K1 := Lib.hid (Kp'.of_below b1 P (Us F pw G q H1 H2)); have BX1 := Lib.hid (bx1 P (Us F pw G q H1 H2) H.out.uP); have a0 := BX1.out.cells 0 _ rfl; have a1 := BX1.out.cells 1 _ rfl; have a6 := BX1.out.cells 6 _ rfl; have a7 := BX1.out.cells 7 _ rfl; have a8 := BX1.out.cells 8 _ rfl; have a9 := BX1.out.cells 9 _ rfl; have a10 := BX1.out.cells 10 _ rfl; have a11 := BX1.out.cells 11 _ rfl; have a12 := BX1.out.cells 12 _ rfl; have a13 := BX1.out.cells 13 _ rfl; obtain ⟨c26, c27, c28, c29, c30, c31, cf⟩ := phead_all PH1.out; clear b1 bx1)
  refine (rgput_ok x w1 HM.out).mono ?_; rintro e w2 ⟨v2, rfl, o2, b2⟩
  obtain ⟨g, gc, rfl, hg1, hg2, oc2⟩ := own_oct o2 HS.out
  have B2 := Lib.hid b2
  have OC2 := Lib.hid oc2
  have PR2 := Lib.hid (PR1.out.below b2)
  have PH2 := Lib.hid (PH1.out.below b2)
  have K2 := Lib.hid (K1.out.trans (Kp'.of_below b2 P _))
  have BX2 := Lib.hid (BX1.out.kp (Kp'.of_below b2 P _))
  have HGU : Hid (¬ (Us F pw G q H1 H2 g ∨ g = P)) := fun y => by have := HPB.out g y; have := B1.out.size; omega
  have HGL : Hid (g < w2.heap.size) := hg2
  clear b2 oc2 o2 hg1 hg2 a0 a1 a6 a7 a8 a9 a10 a11 a12 a13 c26 c27 c28 c29 c30 c31 cf
  generalize sect x = xs at HS HB OC2
  have a1 := BX2.out.cells 1 _ rfl
  obtain ⟨c26, c27, c28, c29, c30, c31, cf⟩ := phead_all PH2.out
  have cv2 := (OC2.out.below (below_drew1 w2)).conv Dm.bt Tryz.underlying9 gc
  rw [show Value.string (bstr xs) = .string B from HB.out] at cv2
  have KB : Hid (∀ y, Below w2.heap.size w2 y → Calls Tryz.prog 35 #[.pointer (some ⟨D, 0, none⟩), .int .i64 z, .slice (some ⟨g, 0, none⟩) 64 gc] y fun e y' => e = .returned (.int .i64 (wrz n m z xs).1) ∧ ∃ F', Pr w0 P p n (N + 1) pw D q E T U F' G H1 H2 (wrz n m z xs).2 m t t y' ∧ y'.heap[P]? = y.heap[P]? ∧ Kp y (Us F pw G q H1 H2) y' (Us F' pw G q H1 H2)) := fun y hy =>
    (PR2.out.below hy).write (by omega) z (OC2.out.below hy) (fun b off e y2 => by injection e with e; injection e with e; subst e; exact HGU.out (.inl (.inl y2)))
  go_wp2_with fail
  go_region_held (fun x => x.cell? ⟨P, 27, none⟩ = some (.pointer (some ⟨D, 0, none⟩)) ∧ x.cell? ⟨P, 30, none⟩ = some (.pointer (some ⟨E, 0, none⟩)) ∧ x.cell? ⟨w.heap.size, 1, none⟩ = some (.int .i64 z)) (first | go_keep | exact ⟨(phead_all PH4.out).2.1, (phead_all PH4.out).2.2.2.2.1, BX4.out.cells 1 _ rfl⟩ | exact ⟨(phead_all PH3.out).2.1, (phead_all PH3.out).2.2.2.2.1, BX3.out.cells 1 _ rfl⟩)
    (first
      | (go_at_call 35; (with_reducible refine (KB.out _ (below_drew1 _)).mono ?_); rintro e w3 ⟨rfl, F3, p3, h3, k3⟩; have PR3 := Lib.hid p3; have PH3 := Lib.hid ((PH2.out.below (below_drew1 _)).of h3); have K3 := Lib.hid ((K2.out.trans (Kp'.of_below (below_drew1 _) P _)).trans (k3.but P)); have BX3 := Lib.hid (BX2.out.kp ((Kp'.of_below (below_drew1 _) P _).trans (k3.but P))); have cv3 := ((OC2.out.below (below_drew1 w2)).heap (w' := w3) (fun b off _ e => by injection e with e; injection e with e; subst e; exact (k3.at_ g HGL.out (fun y => HGU.out (.inl y))).1)).conv Dm.bt Tryz.underlying9 gc; rw [show Value.string (bstr xs) = .string B from HB.out] at cv3; clear p3 h3 k3)
      | (go_at_call 36; (with_reducible refine (PR3.out.rwrite (B := B) (by omega) z HB.out HS.out).mono ?_); rintro e w4 ⟨rfl, G4, p4, h4, k4⟩; have PR4 := Lib.hid p4; have PH4 := Lib.hid (PH3.out.of h4); have K4 := Lib.hid (K3.out.trans (k4.but P)); have BX4 := Lib.hid (BX3.out.kp (k4.but P)); clear p4 h4 k4))
  all_goals go_wp2
  all_goals (go_ret; exact ⟨rfl, .of PR4.out PH4.out K4.out (by omega) hN (.inr (.inr (.inl ⟨rfl, rfl⟩)))⟩)
set_option maxHeartbeats 8000000 in
theorem do4n (h : Pr w0 P p n N pw D q E T U F G H1 H2 m m t t w) (hh : PHead w P p pw D q E T U) (he : Env w0) (hp : Pln p ne np ga n) (hnp : np ≤ 3) (hN : N + 8 ≤ 1000000) (z : Int) (la : Option Addr) (ll lc : Nat) (ls : List Int) (u v : Nat) (fa : Option Addr) (fl fc : Nat) (fs : List Int) (x : Gp) (hm : ¬ MayBe x) :
    Calls Tryz.prog 9 #[.pointer (some ⟨P, 0, none⟩), .agg #[.int .i64 4, .int .i64 z, .slice la ll lc, .int .u64 (u : Int), .int .u64 (v : Int), .slice fa fl fc, .int .i64 x.no, .int .u64 (x.v : Int), .int .u64 (x.g 0 : Int), .int .u64 (x.g 1 : Int), .int .u64 (x.g 2 : Int), .int .u64 (x.g 3 : Int), .int .u64 (x.g 4 : Int), .int .u64 (x.g 5 : Int)]] w fun e w' => e = .returned (.bool true) ∧ Done w0 P p ne np ga n (N + 8) 4 ls fs m t w (Us F pw G q H1 H2) w' := by
  have H := Lib.hid h
  have HH := Lib.hid hh
  have HE := Lib.hid he
  have HP := Lib.hid hp
  have HM := Lib.hid hm
  clear hm
  clear h hh he hp
  go_enter Tryz.func9, Tryz.ntmps9
  go_wp2_with ((with_reducible refine L_boxAct (cs := #[.int .i64 4, .int .i64 z, .slice la ll lc, .int .u64 (u : Int), .int .u64 (v : Int), .slice fa fl fc, .int .i64 x.no, .int .u64 (x.v : Int), .int .u64 (x.g 0 : Int), .int .u64 (x.g 1 : Int), .int .u64 (x.g 2 : Int), .int .u64 (x.g 3 : Int), .int .u64 (x.g 4 : Int), .int .u64 (x.g 5 : Int)]) ?_ ?_); exact rfl; intro w1 b1 bx1; have B1 := Lib.hid b1; have PR1 := Lib.hid (H.out.below b1); have PH1 := Lib.hid (HH.out.below b1); have K1 := Lib.hid (Kp'.of_below b1 P (Us F pw G q H1 H2)); have BX1 := Lib.hid (bx1 P (Us F pw G q H1 H2) H.out.uP); have a0 := BX1.out.cells 0 _ rfl; have a1 := BX1.out.cells 1 _ rfl; have a6 := BX1.out.cells 6 _ rfl; have a7 := BX1.out.cells 7 _ rfl; have a8 := BX1.out.cells 8 _ rfl; have a9 := BX1.out.cells 9 _ rfl; have a10 := BX1.out.cells 10 _ rfl; have a11 := BX1.out.cells 11 _ rfl; have a12 := BX1.out.cells 12 _ rfl; have a13 := BX1.out.cells 13 _ rfl; obtain ⟨c26, c27, c28, c29, c30, c31, cf⟩ := phead_all PH1.out; clear b1 bx1)
  refine (rgput_no x w1 HM.out).mono ?_; rintro e w2 ⟨rfl, b2⟩
  have PR2 := Lib.hid (PR1.out.below b2)
  have PH2 := Lib.hid (PH1.out.below b2)
  have K2 := Lib.hid (K1.out.trans (Kp'.of_below b2 P _))
  clear b2 a0 a1 a6 a7 a8 a9 a10 a11 a12 a13 c26 c27 c28 c29 c30 c31 cf
  go_wp2
  go_ret
  exact ⟨rfl, .of PR2.out PH2.out K2.out (by omega) hN (.inr (.inr (.inl ⟨rfl, rfl⟩)))⟩
end
end Go.Proofs.YtgdgehfapfgdfaaGreatDoor.Tb

/-! A call on a pair: Flush. No conditions. -/
namespace Go.Proofs.YtgdgehfapfgdfaaGreatDoor.Tb
set_option maxRecDepth 100000
open Go.RowKit Oc Dm W Dw Sr Gt
set_option linter.unusedVariables false
set_option maxRecDepth 100000
attribute [local go_sem ↓] Go.wp_at_zero Go.wp_at_succ
section
variable {w0 w : World} {P n N pw D q E ne np ga : Nat} {p : Pn.Pl} {T U : Option Addr} {F G H1 H2 : Nat → Prop} {m : Vs} {t : Option (List Gp)} {L : List Gp}
set_option maxHeartbeats 8000000 in
theorem do5 (h : Pr w0 P p n N pw D q E T U F G H1 H2 m m t t w) (hh : PHead w P p pw D q E T U) (he : Env w0) (hp : Pln p ne np ga n) (hnp : np ≤ 3) (hN : N + 8 ≤ 1000000) (z : Int) (la : Option Addr) (ll lc : Nat) (ls : List Int) (u v : Nat) (fa : Option Addr) (fl fc : Nat) (fs : List Int) (x : Gp) :
    Calls Tryz.prog 9 #[.pointer (some ⟨P, 0, none⟩), .agg #[.int .i64 5, .int .i64 z, .slice la ll lc, .int .u64 (u : Int), .int .u64 (v : Int), .slice fa fl fc, .int .i64 x.no, .int .u64 (x.v : Int), .int .u64 (x.g 0 : Int), .int .u64 (x.g 1 : Int), .int .u64 (x.g 2 : Int), .int .u64 (x.g 3 : Int), .int .u64 (x.g 4 : Int), .int .u64 (x.g 5 : Int)]] w fun e w' => e = .returned (.bool true) ∧ Done w0 P p ne np ga n (N + 8) 5 ls fs m t w (Us F pw G q H1 H2) w' := by
  have H := Lib.hid h
  have HH := Lib.hid hh
  have HE := Lib.hid he
  have HP := Lib.hid hp
  obtain ⟨ev, m2, hev⟩ : ∃ ev m2, fl1 m = (ev, m2) := ⟨_, _, rfl⟩
  have HV := Lib.hid hev
  have HW : Hid (Way ga ne np n 5 ls fs m m2 t t) := .inr (.inr (.inr ⟨(by decide), rfl, by
    rcases fl1_S m with ⟨_, e⟩ | ⟨_, e⟩
    · rw [hev] at e; exact .inr e
    · rw [hev] at e; exact .inl e⟩))
  clear hev
  clear h hh he hp
  go_enter Tryz.func9, Tryz.ntmps9
  go_wp2_with ((with_reducible refine L_boxAct (cs := #[.int .i64 5, .int .i64 z, .slice la ll lc, .int .u64 (u : Int), .int .u64 (v : Int), .slice fa fl fc, .int .i64 x.no, .int .u64 (x.v : Int), .int .u64 (x.g 0 : Int), .int .u64 (x.g 1 : Int), .int .u64 (x.g 2 : Int), .int .u64 (x.g 3 : Int), .int .u64 (x.g 4 : Int), .int .u64 (x.g 5 : Int)]) ?_ ?_); exact rfl; intro w1 b1 bx1; have B1 := Lib.hid b1; have PR1 := Lib.hid (H.out.below b1); have PH1 := Lib.hid (HH.out.below b1); have K1 := Lib.hid (Kp'.of_below b1 P (Us F pw G q H1 H2)); have BX1 := Lib.hid (bx1 P (Us F pw G q H1 H2) H.out.uP); have a0 := BX1.out.cells 0 _ rfl; obtain ⟨c26, c27, c28, c29, c30, c31, cf⟩ := phead_all PH1.out; clear b1 bx1)
  have KB : Hid (∀ y, Below w1.heap.size w1 y → Calls Tryz.prog 37 #[.pointer (some ⟨D, 0, none⟩)] y fun e y' => e = .returned (.int .i64 ev) ∧ Pr w0 P p n (N + 1) pw D q E T U (Ext F y y') G H1 H2 m2 m t t y' ∧ y'.heap[P]? = y.heap[P]? ∧ Kp y (Us F pw G q H1 H2) y' (Us (Ext F y y') pw G q H1 H2)) := fun y hy => by
    have := (PR1.out.below hy).flush (by omega)
    rw [HV.out] at this
    exact this
  go_region_held (fun x => x.cell? ⟨P, 27, none⟩ = some (.pointer (some ⟨D, 0, none⟩)) ∧ x.cell? ⟨P, 30, none⟩ = some (.pointer (some ⟨E, 0, none⟩))) (first | go_keep | exact ⟨(phead_all PH3.out).2.1, (phead_all PH3.out).2.2.2.2.1⟩ | exact ⟨(phead_all PH2.out).2.1, (phead_all PH2.out).2.2.2.2.1⟩)
    (first
      | (go_at_call 37; (with_reducible refine (KB.out _ (below_drew1 _)).mono ?_); rintro e w2 ⟨rfl, p2, h2, k2⟩; have PR2 := Lib.hid p2; have PH2 := Lib.hid ((PH1.out.below (below_drew1 _)).of h2); have K2 := Lib.hid ((K1.out.trans (Kp'.of_below (below_drew1 _) P _)).trans (k2.but P)); have KR := Lib.hid (PR2.out.rflush (by omega)); rw [HV.out] at KR; clear p2 h2 k2)
      | (go_at_call 38; (with_reducible refine KR.out.mono ?_); rintro e w3 ⟨rfl, p3, h3, k3⟩; have PR3 := Lib.hid p3; have PH3 := Lib.hid (PH2.out.of h3); have K3 := Lib.hid (K2.out.trans (k3.but P)); clear p3 h3 k3))
  all_goals go_wp2
  all_goals (go_ret; exact ⟨rfl, .of PR3.out PH3.out K3.out (by omega) hN HW.out⟩)
end
end Go.Proofs.YtgdgehfapfgdfaaGreatDoor.Tb

/-! A call on a pair: none of these. No conditions. -/
namespace Go.Proofs.YtgdgehfapfgdfaaGreatDoor.Tb
set_option maxRecDepth 100000
open Go.RowKit Oc Dm W Dw Sr Gt
set_option linter.unusedVariables false
set_option maxRecDepth 100000
attribute [local go_sem ↓] Go.wp_at_zero Go.wp_at_succ
section
variable {w0 w : World} {P n N pw D q E ne np ga : Nat} {p : Pn.Pl} {T U : Option Addr} {F G H1 H2 : Nat → Prop} {m : Vs} {t : Option (List Gp)} {L : List Gp}
set_option maxHeartbeats 8000000 in
theorem do6 (h : Pr w0 P p n N pw D q E T U F G H1 H2 m m t t w) (hh : PHead w P p pw D q E T U) (he : Env w0) (hp : Pln p ne np ga n) (hnp : np ≤ 3) (hN : N + 8 ≤ 1000000) (z : Int) (la : Option Addr) (ll lc : Nat) (ls : List Int) (u v : Nat) (fa : Option Addr) (fl fc : Nat) (fs : List Int) (x : Gp) (k : Int) (hk0 : ¬ k = 0) (hk1 : ¬ k = 1) (hk2 : ¬ k = 2) (hk3 : ¬ k = 3) (hk4 : ¬ k = 4) (hk5 : ¬ k = 5) :
    Calls Tryz.prog 9 #[.pointer (some ⟨P, 0, none⟩), .agg #[.int .i64 k, .int .i64 z, .slice la ll lc, .int .u64 (u : Int), .int .u64 (v : Int), .slice fa fl fc, .int .i64 x.no, .int .u64 (x.v : Int), .int .u64 (x.g 0 : Int), .int .u64 (x.g 1 : Int), .int .u64 (x.g 2 : Int), .int .u64 (x.g 3 : Int), .int .u64 (x.g 4 : Int), .int .u64 (x.g 5 : Int)]] w fun e w' => e = .returned (.bool true) ∧ Done w0 P p ne np ga n (N + 8) k ls fs m t w (Us F pw G q H1 H2) w' := by
  have H := Lib.hid h
  have HH := Lib.hid hh
  have HE := Lib.hid he
  have HP := Lib.hid hp
  clear h hh he hp
  go_enter Tryz.func9, Tryz.ntmps9
  go_wp2_with ((with_reducible refine L_boxAct (cs := #[.int .i64 k, .int .i64 z, .slice la ll lc, .int .u64 (u : Int), .int .u64 (v : Int), .slice fa fl fc, .int .i64 x.no, .int .u64 (x.v : Int), .int .u64 (x.g 0 : Int), .int .u64 (x.g 1 : Int), .int .u64 (x.g 2 : Int), .int .u64 (x.g 3 : Int), .int .u64 (x.g 4 : Int), .int .u64 (x.g 5 : Int)]) ?_ ?_); exact rfl; intro w1 b1 bx1; have B1 := Lib.hid b1; have PR1 := Lib.hid (H.out.below b1); have PH1 := Lib.hid (HH.out.below b1); have K1 := Lib.hid (Kp'.of_below b1 P (Us F pw G q H1 H2)); have BX1 := Lib.hid (bx1 P (Us F pw G q H1 H2) H.out.uP); have a0 := BX1.out.cells 0 _ rfl; obtain ⟨c26, c27, c28, c29, c30, c31, cf⟩ := phead_all PH1.out; clear b1 bx1)
  go_wp2
  go_ret
  exact ⟨rfl, .of PR1.out PH1.out K1.out (by omega) hN (.inr (.inr (.inr ⟨hk4, rfl, .inl rfl⟩)))⟩
end
end Go.Proofs.YtgdgehfapfgdfaaGreatDoor.Tb

/-! Any call on a pair. No conditions. -/
namespace Go.Proofs.YtgdgehfapfgdfaaGreatDoor.Tb
set_option maxRecDepth 100000
open Go.RowKit Oc Dm W Dw Sr Gt
set_option linter.unusedVariables false
section
variable {w0 w w' w1 : World} {P n N pw D q E ne np ga : Nat} {p : Pn.Pl} {T U : Option Addr} {F G H1 H2 Z1 : Nat → Prop} {m : Vs} {t : Option (List Gp)}
theorem do_any (h : Pr w0 P p n N pw D q E T U F G H1 H2 m m t t w) (hh : PHead w P p pw D q E T U) (he : Env w0) (hp : Pln p ne np ga n) (hnp : np ≤ 3) (hN : N + 8 ≤ 1000000) (hg : PagesO t np) (a : ActV) (ha : ActOk w0 a) (hl : a.ll ≤ 12) :
    Calls Tryz.prog 9 #[.pointer (some ⟨P, 0, none⟩), .agg a.cells.toArray] w fun e w' => e = .returned (.bool true) ∧ Done w0 P p ne np ga n (N + 8) a.kind a.ls a.fs m t w (Us F pw G q H1 H2) w' := by
  obtain ⟨kind, z, la, ll, lc, ls, u, v, fa, fl, fc, fs, x⟩ := a
  obtain ⟨hf1, hf2, h1, h2, h3, h4, h5, h6⟩ := ha
  by_cases k0 : kind = 0
  · subst k0
    cases t with
    | none => exact do0n h hh he hp hnp hN z la ll lc ls u v fa fl fc fs x
    | some L => exact do0 h hh he hp hnp hN z la ll lc ls u v fa fl fc fs x (hg L rfl) hf1 hl
  · by_cases k1 : kind = 1
    · subst k1; exact do1 h hh he hp hnp hN z la ll lc ls u v fa fl fc fs x h1 h2
    · by_cases k2 : kind = 2
      · subst k2; exact do2 h hh he hp hnp hN z la ll lc ls u v fa fl fc fs x
      · by_cases k3 : kind = 3
        · subst k3; exact do3 h hh he hp hnp hN z la ll lc ls u v fa fl fc fs x hf2 (Nat.le_trans h5 h6)
        · by_cases k4 : kind = 4
          · subst k4
            by_cases hm : MayBe x
            · exact do4y h hh he hp hnp hN z la ll lc ls u v fa fl fc fs x hm
            · exact do4n h hh he hp hnp hN z la ll lc ls u v fa fl fc fs x hm
          · by_cases k5 : kind = 5
            · subst k5; exact do5 h hh he hp hnp hN z la ll lc ls u v fa fl fc fs x
            · exact do6 h hh he hp hnp hN z la ll lc ls u v fa fl fc fs x kind k0 k1 k2 k3 k4 k5
/-- one act more -/
theorem st_do (h : St w0 P p n N m m t t w1 Z1 w) (he : Env w0) (hp : Pln p ne np ga n) (hnp : np ≤ 3) (hN : N + 8 ≤ 1000000) (hg : PagesO t np) (a : ActV) (ha : ActOk w0 a) (hl : a.ll ≤ 12) :
    Calls Tryz.prog 9 #[.pointer (some ⟨P, 0, none⟩), .agg a.cells.toArray] w fun e w' => e = .returned (.bool true) ∧ Done w0 P p ne np ga n (N + 8) a.kind a.ls a.fs m t w1 Z1 w' := by
  obtain ⟨pw, D, q, E, T, U, F, G, H1, H2, r, h2, k⟩ := h
  refine (do_any r h2 he hp hnp hN hg a ha hl).mono fun e w' ⟨e1, m', t', ⟨pw', D', q', E', T', U', F', G', H1', H2', r', h2', k'⟩, hw⟩ => ⟨e1, m', t', ⟨pw', D', q', E', T', U', F', G', H1', H2', r', h2', k.trans k'⟩, hw⟩
end
end Go.Proofs.YtgdgehfapfgdfaaGreatDoor.Tb

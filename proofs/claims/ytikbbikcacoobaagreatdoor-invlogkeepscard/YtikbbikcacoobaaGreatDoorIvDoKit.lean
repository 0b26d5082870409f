/-
  What the walk of a call on a pair leans on: the act in its box, what such a call leaves. No conditions.
-/
import Derived.Test.YtikbbikcacoobaaGreatDoorIvPairCrash
import Derived.Test.YtikbbikcacoobaaGreatDoorIvActs
namespace Go.Proofs.YtikbbikcacoobaaGreatDoor.Pd.Iv
open Go.RowKit Oc Dm W Dw Sr Gt
set_option linter.unusedVariables false
set_option maxRecDepth 100000

/-- an act in its box -/
structure Bx (w : World) (P : Nat) (Z : Nat → Prop) (b : Nat) (cs : Array Value) : Prop where
  cells : ∀ j v, cs[j]? = some v → w.cell? ⟨b, j, none⟩ = some v
  lt : b < w.heap.size
  off : ¬ (Z b ∨ b = P)
theorem Bx.kp {w w' : World} {P b : Nat} {Z Z' : Nat → Prop} {cs : Array Value} (h : Bx w P Z b cs) (k : Kp' w P Z w' Z') : Bx w' P Z' b cs :=
  ⟨fun j v e => (World.cell?_of_block (a := ⟨b, j, none⟩) (k.at_ b h.lt h.off).1).trans (h.cells j v e), Nat.lt_of_lt_of_le h.lt k.size, (k.at_ b h.lt h.off).2⟩
theorem L_boxAct {ops : Array Oper} {rest : List Oper} {a : Act} {w : World} {Q : Exit → Act → World → Prop} {dst : Option Tmp} {ty : TypeId} {pos : String} {af : Array Edge} {y : Operand} {cs : Array Value} (hy : a.eval y = .agg cs)
    (hK : ∀ w1, Below w.heap.size w w1 → (∀ (P : Nat) (Z : Nat → Prop), (∀ b, Z b ∨ b = P → b < w.heap.size) → Bx w1 P Z w.heap.size cs) → wpList Tryz.prog ops Q rest (a.put dst (.pointer (some ⟨w.heap.size, 0, none⟩))) w1) :
    wpList Tryz.prog ops Q (⟨dst, .box 33 y, ty, pos, af, none⟩ :: rest) a w := by
  refine wpList_plain rfl fun K hK' => ?_
  have hrun : (Instr.box 33 (.agg cs)).run Tryz.prog w = .ok (.pointer (some ⟨w.heap.size, 0, none⟩)) (w.alloc (.cells cs 33)) := by
    simp [Instr.box, newVar, newRow, Result.andThen, go_sem, Value.cells]
  unfold Oper.wp
  simp [execOp, hy, hrun, Result.andThen]
  refine hK' _ _ (hK _ (balloc _ _) fun P Z hZ => ⟨fun j v e => ?_, by simp, fun x => absurd (hZ _ x) (Nat.lt_irrefl _)⟩)
  rw [cell_of_row _ _ _ _ _ _ (heap_alloc_new w _)]; exact e
/-- what a pair is, behind some doing -/
def St (w0 : World) (P : Nat) (p : Pn.Pl) (n N : Nat) (m1 m2 : Vs) (t1 t2 : Option Lg) (w1 : World) (Z1 : Nat → Prop) (w : World) : Prop :=
  ∃ pw D q E T U F G H1 H2, Pr w0 P p n N pw D q E T U F G H1 H2 m1 m2 t1 t2 w ∧ PHead w P p pw D q E T U ∧ Kp' w1 P Z1 w (Us F pw G q H1 H2)
/-- what a whole call leaves -/
def Done (w0 : World) (P : Nat) (p : Pn.Pl) (n N B lg : Nat) (w1 : World) (Z1 : Nat → Prop) (w : World) : Prop :=
  ∃ m' g', St w0 P p n N m' m' (some g') (some g') w1 Z1 w ∧ GOk B lg g'
section
variable {w0 w w' w1 : World} {P n N N' pw D q E la lg B B0 : Nat} {p : Pn.Pl} {T U : Option Addr} {F G H1 H2 Z1 : Nat → Prop} {m m' m1 m2 : Vs} {t t' t1 t2 : Option Lg} {g g' : Lg} {k : Int} {fs : List Int}
theorem Pr.uP (h : Pr w0 P p n N pw D q E T U F G H1 H2 m1 m2 t1 t2 w) : ∀ b, Us F pw G q H1 H2 b ∨ b = P → b < w.heap.size := fun b x => x.elim (fun y => (h.ubound y).2) (fun e => e ▸ h.lt.1)
theorem Pr.okat (h : Pr w0 P p n N pw D q E T U F G H1 H2 m1 m2 t1 t2 w) {a : ActV} (ha : ActOk w0 a) : ActOk w a := ha.below h.bel
theorem phead_all (h : PHead w P p pw D q E T U) : w.cell? ⟨P, 26, none⟩ = some (.pointer (some ⟨pw, 0, none⟩)) ∧ w.cell? ⟨P, 27, none⟩ = some (.pointer (some ⟨D, 0, none⟩)) ∧ w.cell? ⟨P, 28, none⟩ = some (.pointer T) ∧ w.cell? ⟨P, 29, none⟩ = some (.pointer (some ⟨q, 0, none⟩)) ∧ w.cell? ⟨P, 30, none⟩ = some (.pointer (some ⟨E, 0, none⟩)) ∧ w.cell? ⟨P, 31, none⟩ = some (.pointer U) ∧ ∀ j, w.frozen? ⟨P, j, none⟩ = false :=
  ⟨(h.cell 26).1, (h.cell 27).1, (h.cell 28).1, (h.cell 29).1, (h.cell 30).1, (h.cell 31).1, fun j => (h.cell j).2⟩
theorem St.below (h : St w0 P p n N m1 m2 t1 t2 w1 Z1 w) (hb : Below w.heap.size w w') : St w0 P p n N m1 m2 t1 t2 w1 Z1 w' := by
  obtain ⟨pw, D, q, E, T, U, F, G, H1, H2, r, h2, k⟩ := h
  exact ⟨pw, D, q, E, T, U, F, G, H1, H2, r.below hb, h2.below hb, k.trans (Kp'.of_below hb P _)⟩
theorem Done.of (h : Pr w0 P p n N' pw D q E T U F G H1 H2 m' m' (some g') (some g') w) (hh : PHead w P p pw D q E T U) (hk : Kp' w1 P Z1 w (Us F pw G q H1 H2)) (hN : N' ≤ N) (hb : N ≤ 1000000) (hg : GOk B lg g') : Done w0 P p n N B lg w1 Z1 w :=
  ⟨m', g', ⟨pw, D, q, E, T, U, F, G, H1, H2, h.more hN hb, hh, hk⟩, hg⟩
/-- the cells of the document's log -/
theorem Pr.lg2 (h : Pr w0 P p n N pw D q E T U F G H1 H2 m1 m2 t1 (some g) w) : ∃ u, U = some ⟨u, 0, none⟩ ∧ H2 u ∧ w.cell? ⟨u, 14, none⟩ = some (.int .u64 (g.f : Int)) ∧ w.cell? ⟨u, 15, none⟩ = some (.int .u64 (g.nx : Int)) ∧ w.cell? ⟨u, 16, none⟩ = some (.int .u64 (g.ep : Int)) := by
  obtain ⟨u, e, hu, hl⟩ := h.tb2
  obtain ⟨c0, c14, c15, c16, _⟩ := hl.cells
  exact ⟨u, e, hu, c14, c15, c16⟩
theorem Pr.lg1 (h : Pr w0 P p n N pw D q E T U F G H1 H2 m1 m2 (some g) t2 w) : ∃ u, T = some ⟨u, 0, none⟩ ∧ H1 u ∧ LgAt w 101 u D p g := by
  obtain ⟨u, e, hu, hl⟩ := h.tb1
  exact ⟨u, e, hu, hl⟩
/-- the document's two patterns, one behind the other -/
theorem Pr.rset2 (h : Pr w0 P p n N pw D q E T U F G H1 H2 m1 m2 t1 t2 w) (u : Nat) (hu : u < 18446744073709551616) :
    ∃ G', Pr w0 P p n N pw D q E T U F G' H1 H2 m1 { m2 with rd := u } t1 t2 (w.setCell ⟨E, 2, none⟩ (.int .u64 (u : Int))) ∧ (w.setCell ⟨E, 2, none⟩ (.int .u64 (u : Int))).heap[P]? = w.heap[P]? ∧ Kp w (Us F pw G q H1 H2) (w.setCell ⟨E, 2, none⟩ (.int .u64 (u : Int))) (Us F pw G' q H1 H2) := by
  obtain ⟨gs, vs, x⟩ := h.rd.rv
  have c1 : Chg G w (w.setCell ⟨E, 2, none⟩ (.int .u64 (u : Int))) := Chg.of_grown (grown_set w E 2 _) (fun k e _ => by injection e with e; subst e; exact x.inG.1)
  have r : RD (w.setCell ⟨E, 2, none⟩ (.int .u64 (u : Int))) G E q n N { m2 with rd := u } := ⟨h.rd.qw.heap (c1.block q h.rd.qw.lt h.rd.nq), ⟨gs, vs, x.set2 u hu⟩, h.rd.nq, h.rd.hf, h.rd.hs, h.rd.hl, h.rd.hN⟩
  exact ⟨_, h.doc (Nat.le_refl _) h.rd.hN (r.up h.rd.qw.lt c1.size) (c1.mono (fun _ _ y => .inl y))⟩
theorem Pr.rset3 (h : Pr w0 P p n N pw D q E T U F G H1 H2 m1 m2 t1 t2 w) (u : Nat) (hu : u < 18446744073709551616) :
    ∃ G', Pr w0 P p n N pw D q E T U F G' H1 H2 m1 { m2 with wr := u } t1 t2 (w.setCell ⟨E, 3, none⟩ (.int .u64 (u : Int))) ∧ (w.setCell ⟨E, 3, none⟩ (.int .u64 (u : Int))).heap[P]? = w.heap[P]? ∧ Kp w (Us F pw G q H1 H2) (w.setCell ⟨E, 3, none⟩ (.int .u64 (u : Int))) (Us F pw G' q H1 H2) := by
  obtain ⟨gs, vs, x⟩ := h.rd.rv
  have c1 : Chg G w (w.setCell ⟨E, 3, none⟩ (.int .u64 (u : Int))) := Chg.of_grown (grown_set w E 3 _) (fun k e _ => by injection e with e; subst e; exact x.inG.1)
  have r : RD (w.setCell ⟨E, 3, none⟩ (.int .u64 (u : Int))) G E q n N { m2 with wr := u } := ⟨h.rd.qw.heap (c1.block q h.rd.qw.lt h.rd.nq), ⟨gs, vs, x.set3 u hu⟩, h.rd.nq, h.rd.hf, h.rd.hs, h.rd.hl, h.rd.hN⟩
  exact ⟨_, h.doc (Nat.le_refl _) h.rd.hN (r.up h.rd.qw.lt c1.size) (c1.mono (fun _ _ y => .inl y))⟩
theorem own_oct {w : World} {B : Nat} {v : Value} {xs : List UInt8} (h : Own w 5 B v xs) (hl : xs.length = 64) : ∃ g c, v = .slice (some ⟨g, 0, none⟩) 64 c ∧ B ≤ g ∧ g < w.heap.size ∧ Oct w (some ⟨g, 0, none⟩) 64 xs := by
  obtain ⟨A, c, hv, _, ho⟩ := h.form hl
  obtain ⟨b, off, e, _⟩ := ho.2 (by decide)
  subst e hv
  have hg := h.ge b rfl
  rcases h.2 with ⟨e1, h0⟩ | ⟨g, cap, cur, e1, hb, _⟩
  · cases e1
  · injection e1 with e1 e2 e3
    injection e1 with e1
    injection e1 with e1 e4
    subst e4
    exact ⟨b, c, rfl, hg.1, hg.2, ho⟩
end
end Go.Proofs.YtikbbikcacoobaaGreatDoor.Pd.Iv

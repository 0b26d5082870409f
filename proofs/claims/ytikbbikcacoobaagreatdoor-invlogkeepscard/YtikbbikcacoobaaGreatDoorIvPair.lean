/-
  A device with a log, and the document's: what the laws' pair is, and stays. No conditions.
-/
import Derived.Test.YtikbbikcacoobaaGreatDoorIvRapp
import Derived.Test.YtikbbikcacoobaaGreatDoorIvApp
namespace Go.Proofs.YtikbbikcacoobaaGreatDoor.Pd.Iv
open Go.RowKit Oc Dm W Dw Sr
set_option linter.unusedVariables false
set_option maxRecDepth 100000

def PCs (p : Pn.Pl) (pw D q E : Nat) (T U : Option Addr) : Array Value := #[.int .i64 p.a0, .int .i64 p.a1, .int .i64 p.a2, .int .i64 p.a3, .int .i64 p.a4, .int .i64 p.a5, .int .i64 p.a6, .int .i64 p.a7, .int .i64 p.a8, .int .i64 p.a9, .int .i64 p.a10, .int .i64 p.a11, .int .i64 p.a12, .int .i64 p.a0, .int .i64 p.a1, .int .i64 p.a2, .int .i64 p.a3, .int .i64 p.a4, .int .i64 p.a5, .int .i64 p.a6, .int .i64 p.a7, .int .i64 p.a8, .int .i64 p.a9, .int .i64 p.a10, .int .i64 p.a11, .int .i64 p.a12, .pointer (some ⟨pw, 0, none⟩), .pointer (some ⟨D, 0, none⟩), .pointer T, .pointer (some ⟨q, 0, none⟩), .pointer (some ⟨E, 0, none⟩), .pointer U]
def Tab (w : World) (H : Nat → Prop) (TT : TypeId) (T : Option Addr) (D : Nat) (p : Pn.Pl) : Option Lg → Prop
  | none => T = none
  | some g => ∃ t, T = some ⟨t, 0, none⟩ ∧ H t ∧ LgAt w TT t D p g
/-- blocks apart -/
structure Ap (B S : Nat) (P : Nat) (A1 A2 A3 A4 : Nat → Prop) : Prop where
  col : ∃ o : Nat → Nat, (∀ b, A1 b → o b = 1) ∧ (∀ b, A2 b → o b = 2) ∧ (∀ b, A3 b → o b = 3) ∧ (∀ b, A4 b → o b = 4) ∧ o P = 5
  lo : ∀ b, (A1 b ∨ A2 b ∨ A3 b ∨ A4 b ∨ b = P) → B ≤ b ∧ b < S
section
variable {B S S' P : Nat} {A1 A2 A3 A4 A' : Nat → Prop}
theorem Ap.turn (h : Ap B S P A1 A2 A3 A4) (c : Nat → Nat) (hS : S ≤ S') (hB : B ≤ S) (f1 f2 f3 f4 : Nat → Prop)
    (h1 : ∀ b, f1 b → A1 b ∨ (c b = 1 ∧ S ≤ b ∧ b < S')) (h2 : ∀ b, f2 b → A2 b ∨ (c b = 2 ∧ S ≤ b ∧ b < S')) (h3 : ∀ b, f3 b → A3 b ∨ (c b = 3 ∧ S ≤ b ∧ b < S')) (h4 : ∀ b, f4 b → A4 b ∨ (c b = 4 ∧ S ≤ b ∧ b < S')) : Ap B S' P f1 f2 f3 f4 := by
  obtain ⟨o, o1, o2, o3, o4, o5⟩ := h.col
  have hP := h.lo P (.inr (.inr (.inr (.inr rfl))))
  have old : ∀ b, b < S → (if S ≤ b then c b else o b) = o b := fun b hb => if_neg (by omega)
  refine ⟨⟨fun b => if S ≤ b then c b else o b, fun b x => ?_, fun b x => ?_, fun b x => ?_, fun b x => ?_, (old P hP.2).trans o5⟩, fun b x => ?_⟩
  · rcases h1 b x with y | ⟨e, y, _⟩
    · exact (old b (h.lo b (.inl y)).2).trans (o1 b y)
    · exact (if_pos y).trans e
  · rcases h2 b x with y | ⟨e, y, _⟩
    · exact (old b (h.lo b (.inr (.inl y))).2).trans (o2 b y)
    · exact (if_pos y).trans e
  · rcases h3 b x with y | ⟨e, y, _⟩
    · exact (old b (h.lo b (.inr (.inr (.inl y)))).2).trans (o3 b y)
    · exact (if_pos y).trans e
  · rcases h4 b x with y | ⟨e, y, _⟩
    · exact (old b (h.lo b (.inr (.inr (.inr (.inl y))))).2).trans (o4 b y)
    · exact (if_pos y).trans e
  · have new : S ≤ b ∧ b < S' → B ≤ b ∧ b < S' := fun y => ⟨Nat.le_trans hB y.1, y.2⟩
    have up : B ≤ b ∧ b < S → B ≤ b ∧ b < S' := fun y => ⟨y.1, Nat.lt_of_lt_of_le y.2 hS⟩
    rcases x with x | x | x | x | x
    · exact (h1 b x).elim (fun y => up (h.lo b (.inl y))) (fun y => new y.2)
    · exact (h2 b x).elim (fun y => up (h.lo b (.inr (.inl y)))) (fun y => new y.2)
    · exact (h3 b x).elim (fun y => up (h.lo b (.inr (.inr (.inl y))))) (fun y => new y.2)
    · exact (h4 b x).elim (fun y => up (h.lo b (.inr (.inr (.inr (.inl y)))))) (fun y => new y.2)
    · exact up (h.lo b (.inr (.inr (.inr (.inr x)))))
theorem Ap.d12 (h : Ap B S P A1 A2 A3 A4) {b : Nat} : A1 b → ¬ A2 b := fun x y => by obtain ⟨o, o1, o2, _⟩ := h.col; have := o1 b x; have := o2 b y; omega
theorem Ap.d13 (h : Ap B S P A1 A2 A3 A4) {b : Nat} : A1 b → ¬ A3 b := fun x y => by obtain ⟨o, o1, o2, o3, _⟩ := h.col; have := o1 b x; have := o3 b y; omega
theorem Ap.d14 (h : Ap B S P A1 A2 A3 A4) {b : Nat} : A1 b → ¬ A4 b := fun x y => by obtain ⟨o, o1, o2, o3, o4, _⟩ := h.col; have := o1 b x; have := o4 b y; omega
theorem Ap.d23 (h : Ap B S P A1 A2 A3 A4) {b : Nat} : A2 b → ¬ A3 b := fun x y => by obtain ⟨o, o1, o2, o3, _⟩ := h.col; have := o2 b x; have := o3 b y; omega
theorem Ap.d24 (h : Ap B S P A1 A2 A3 A4) {b : Nat} : A2 b → ¬ A4 b := fun x y => by obtain ⟨o, o1, o2, o3, o4, _⟩ := h.col; have := o2 b x; have := o4 b y; omega
theorem Ap.d34 (h : Ap B S P A1 A2 A3 A4) {b : Nat} : A3 b → ¬ A4 b := fun x y => by obtain ⟨o, o1, o2, o3, o4, _⟩ := h.col; have := o3 b x; have := o4 b y; omega
theorem Ap.p1 (h : Ap B S P A1 A2 A3 A4) : ¬ A1 P := fun x => by obtain ⟨o, o1, o2, o3, o4, o5⟩ := h.col; have := o1 P x; omega
theorem Ap.p2 (h : Ap B S P A1 A2 A3 A4) : ¬ A2 P := fun x => by obtain ⟨o, o1, o2, o3, o4, o5⟩ := h.col; have := o2 P x; omega
theorem Ap.p3 (h : Ap B S P A1 A2 A3 A4) : ¬ A3 P := fun x => by obtain ⟨o, o1, o2, o3, o4, o5⟩ := h.col; have := o3 P x; omega
theorem Ap.p4 (h : Ap B S P A1 A2 A3 A4) : ¬ A4 P := fun x => by obtain ⟨o, o1, o2, o3, o4, o5⟩ := h.col; have := o4 P x; omega
end
/-- A PAIR at P, but for what P's own block holds -/
structure Pr (w0 : World) (P : Nat) (p : Pn.Pl) (n N : Nat) (pw D q E : Nat) (T U : Option Addr) (F G H1 H2 : Nat → Prop) (m1 m2 : Vs) (t1 t2 : Option Lg) (w : World) : Prop where
  pd : PD w F D pw n N m1
  rd : RD w G E q n N m2
  tb1 : Tab w H1 101 T D p t1
  tb2 : Tab w H2 83 U E p t2
  ap : Ap w0.heap.size w.heap.size P (Al F pw) (Al G q) H1 H2
  bel : Below w0.heap.size w0 w
/-- all blocks of a pair, but for its own -/
def Us (F : Nat → Prop) (pw : Nat) (G : Nat → Prop) (q : Nat) (H1 H2 : Nat → Prop) (b : Nat) : Prop := Al F pw b ∨ Al G q b ∨ H1 b ∨ H2 b
/-- what was none of Z's stays as it was, and is none of Z''s -/
structure Kp (w : World) (Z : Nat → Prop) (w' : World) (Z' : Nat → Prop) : Prop where
  size : w.heap.size ≤ w'.heap.size
  at_ : ∀ b, b < w.heap.size → ¬ Z b → w'.heap[b]? = w.heap[b]? ∧ ¬ Z' b
theorem Kp.refl (w : World) (Z : Nat → Prop) : Kp w Z w Z := ⟨Nat.le_refl _, fun b _ h => ⟨rfl, h⟩⟩
theorem Kp.trans {a b c : World} {X Y Z : Nat → Prop} (h : Kp a X b Y) (k : Kp b Y c Z) : Kp a X c Z :=
  ⟨Nat.le_trans h.size k.size, fun i hi x => by obtain ⟨h1, h2⟩ := h.at_ i hi x; obtain ⟨k1, k2⟩ := k.at_ i (Nat.lt_of_lt_of_le hi h.size) h2; exact ⟨k1.trans h1, k2⟩⟩
theorem Kp.of_below {w w' : World} (h : Below w.heap.size w w') (Z : Nat → Prop) : Kp w Z w' Z := ⟨h.size, fun b hb x => ⟨h.block b hb, x⟩⟩
theorem Kp.of_chg {w w' : World} {A Z Z' : Nat → Prop} (h : Chg A w w') (hA : ∀ b, A b → Z b) (hZ : ∀ b, Z' b → Z b ∨ w.heap.size ≤ b) : Kp w Z w' Z' :=
  ⟨h.size, fun b hb x => ⟨h.block b hb (fun y => x (hA b y)), fun y => (hZ b y).elim x (fun z => by omega)⟩⟩
/-- the pair's own block may turn too -/
def Kp' (w : World) (P : Nat) (Z : Nat → Prop) (w' : World) (Z' : Nat → Prop) : Prop := Kp w (fun b => Z b ∨ b = P) w' (fun b => Z' b ∨ b = P)
theorem Kp.but {w w' : World} {Z Z' : Nat → Prop} (h : Kp w Z w' Z') (P : Nat) : Kp' w P Z w' Z' :=
  ⟨h.size, fun b hb x => by obtain ⟨h1, h2⟩ := h.at_ b hb (fun y => x (.inl y)); exact ⟨h1, fun y => y.elim h2 (fun z => x (.inr z))⟩⟩
theorem Kp'.cell {w w' : World} {P : Nat} {Z Z' : Nat → Prop} (h : Kp' w P Z w' Z') (j : Nat) (v : Value) : Kp' w P Z (w'.setCell ⟨P, j, none⟩ v) Z' :=
  ⟨Nat.le_trans h.size (by simp [World.setCell]), fun b hb x => by obtain ⟨h1, h2⟩ := h.at_ b hb x; exact ⟨(heap_setCell_other _ _ _ _ (fun e => x (.inr e))).trans h1, h2⟩⟩
theorem Kp'.cell2 {w w' : World} {P : Nat} {Z Z' : Nat → Prop} (h : Kp' w P Z w' Z') (j : Nat) (v : Value) (i : Nat) (u : Value) : Kp' w P Z ((w'.setCell ⟨P, j, none⟩ v).setCell ⟨P, i, none⟩ u) Z' := (h.cell j v).cell i u
theorem Kp'.trans {a b c : World} {P : Nat} {X Y Z : Nat → Prop} (h : Kp' a P X b Y) (k : Kp' b P Y c Z) : Kp' a P X c Z := Kp.trans h k
theorem Kp'.refl (w : World) (P : Nat) (Z : Nat → Prop) : Kp' w P Z w Z := Kp.refl _ _
theorem Kp'.of_below {w w' : World} (h : Below w.heap.size w w') (P : Nat) (Z : Nat → Prop) : Kp' w P Z w' Z := Kp.of_below h _
def PHead (w : World) (P : Nat) (p : Pn.Pl) (pw D q E : Nat) (T U : Option Addr) : Prop := w.heap[P]? = some (.cells (PCs p pw D q E T U) 51 (0, 0))
theorem Tab.kept {w w' : World} {H F : Nat → Prop} {TT : TypeId} {T : Option Addr} {D : Nat} {p : Pn.Pl} {t : Option Lg} (h : Tab w H TT T D p t) (hc : Chg F w w') (hF : ∀ k, H k → ¬ F k) : Tab w' H TT T D p t := by
  cases t with
  | none => exact h
  | some g => obtain ⟨a, e, b, x⟩ := h; exact ⟨a, e, b, x.kept hc (hF _ b)⟩
section
variable {w0 w w' : World} {P n N N' pw D q E pw' D' q' E' : Nat} {p : Pn.Pl} {T U T' U' : Option Addr} {F G H1 H2 F' G' H1' H2' A : Nat → Prop} {m1 m2 m1' m2' : Vs} {t1 t2 t1' t2' : Option Lg}
theorem PHead.cell (h : PHead w P p pw D q E T U) (j : Nat) : w.cell? ⟨P, j, none⟩ = (PCs p pw D q E T U)[j]? ∧ w.frozen? ⟨P, j, none⟩ = false := ⟨cell_of_row _ _ j _ _ _ h, frozen_of_row w P j _ _ h⟩
theorem PHead.of (h : PHead w P p pw D q E T U) (e : w'.heap[P]? = w.heap[P]?) : PHead w' P p pw D q E T U := e.trans h
theorem PHead.below (h : PHead w P p pw D q E T U) (hb : Below w.heap.size w w') : PHead w' P p pw D q E T U := kept_below h hb
theorem Pr.lt (h : Pr w0 P p n N pw D q E T U F G H1 H2 m1 m2 t1 t2 w) : P < w.heap.size ∧ w0.heap.size ≤ P := ⟨(h.ap.lo P (.inr (.inr (.inr (.inr rfl))))).2, (h.ap.lo P (.inr (.inr (.inr (.inr rfl))))).1⟩
/-- what changes apart from what all sets hold -/
theorem Pr.bel_of (h : Pr w0 P p n N pw D q E T U F G H1 H2 m1 m2 t1 t2 w) (hc : Chg A w w') (hA : ∀ b, A b → Al F pw b ∨ Al G q b ∨ H1 b ∨ H2 b ∨ b = P) : Below w0.heap.size w0 w' :=
  h.bel.trans (hc.below h.bel.size (fun b hb x => by have := (h.ap.lo b (hA b x)).1; omega))
theorem Pr.below (h : Pr w0 P p n N pw D q E T U F G H1 H2 m1 m2 t1 t2 w) (hb : Below w.heap.size w w') : Pr w0 P p n N pw D q E T U F G H1 H2 m1 m2 t1 t2 w' :=
  have hc : Chg (fun _ => False) w w' := Chg.of_below hb
  ⟨h.pd.below hb, h.rd.below hb, h.tb1.kept hc (fun _ _ x => x), h.tb2.kept hc (fun _ _ x => x), h.ap.turn (fun _ => 0) hb.size h.bel.size _ _ _ _ (fun b x => .inl x) (fun b x => .inl x) (fun b x => .inl x) (fun b x => .inl x), h.bel_of hc (fun _ x => x.elim)⟩
theorem Pr.more (h : Pr w0 P p n N pw D q E T U F G H1 H2 m1 m2 t1 t2 w) (hN : N ≤ N') (hb : N' ≤ 1000000) : Pr w0 P p n N' pw D q E T U F G H1 H2 m1 m2 t1 t2 w :=
  ⟨h.pd.more hN hb, h.rd.more hN hb, h.tb1, h.tb2, h.ap, h.bel⟩
theorem Pr.us (h : Pr w0 P p n N pw D q E T U F G H1 H2 m1 m2 t1 t2 w) : ¬ Us F pw G q H1 H2 P := fun x => by
  rcases x with x | x | x | x
  · exact h.ap.p1 x
  · exact h.ap.p2 x
  · exact h.ap.p3 x
  · exact h.ap.p4 x
theorem Pr.ubound (h : Pr w0 P p n N pw D q E T U F G H1 H2 m1 m2 t1 t2 w) {b : Nat} (hb : Us F pw G q H1 H2 b) : w0.heap.size ≤ b ∧ b < w.heap.size := by
  rcases hb with x | x | x | x
  · exact h.ap.lo b (.inl x)
  · exact h.ap.lo b (.inr (.inl x))
  · exact h.ap.lo b (.inr (.inr (.inl x)))
  · exact h.ap.lo b (.inr (.inr (.inr (.inl x))))
/-- P's own block is stored to -/
theorem Pr.store (h : Pr w0 P p n N pw D q E T U F G H1 H2 m1 m2 t1 t2 w) (j : Nat) (v : Value) : Pr w0 P p n N pw D q E T U F G H1 H2 m1 m2 t1 t2 (w.setCell ⟨P, j, none⟩ v) := by
  have hc : Chg (fun b => b = P) w (w.setCell ⟨P, j, none⟩ v) := Chg.of_grown (grown_set w P j v) (fun k e _ => by injection e with e; exact e.symm)
  have hs : (w.setCell ⟨P, j, none⟩ v).heap.size = w.heap.size := by simp [World.setCell]
  exact ⟨h.pd.kept hc (fun b x e => h.ap.p1 (e ▸ x)), h.rd.kept hc (fun b x e => h.ap.p2 (e ▸ x)), h.tb1.kept hc (fun b x e => h.ap.p3 (e ▸ x)), h.tb2.kept hc (fun b x e => h.ap.p4 (e ▸ x)), by rw [hs]; exact h.ap, h.bel_of hc (fun b x => .inr (.inr (.inr (.inr x))))⟩
/-- the program's device has done something, its log too -/
theorem Pr.prog (h : Pr w0 P p n N pw D q E T U F G H1 H2 m1 m2 t1 t2 w) (hN : N ≤ N') (hb : N' ≤ 1000000) (hp : PD w' (Ext F w w') D pw n N' m1') (ht : Tab w' H1 101 T D p t1') (hc : Chg (fun b => Al F pw b ∨ H1 b) w w') :
    Pr w0 P p n N' pw D q E T U (Ext F w w') G H1 H2 m1' m2 t1' t2 w' ∧ w'.heap[P]? = w.heap[P]? ∧ Kp w (Us F pw G q H1 H2) w' (Us (Ext F w w') pw G q H1 H2) := by
  refine ⟨⟨hp, (h.rd.kept hc (fun b x y => y.elim (fun z => h.ap.d12 z x) (fun z => h.ap.d23 x z))).more hN hb, ht, h.tb2.kept hc (fun b x y => y.elim (fun z => h.ap.d14 z x) (fun z => h.ap.d34 z x)), ?_, h.bel_of hc (fun b x => x.elim .inl (fun y => .inr (.inr (.inl y))))⟩, hc.block P h.lt.1 (fun x => x.elim h.ap.p1 h.ap.p3), Kp.of_chg hc (fun b x => x.elim .inl (fun y => .inr (.inr (.inl y)))) (fun b x => ?_)⟩
  rotate_left
  · rcases x with x | x
    · exact x.elim (fun y => y.elim (fun z => .inl (.inl (.inl z))) (fun z => .inr z.1)) (fun y => .inl (.inl (.inr y)))
    · exact .inl (.inr x)
  exact h.ap.turn (fun _ => 1) hc.size h.bel.size _ _ _ _ (fun b x => x.elim (fun y => y.elim (fun z => .inl (.inl z)) (fun z => .inr ⟨rfl, z⟩)) (fun y => .inl (.inr y))) (fun b x => .inl x) (fun b x => .inl x) (fun b x => .inl x)
theorem Pr.prog0 (h : Pr w0 P p n N pw D q E T U F G H1 H2 m1 m2 t1 t2 w) (hN : N ≤ N') (hb : N' ≤ 1000000) (hp : PD w' (Ext F w w') D pw n N' m1') (hc : Chg (Al F pw) w w') :
    Pr w0 P p n N' pw D q E T U (Ext F w w') G H1 H2 m1' m2 t1 t2 w' ∧ w'.heap[P]? = w.heap[P]? ∧ Kp w (Us F pw G q H1 H2) w' (Us (Ext F w w') pw G q H1 H2) :=
  h.prog hN hb hp (h.tb1.kept hc (fun b x y => h.ap.d13 y x)) (hc.mono (fun _ _ x => .inl x))
/-- the document's device has done something, its log too -/
theorem Pr.doc_t (h : Pr w0 P p n N pw D q E T U F G H1 H2 m1 m2 t1 t2 w) (hN : N ≤ N') (hb : N' ≤ 1000000) (hp : RD w' (Ext G w w') E q n N' m2') (ht : Tab w' H2 83 U E p t2') (hc : Chg (fun b => Al G q b ∨ H2 b) w w') :
    Pr w0 P p n N' pw D q E T U F (Ext G w w') H1 H2 m1 m2' t1 t2' w' ∧ w'.heap[P]? = w.heap[P]? ∧ Kp w (Us F pw G q H1 H2) w' (Us F pw (Ext G w w') q H1 H2) := by
  refine ⟨⟨(h.pd.kept hc (fun b x y => y.elim (fun z => h.ap.d12 x z) (fun z => h.ap.d14 x z))).more hN hb, hp, h.tb1.kept hc (fun b x y => y.elim (fun z => h.ap.d23 z x) (fun z => h.ap.d34 x z)), ht, ?_, h.bel_of hc (fun b x => x.elim (fun y => .inr (.inl y)) (fun y => .inr (.inr (.inr (.inl y)))))⟩, hc.block P h.lt.1 (fun x => x.elim h.ap.p2 h.ap.p4), Kp.of_chg hc (fun b x => x.elim (fun y => .inr (.inl y)) (fun y => .inr (.inr (.inr y)))) (fun b x => ?_)⟩
  rotate_left
  · rcases x with x | x | x
    · exact .inl (.inl x)
    · exact x.elim (fun y => y.elim (fun z => .inl (.inr (.inl (.inl z)))) (fun z => .inr z.1)) (fun y => .inl (.inr (.inl (.inr y))))
    · exact .inl (.inr (.inr x))
  exact h.ap.turn (fun _ => 2) hc.size h.bel.size _ _ _ _ (fun b x => .inl x) (fun b x => x.elim (fun y => y.elim (fun z => .inl (.inl z)) (fun z => .inr ⟨rfl, z⟩)) (fun y => .inl (.inr y))) (fun b x => .inl x) (fun b x => .inl x)
/-- the document's -/
theorem Pr.doc (h : Pr w0 P p n N pw D q E T U F G H1 H2 m1 m2 t1 t2 w) (hN : N ≤ N') (hb : N' ≤ 1000000) (hp : RD w' (Ext G w w') E q n N' m2') (hc : Chg (Al G q) w w') :
    Pr w0 P p n N' pw D q E T U F (Ext G w w') H1 H2 m1 m2' t1 t2 w' ∧ w'.heap[P]? = w.heap[P]? ∧ Kp w (Us F pw G q H1 H2) w' (Us F pw (Ext G w w') q H1 H2) := by
  refine ⟨⟨(h.pd.kept hc (fun b x y => h.ap.d12 x y)).more hN hb, hp, h.tb1.kept hc (fun b x y => h.ap.d23 y x), h.tb2.kept hc (fun b x y => h.ap.d24 y x), ?_, h.bel_of hc (fun b x => .inr (.inl x))⟩, hc.block P h.lt.1 h.ap.p2, Kp.of_chg hc (fun b x => .inr (.inl x)) (fun b x => ?_)⟩
  rotate_left
  · rcases x with x | x | x
    · exact .inl (.inl x)
    · exact x.elim (fun y => y.elim (fun z => .inl (.inr (.inl (.inl z)))) (fun z => .inr z.1)) (fun y => .inl (.inr (.inl (.inr y))))
    · exact .inl (.inr (.inr x))
  exact h.ap.turn (fun _ => 2) hc.size h.bel.size _ _ _ _ (fun b x => .inl x) (fun b x => x.elim (fun y => y.elim (fun z => .inl (.inl z)) (fun z => .inr ⟨rfl, z⟩)) (fun y => .inl (.inr y))) (fun b x => .inl x) (fun b x => .inl x)
end
end Go.Proofs.YtikbbikcacoobaaGreatDoor.Pd.Iv

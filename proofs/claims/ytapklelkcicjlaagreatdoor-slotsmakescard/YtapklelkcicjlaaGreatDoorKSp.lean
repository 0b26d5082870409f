/-
  Elder texts, one behind the other: SlPair, SlPairDo, SlRopen, SlPairOpen. No conditions.
-/
import Derived.Test.YtapklelkcicjlaaGreatDoorKSa
import Derived.Test.YtapklelkcicjlaaGreatDoorKHg
import Derived.Test.YtapklelkcicjlaaGreatDoorKSb
import Derived.Test.YtapklelkcicjlaaGreatDoorKSe
import Derived.Test.YtapklelkcicjlaaGreatDoorKSd
import Derived.Test.YtapklelkcicjlaaGreatDoorKSc
import Derived.Deep.RegionHeld
import Derived.Deep.DrawnRows
import Derived.Deep.CutRange
import Derived.Deep.CutBlock
import Derived.OwnWalk
/-! A device with slots, and the document's: what the laws' pair is, and stays. No conditions. -/
namespace Go.Proofs.YtapklelkcicjlaaGreatDoor.Pd.Sl
set_option maxRecDepth 100000
open Go.RowKit Oc Dm W Dw Sr W.Hd
set_option linter.unusedVariables false
set_option maxRecDepth 100000

def PCs (p : Pn.Pl) (pw D q E : Nat) (T U : Option Addr) : Array Value := #[.int .i64 p.a0, .int .i64 p.a1, .int .i64 p.a2, .int .i64 p.a3, .int .i64 p.a4, .int .i64 p.a5, .int .i64 p.a6, .int .i64 p.a7, .int .i64 p.a8, .int .i64 p.a9, .int .i64 p.a10, .int .i64 p.a11, .int .i64 p.a12, .int .i64 p.a0, .int .i64 p.a1, .int .i64 p.a2, .int .i64 p.a3, .int .i64 p.a4, .int .i64 p.a5, .int .i64 p.a6, .int .i64 p.a7, .int .i64 p.a8, .int .i64 p.a9, .int .i64 p.a10, .int .i64 p.a11, .int .i64 p.a12, .pointer (some ⟨pw, 0, none⟩), .pointer (some ⟨D, 0, none⟩), .pointer T, .pointer (some ⟨q, 0, none⟩), .pointer (some ⟨E, 0, none⟩), .pointer U]
/-- blocks apart -/
structure Ap (B S : Nat) (P : Nat) (A1 A2 A3 A4 : Nat → Prop) : Prop where
  col : ∃ o : Nat → Nat, (∀ b, A1 b → o b = 1) ∧ (∀ b, A2 b → o b = 2) ∧ (∀ b, A3 b → o b = 3) ∧ (∀ b, A4 b → o b = 4) ∧ o P = 5
  lo : ∀ b, (A1 b ∨ A2 b ∨ A3 b ∨ A4 b ∨ b = P) → B ≤ b ∧ b < S
section
variable {B S S' P : Nat} {A1 A2 A3 A4 A' : Nat → Prop}
theorem Ap.turn (h : Ap B S P A1 A2 A3 A4) (c : Nat → Nat) (hS : S ≤ S') (hB : B ≤ S) (f1 f2 f3 f4 : Nat → Prop)
    (h1 : ∀ b, f1 b → A1 b ∨ (c b = 1 ∧ S ≤ b ∧ b < S')) (h2 : ∀ b, f2 b → A2 b ∨ (c b = 2 ∧ S ≤ b ∧ b < S')) (h3 : ∀ b, f3 b → A3 b ∨ (c b = 3 ∧ S ≤ b ∧ b < S')) (h4 : ∀ b, f4 b → A4 b ∨ (c b = 4 ∧ S ≤ b ∧ b < S')) : Ap B S' P f1 f2 f3 f4 := by
  obtain ⟨o, o1, o2, o3, o4, o5⟩ := h.col
  have hP := h.lo P (.inr (.inr (.inr (.inr rfl))))
  have old : ∀ b, b < S → (if S ≤ b then c b else o b) = o b := fun b hb => if_neg (by omega)
  refine ⟨⟨fun b => if S ≤ b then c b else o b, fun b x => ?_, fun b x => ?_, fun b x => ?_, fun b x => ?_, (old P hP.2).trans o5⟩, fun b x => ?_⟩
  · rcases h1 b x with y | ⟨e, y, _⟩
    · exact (old b (h.lo b (.inl y)).2).trans (o1 b y)
    · exact (if_pos y).trans e
  · rcases h2 b x with y | ⟨e, y, _⟩
    · exact (old b (h.lo b (.inr (.inl y))).2).trans (o2 b y)
    · exact (if_pos y).trans e
  · rcases h3 b x with y | ⟨e, y, _⟩
    · exact (old b (h.lo b (.inr (.inr (.inl y)))).2).trans (o3 b y)
    · exact (if_pos y).trans e
  · rcases h4 b x with y | ⟨e, y, _⟩
    · exact (old b (h.lo b (.inr (.inr (.inr (.inl y))))).2).trans (o4 b y)
    · exact (if_pos y).trans e
  · have new : S ≤ b ∧ b < S' → B ≤ b ∧ b < S' := fun y => ⟨Nat.le_trans hB y.1, y.2⟩
    have up : B ≤ b ∧ b < S → B ≤ b ∧ b < S' := fun y => ⟨y.1, Nat.lt_of_lt_of_le y.2 hS⟩
    rcases x with x | x | x | x | x
    · exact (h1 b x).elim (fun y => up (h.lo b (.inl y))) (fun y => new y.2)
    · exact (h2 b x).elim (fun y => up (h.lo b (.inr (.inl y)))) (fun y => new y.2)
    · exact (h3 b x).elim (fun y => up (h.lo b (.inr (.inr (.inl y))))) (fun y => new y.2)
    · exact (h4 b x).elim (fun y => up (h.lo b (.inr (.inr (.inr (.inl y)))))) (fun y => new y.2)
    · exact up (h.lo b (.inr (.inr (.inr (.inr x)))))
theorem Ap.d12 (h : Ap B S P A1 A2 A3 A4) {b : Nat} : A1 b → ¬ A2 b := fun x y => by obtain ⟨o, o1, o2, _⟩ := h.col; have := o1 b x; have := o2 b y; omega
theorem Ap.d13 (h : Ap B S P A1 A2 A3 A4) {b : Nat} : A1 b → ¬ A3 b := fun x y => by obtain ⟨o, o1, o2, o3, _⟩ := h.col; have := o1 b x; have := o3 b y; omega
theorem Ap.d14 (h : Ap B S P A1 A2 A3 A4) {b : Nat} : A1 b → ¬ A4 b := fun x y => by obtain ⟨o, o1, o2, o3, o4, _⟩ := h.col; have := o1 b x; have := o4 b y; omega
theorem Ap.d23 (h : Ap B S P A1 A2 A3 A4) {b : Nat} : A2 b → ¬ A3 b := fun x y => by obtain ⟨o, o1, o2, o3, _⟩ := h.col; have := o2 b x; have := o3 b y; omega
theorem Ap.d24 (h : Ap B S P A1 A2 A3 A4) {b : Nat} : A2 b → ¬ A4 b := fun x y => by obtain ⟨o, o1, o2, o3, o4, _⟩ := h.col; have := o2 b x; have := o4 b y; omega
theorem Ap.d34 (h : Ap B S P A1 A2 A3 A4) {b : Nat} : A3 b → ¬ A4 b := fun x y => by obtain ⟨o, o1, o2, o3, o4, _⟩ := h.col; have := o3 b x; have := o4 b y; omega
theorem Ap.p1 (h : Ap B S P A1 A2 A3 A4) : ¬ A1 P := fun x => by obtain ⟨o, o1, o2, o3, o4, o5⟩ := h.col; have := o1 P x; omega
theorem Ap.p2 (h : Ap B S P A1 A2 A3 A4) : ¬ A2 P := fun x => by obtain ⟨o, o1, o2, o3, o4, o5⟩ := h.col; have := o2 P x; omega
theorem Ap.p3 (h : Ap B S P A1 A2 A3 A4) : ¬ A3 P := fun x => by obtain ⟨o, o1, o2, o3, o4, o5⟩ := h.col; have := o3 P x; omega
theorem Ap.p4 (h : Ap B S P A1 A2 A3 A4) : ¬ A4 P := fun x => by obtain ⟨o, o1, o2, o3, o4, o5⟩ := h.col; have := o4 P x; omega
end
/-- A PAIR at P, but for what P's own block holds -/
structure Pr (w0 : World) (P : Nat) (p : Pn.Pl) (n N : Nat) (pw D q E : Nat) (T U : Option Addr) (F G H1 H2 : Nat → Prop) (m1 m2 : Vs) (t1 t2 : Option (List Slt)) (w : World) : Prop where
  pd : PD w F D pw n N m1
  rd : RD w G E q n N m2
  tb1 : Tab1 w H1 T D p t1
  tb2 : Tab2 w H2 U E p t2
  ap : Ap w0.heap.size w.heap.size P (Al F pw) (Al G q) H1 H2
  bel : Below w0.heap.size w0 w
/-- all blocks of a pair, but for its own -/
def Us (F : Nat → Prop) (pw : Nat) (G : Nat → Prop) (q : Nat) (H1 H2 : Nat → Prop) (b : Nat) : Prop := Al F pw b ∨ Al G q b ∨ H1 b ∨ H2 b
/-- what was none of Z's stays as it was, and is none of Z''s -/
structure Kp (w : World) (Z : Nat → Prop) (w' : World) (Z' : Nat → Prop) : Prop where
  size : w.heap.size ≤ w'.heap.size
  at_ : ∀ b, b < w.heap.size → ¬ Z b → w'.heap[b]? = w.heap[b]? ∧ ¬ Z' b
theorem Kp.refl (w : World) (Z : Nat → Prop) : Kp w Z w Z := ⟨Nat.le_refl _, fun b _ h => ⟨rfl, h⟩⟩
theorem Kp.trans {a b c : World} {X Y Z : Nat → Prop} (h : Kp a X b Y) (k : Kp b Y c Z) : Kp a X c Z :=
  ⟨Nat.le_trans h.size k.size, fun i hi x => by obtain ⟨h1, h2⟩ := h.at_ i hi x; obtain ⟨k1, k2⟩ := k.at_ i (Nat.lt_of_lt_of_le hi h.size) h2; exact ⟨k1.trans h1, k2⟩⟩
theorem Kp.of_below {w w' : World} (h : Below w.heap.size w w') (Z : Nat → Prop) : Kp w Z w' Z := ⟨h.size, fun b hb x => ⟨h.block b hb, x⟩⟩
theorem Kp.of_chg {w w' : World} {A Z Z' : Nat → Prop} (h : Chg A w w') (hA : ∀ b, A b → Z b) (hZ : ∀ b, Z' b → Z b ∨ w.heap.size ≤ b) : Kp w Z w' Z' :=
  ⟨h.size, fun b hb x => ⟨h.block b hb (fun y => x (hA b y)), fun y => (hZ b y).elim x (fun z => by omega)⟩⟩
/-- the pair's own block may turn too -/
def Kp' (w : World) (P : Nat) (Z : Nat → Prop) (w' : World) (Z' : Nat → Prop) : Prop := Kp w (fun b => Z b ∨ b = P) w' (fun b => Z' b ∨ b = P)
theorem Kp.but {w w' : World} {Z Z' : Nat → Prop} (h : Kp w Z w' Z') (P : Nat) : Kp' w P Z w' Z' :=
  ⟨h.size, fun b hb x => by obtain ⟨h1, h2⟩ := h.at_ b hb (fun y => x (.inl y)); exact ⟨h1, fun y => y.elim h2 (fun z => x (.inr z))⟩⟩
theorem Kp'.cell {w w' : World} {P : Nat} {Z Z' : Nat → Prop} (h : Kp' w P Z w' Z') (j : Nat) (v : Value) : Kp' w P Z (w'.setCell ⟨P, j, none⟩ v) Z' :=
  ⟨Nat.le_trans h.size (by simp [World.setCell]), fun b hb x => by obtain ⟨h1, h2⟩ := h.at_ b hb x; exact ⟨(heap_setCell_other _ _ _ _ (fun e => x (.inr e))).trans h1, h2⟩⟩
theorem Kp'.cell2 {w w' : World} {P : Nat} {Z Z' : Nat → Prop} (h : Kp' w P Z w' Z') (j : Nat) (v : Value) (i : Nat) (u : Value) : Kp' w P Z ((w'.setCell ⟨P, j, none⟩ v).setCell ⟨P, i, none⟩ u) Z' := (h.cell j v).cell i u
theorem Kp'.trans {a b c : World} {P : Nat} {X Y Z : Nat → Prop} (h : Kp' a P X b Y) (k : Kp' b P Y c Z) : Kp' a P X c Z := Kp.trans h k
theorem Kp'.refl (w : World) (P : Nat) (Z : Nat → Prop) : Kp' w P Z w Z := Kp.refl _ _
theorem Kp'.of_below {w w' : World} (h : Below w.heap.size w w') (P : Nat) (Z : Nat → Prop) : Kp' w P Z w' Z := Kp.of_below h _
def PHead (w : World) (P : Nat) (p : Pn.Pl) (pw D q E : Nat) (T U : Option Addr) : Prop := w.heap[P]? = some (.cells (PCs p pw D q E T U) 53 (0, 0))
section
variable {w0 w w' : World} {P n N N' pw D q E pw' D' q' E' : Nat} {p : Pn.Pl} {T U T' U' : Option Addr} {F G H1 H2 F' G' H1' H2' A : Nat → Prop} {m1 m2 m1' m2' : Vs} {t1 t2 t1' t2' : Option (List Slt)}
theorem PHead.cell (h : PHead w P p pw D q E T U) (j : Nat) : w.cell? ⟨P, j, none⟩ = (PCs p pw D q E T U)[j]? ∧ w.frozen? ⟨P, j, none⟩ = false := ⟨cell_of_row _ _ j _ _ _ h, frozen_of_row w P j _ _ h⟩
theorem PHead.of (h : PHead w P p pw D q E T U) (e : w'.heap[P]? = w.heap[P]?) : PHead w' P p pw D q E T U := e.trans h
theorem PHead.below (h : PHead w P p pw D q E T U) (hb : Below w.heap.size w w') : PHead w' P p pw D q E T U := kept_below h hb
theorem Pr.lt (h : Pr w0 P p n N pw D q E T U F G H1 H2 m1 m2 t1 t2 w) : P < w.heap.size ∧ w0.heap.size ≤ P := ⟨(h.ap.lo P (.inr (.inr (.inr (.inr rfl))))).2, (h.ap.lo P (.inr (.inr (.inr (.inr rfl))))).1⟩
/-- what changes apart from what all sets hold -/
theorem Pr.bel_of (h : Pr w0 P p n N pw D q E T U F G H1 H2 m1 m2 t1 t2 w) (hc : Chg A w w') (hA : ∀ b, A b → Al F pw b ∨ Al G q b ∨ H1 b ∨ H2 b ∨ b = P) : Below w0.heap.size w0 w' :=
  h.bel.trans (hc.below h.bel.size (fun b hb x => by have := (h.ap.lo b (hA b x)).1; omega))
theorem Pr.below (h : Pr w0 P p n N pw D q E T U F G H1 H2 m1 m2 t1 t2 w) (hb : Below w.heap.size w w') : Pr w0 P p n N pw D q E T U F G H1 H2 m1 m2 t1 t2 w' :=
  have hc : Chg (fun _ => False) w w' := Chg.of_below hb
  ⟨h.pd.below hb, h.rd.below hb, h.tb1.kept hc (fun _ _ x => x), h.tb2.kept hc (fun _ _ x => x), h.ap.turn (fun _ => 0) hb.size h.bel.size _ _ _ _ (fun b x => .inl x) (fun b x => .inl x) (fun b x => .inl x) (fun b x => .inl x), h.bel_of hc (fun _ x => x.elim)⟩
theorem Pr.more (h : Pr w0 P p n N pw D q E T U F G H1 H2 m1 m2 t1 t2 w) (hN : N ≤ N') (hb : N' ≤ 1000000) : Pr w0 P p n N' pw D q E T U F G H1 H2 m1 m2 t1 t2 w :=
  ⟨h.pd.more hN hb, h.rd.more hN hb, h.tb1, h.tb2, h.ap, h.bel⟩
theorem Pr.us (h : Pr w0 P p n N pw D q E T U F G H1 H2 m1 m2 t1 t2 w) : ¬ Us F pw G q H1 H2 P := fun x => by
  rcases x with x | x | x | x
  · exact h.ap.p1 x
  · exact h.ap.p2 x
  · exact h.ap.p3 x
  · exact h.ap.p4 x
theorem Pr.ubound (h : Pr w0 P p n N pw D q E T U F G H1 H2 m1 m2 t1 t2 w) {b : Nat} (hb : Us F pw G q H1 H2 b) : w0.heap.size ≤ b ∧ b < w.heap.size := by
  rcases hb with x | x | x | x
  · exact h.ap.lo b (.inl x)
  · exact h.ap.lo b (.inr (.inl x))
  · exact h.ap.lo b (.inr (.inr (.inl x)))
  · exact h.ap.lo b (.inr (.inr (.inr (.inl x))))
/-- P's own block is stored to -/
theorem Pr.store (h : Pr w0 P p n N pw D q E T U F G H1 H2 m1 m2 t1 t2 w) (j : Nat) (v : Value) : Pr w0 P p n N pw D q E T U F G H1 H2 m1 m2 t1 t2 (w.setCell ⟨P, j, none⟩ v) := by
  have hc : Chg (fun b => b = P) w (w.setCell ⟨P, j, none⟩ v) := Chg.of_grown (grown_set w P j v) (fun k e _ => by injection e with e; exact e.symm)
  have hs : (w.setCell ⟨P, j, none⟩ v).heap.size = w.heap.size := by simp [World.setCell]
  exact ⟨h.pd.kept hc (fun b x e => h.ap.p1 (e ▸ x)), h.rd.kept hc (fun b x e => h.ap.p2 (e ▸ x)), h.tb1.kept hc (fun b x e => h.ap.p3 (e ▸ x)), h.tb2.kept hc (fun b x e => h.ap.p4 (e ▸ x)), by rw [hs]; exact h.ap, h.bel_of hc (fun b x => .inr (.inr (.inr (.inr x))))⟩
/-- the program's device has done something, its log too -/
theorem Pr.prog (h : Pr w0 P p n N pw D q E T U F G H1 H2 m1 m2 t1 t2 w) (hN : N ≤ N') (hb : N' ≤ 1000000) (hp : PD w' (Ext F w w') D pw n N' m1') (ht : Tab1 w' H1 T D p t1') (hc : Chg (fun b => Al F pw b ∨ H1 b) w w') :
    Pr w0 P p n N' pw D q E T U (Ext F w w') G H1 H2 m1' m2 t1' t2 w' ∧ w'.heap[P]? = w.heap[P]? ∧ Kp w (Us F pw G q H1 H2) w' (Us (Ext F w w') pw G q H1 H2) := by
  refine ⟨⟨hp, (h.rd.kept hc (fun b x y => y.elim (fun z => h.ap.d12 z x) (fun z => h.ap.d23 x z))).more hN hb, ht, h.tb2.kept hc (fun b x y => y.elim (fun z => h.ap.d14 z x) (fun z => h.ap.d34 z x)), ?_, h.bel_of hc (fun b x => x.elim .inl (fun y => .inr (.inr (.inl y))))⟩, hc.block P h.lt.1 (fun x => x.elim h.ap.p1 h.ap.p3), Kp.of_chg hc (fun b x => x.elim .inl (fun y => .inr (.inr (.inl y)))) (fun b x => ?_)⟩
  rotate_left
  · rcases x with x | x
    · exact x.elim (fun y => y.elim (fun z => .inl (.inl (.inl z))) (fun z => .inr z.1)) (fun y => .inl (.inl (.inr y)))
    · exact .inl (.inr x)
  exact h.ap.turn (fun _ => 1) hc.size h.bel.size _ _ _ _ (fun b x => x.elim (fun y => y.elim (fun z => .inl (.inl z)) (fun z => .inr ⟨rfl, z⟩)) (fun y => .inl (.inr y))) (fun b x => .inl x) (fun b x => .inl x) (fun b x => .inl x)
theorem Pr.prog0 (h : Pr w0 P p n N pw D q E T U F G H1 H2 m1 m2 t1 t2 w) (hN : N ≤ N') (hb : N' ≤ 1000000) (hp : PD w' (Ext F w w') D pw n N' m1') (hc : Chg (Al F pw) w w') :
    Pr w0 P p n N' pw D q E T U (Ext F w w') G H1 H2 m1' m2 t1 t2 w' ∧ w'.heap[P]? = w.heap[P]? ∧ Kp w (Us F pw G q H1 H2) w' (Us (Ext F w w') pw G q H1 H2) :=
  h.prog hN hb hp (h.tb1.kept hc (fun b x y => h.ap.d13 y x)) (hc.mono (fun _ _ x => .inl x))
/-- the document's device has done something, its log too -/
theorem Pr.doc_t (h : Pr w0 P p n N pw D q E T U F G H1 H2 m1 m2 t1 t2 w) (hN : N ≤ N') (hb : N' ≤ 1000000) (hp : RD w' (Ext G w w') E q n N' m2') (ht : Tab2 w' H2 U E p t2') (hc : Chg (fun b => Al G q b ∨ H2 b) w w') :
    Pr w0 P p n N' pw D q E T U F (Ext G w w') H1 H2 m1 m2' t1 t2' w' ∧ w'.heap[P]? = w.heap[P]? ∧ Kp w (Us F pw G q H1 H2) w' (Us F pw (Ext G w w') q H1 H2) := by
  refine ⟨⟨(h.pd.kept hc (fun b x y => y.elim (fun z => h.ap.d12 x z) (fun z => h.ap.d14 x z))).more hN hb, hp, h.tb1.kept hc (fun b x y => y.elim (fun z => h.ap.d23 z x) (fun z => h.ap.d34 x z)), ht, ?_, h.bel_of hc (fun b x => x.elim (fun y => .inr (.inl y)) (fun y => .inr (.inr (.inr (.inl y)))))⟩, hc.block P h.lt.1 (fun x => x.elim h.ap.p2 h.ap.p4), Kp.of_chg hc (fun b x => x.elim (fun y => .inr (.inl y)) (fun y => .inr (.inr (.inr y)))) (fun b x => ?_)⟩
  rotate_left
  · rcases x with x | x | x
    · exact .inl (.inl x)
    · exact x.elim (fun y => y.elim (fun z => .inl (.inr (.inl (.inl z)))) (fun z => .inr z.1)) (fun y => .inl (.inr (.inl (.inr y))))
    · exact .inl (.inr (.inr x))
  exact h.ap.turn (fun _ => 2) hc.size h.bel.size _ _ _ _ (fun b x => .inl x) (fun b x => x.elim (fun y => y.elim (fun z => .inl (.inl z)) (fun z => .inr ⟨rfl, z⟩)) (fun y => .inl (.inr y))) (fun b x => .inl x) (fun b x => .inl x)
/-- the document's -/
theorem Pr.doc (h : Pr w0 P p n N pw D q E T U F G H1 H2 m1 m2 t1 t2 w) (hN : N ≤ N') (hb : N' ≤ 1000000) (hp : RD w' (Ext G w w') E q n N' m2') (hc : Chg (Al G q) w w') :
    Pr w0 P p n N' pw D q E T U F (Ext G w w') H1 H2 m1 m2' t1 t2 w' ∧ w'.heap[P]? = w.heap[P]? ∧ Kp w (Us F pw G q H1 H2) w' (Us F pw (Ext G w w') q H1 H2) := by
  refine ⟨⟨(h.pd.kept hc (fun b x y => h.ap.d12 x y)).more hN hb, hp, h.tb1.kept hc (fun b x y => h.ap.d23 y x), h.tb2.kept hc (fun b x y => h.ap.d24 y x), ?_, h.bel_of hc (fun b x => .inr (.inl x))⟩, hc.block P h.lt.1 h.ap.p2, Kp.of_chg hc (fun b x => .inr (.inl x)) (fun b x => ?_)⟩
  rotate_left
  · rcases x with x | x | x
    · exact .inl (.inl x)
    · exact x.elim (fun y => y.elim (fun z => .inl (.inr (.inl (.inl z)))) (fun z => .inr z.1)) (fun y => .inl (.inr (.inl (.inr y))))
    · exact .inl (.inr (.inr x))
  exact h.ap.turn (fun _ => 2) hc.size h.bel.size _ _ _ _ (fun b x => .inl x) (fun b x => x.elim (fun y => y.elim (fun z => .inl (.inl z)) (fun z => .inr ⟨rfl, z⟩)) (fun y => .inl (.inr y))) (fun b x => .inl x) (fun b x => .inl x)
end
end Go.Proofs.YtapklelkcicjlaaGreatDoor.Pd.Sl

/-! What a pair is asked to do: fills, reads, frees, faults, failures, fuses, writes, flushes, turned bits. No conditions. -/
namespace Go.Proofs.YtapklelkcicjlaaGreatDoor.Pd.Sl
set_option maxRecDepth 100000
open Go.RowKit Oc Dm W Dw Sr W.Hd
set_option linter.unusedVariables false
set_option maxRecDepth 100000
section
variable {w0 w w' : World} {P n N N' pw D q E la ns : Nat} {p : Pn.Pl} {T U : Option Addr} {F G H1 H2 : Nat → Prop} {m m1 m2 : Vs} {t1 t2 : Option (List Slt)} {L : List Slt} {k c l : Nat} {A : Option Addr} {xs : List UInt8} {R : Option Nat}
theorem Pr.envh (h : Pr w0 P p n N pw D q E T U F G H1 H2 m1 m2 t1 t2 w) (he : EnvH w0) : EnvH w ∧ ∀ b, (w0.heap.size ≤ b) → 1 < b ∧ 0 < b := by
  refine ⟨he.below h.bel, fun b x => ?_⟩
  obtain ⟨⟨t, fr, hh⟩, t2, fr2, hh2⟩ := he
  have := lt_of_heap hh
  have := lt_of_heap hh2
  omega
theorem Pr.ebl (h : Pr w0 P p n N pw D q E T U F G H1 H2 m1 m2 t1 t2 w) (he : EnvH w0) (g : Nat) (hg : w0.heap.size ≤ g) : EBl w F pw g :=
  ⟨(h.envh he).1, fun b x => (h.envh he).2 b (x.elim (fun y => (h.ap.lo b (.inl y)).1) (fun e => e ▸ hg))⟩
theorem pd_same (h : Pr w0 P p n N pw D q E T U F G H1 H2 m1 m2 t1 t2 w) (hg : w.grownBy w' R) (hR : ∀ b, R = some b → ¬ Al F pw b) : PD w' (Ext F w w') D pw n N m1 := by
  have hk := h.pd.kept (G := fun k => some k = R) (Chg.of_grown hg (fun k e _ => e.symm)) (fun k x e => hR k e.symm x)
  exact hk.wide (fun _ x => .inl x) (ext_bound (fun k x => h.pd.bound k (.inl x)) hg.size) (ext_np (w1 := w) h.pd rfl)
theorem rd_same (h : Pr w0 P p n N pw D q E T U F G H1 H2 m1 m2 t1 t2 w) (hg : w.grownBy w' R) (hR : ∀ b, R = some b → ¬ Al G q b) : RD w' (Ext G w w') E q n N m2 := by
  have hk := h.rd.kept (F := fun k => some k = R) (Chg.of_grown hg (fun k e _ => e.symm)) (fun k x e => hR k e.symm x)
  exact hk.wide (fun _ x => .inl x) (ext_bound (fun k x => h.rd.bound k (.inl x)) hg.size) h.rd.enq
theorem turn1 (h : Pr w0 P p n N pw D q E T U F G H1 H2 m1 m2 t1 t2 w) {t : Nat} (ht : H1 t) (hg : w.grownBy w' (some t)) {t1' : Option (List Slt)} (ht2 : Tab1 w' H1 T D p t1') :
    Pr w0 P p n N pw D q E T U (Ext F w w') G H1 H2 m1 m2 t1' t2 w' ∧ w'.heap[P]? = w.heap[P]? ∧ Kp w (Us F pw G q H1 H2) w' (Us (Ext F w w') pw G q H1 H2) :=
  h.prog (Nat.le_refl _) h.pd.hN (pd_same h hg (fun b e x => by injection e with e; subst e; exact h.ap.d13 x ht)) ht2 (Chg.of_grown hg (fun k e _ => by injection e with e; subst e; exact .inr ht))
theorem turn2 (h : Pr w0 P p n N pw D q E T U F G H1 H2 m1 m2 t1 t2 w) {t : Nat} (ht : H2 t) (hg : w.grownBy w' (some t)) {t2' : Option (List Slt)} (ht2 : Tab2 w' H2 U E p t2') :
    Pr w0 P p n N pw D q E T U F (Ext G w w') H1 H2 m1 m2 t1 t2' w' ∧ w'.heap[P]? = w.heap[P]? ∧ Kp w (Us F pw G q H1 H2) w' (Us F pw (Ext G w w') q H1 H2) :=
  h.doc_t (Nat.le_refl _) h.pd.hN (rd_same h hg (fun b e x => by injection e with e; subst e; exact h.ap.d24 x ht)) ht2 (Chg.of_grown hg (fun k e _ => by injection e with e; subst e; exact .inr ht))
theorem same1 (h : Pr w0 P p n N pw D q E T U F G H1 H2 m1 m2 t1 t2 w) : Pr w0 P p n N pw D q E T U (Ext F w w) G H1 H2 m1 m2 t1 t2 w ∧ w.heap[P]? = w.heap[P]? ∧ Kp w (Us F pw G q H1 H2) w (Us (Ext F w w) pw G q H1 H2) :=
  h.prog0 (Nat.le_refl _) h.pd.hN (pd_same h (World.grownBy.refl w none) (fun b e => by cases e)) (Chg.refl _ _)
theorem same2 (h : Pr w0 P p n N pw D q E T U F G H1 H2 m1 m2 t1 t2 w) : Pr w0 P p n N pw D q E T U F (Ext G w w) H1 H2 m1 m2 t1 t2 w ∧ w.heap[P]? = w.heap[P]? ∧ Kp w (Us F pw G q H1 H2) w (Us F pw (Ext G w w) q H1 H2) :=
  h.doc (Nat.le_refl _) h.pd.hN (rd_same h (World.grownBy.refl w none) (fun b e => by cases e)) (Chg.refl _ _)
theorem Pr.fail (h : Pr w0 P p n N pw D q E T U F G H1 H2 m1 m2 t1 t2 w) (u v : Nat) (hu : u < 18446744073709551616) (hv : v < 18446744073709551616) :
    Calls Tryz.prog 46 #[.pointer (some ⟨D, 0, none⟩), .int .u64 (u : Int), .int .u64 (v : Int)] w fun e w' => e = .returned (.tuple #[]) ∧ Pr w0 P p n N pw D q E T U (Ext F w w') G H1 H2 { m1 with rd := u, wr := v } m2 t1 t2 w' ∧ w'.heap[P]? = w.heap[P]? ∧ Kp w (Us F pw G q H1 H2) w' (Us (Ext F w w') pw G q H1 H2) := by
  obtain ⟨fx, a, b, g, x⟩ := h.pd.dv
  refine (fail_any x u v hu hv).mono fun e w' ⟨e1, e2, e3⟩ => ⟨e1, h.prog0 (Nat.le_refl _) h.pd.hN ?_ (e3.mono (fun _ _ y => .inl y))⟩
  exact ⟨h.pd.pw.heap (e3.block pw h.pd.pw.lt h.pd.np), e2, ext_np (w1 := w) h.pd rfl, h.pd.hs, h.pd.hN⟩
theorem Pr.rfail (h : Pr w0 P p n N pw D q E T U F G H1 H2 m1 m2 t1 t2 w) (u v : Nat) (hu : u < 18446744073709551616) (hv : v < 18446744073709551616) :
    ∃ G', Pr w0 P p n N pw D q E T U F G' H1 H2 m1 { m2 with rd := u, wr := v } t1 t2 ((w.setCell ⟨E, 2, none⟩ (.int .u64 (u : Int))).setCell ⟨E, 3, none⟩ (.int .u64 (v : Int))) ∧ ((w.setCell ⟨E, 2, none⟩ (.int .u64 (u : Int))).setCell ⟨E, 3, none⟩ (.int .u64 (v : Int))).heap[P]? = w.heap[P]? ∧ Kp w (Us F pw G q H1 H2) ((w.setCell ⟨E, 2, none⟩ (.int .u64 (u : Int))).setCell ⟨E, 3, none⟩ (.int .u64 (v : Int))) (Us F pw G' q H1 H2) := by
  obtain ⟨gs, vs, x⟩ := h.rd.rv
  have c1 : Chg G w (w.setCell ⟨E, 2, none⟩ (.int .u64 (u : Int))) := Chg.of_grown (grown_set w E 2 _) (fun k e _ => by injection e with e; subst e; exact x.inG.1)
  have c2 : Chg G (w.setCell ⟨E, 2, none⟩ (.int .u64 (u : Int))) ((w.setCell ⟨E, 2, none⟩ (.int .u64 (u : Int))).setCell ⟨E, 3, none⟩ (.int .u64 (v : Int))) := Chg.of_grown (grown_set _ E 3 _) (fun k e _ => by injection e with e; subst e; exact x.inG.1)
  have c3 := c1.trans c2 (fun _ _ y => y)
  have x2 := (x.set2 u hu).set3 v hv
  have r : RD ((w.setCell ⟨E, 2, none⟩ (.int .u64 (u : Int))).setCell ⟨E, 3, none⟩ (.int .u64 (v : Int))) G E q n N { m2 with rd := u, wr := v } :=
    ⟨h.rd.qw.heap (c3.block q h.rd.qw.lt h.rd.nq), ⟨gs, vs, x2⟩, h.rd.nq, h.rd.hf, h.rd.hs, h.rd.hl, h.rd.hN⟩
  exact ⟨_, h.doc (Nat.le_refl _) h.rd.hN (r.up h.rd.qw.lt c3.size) (c3.mono (fun _ _ y => .inl y))⟩
theorem Pr.fuse (h : Pr w0 P p n N pw D q E T U F G H1 H2 m1 m2 t1 t2 w) (z : Int) :
    Calls Tryz.prog 11 #[.pointer (some ⟨pw, 0, none⟩), .int .i64 z] w fun e w' => e = .returned (.int .i64 (PS.fuseE m1.s z)) ∧ Pr w0 P p n N pw D q E T U (Ext F w w') G H1 H2 { m1 with s := PS.fuseS m1.s z } m2 t1 t2 w' ∧ w'.heap[P]? = w.heap[P]? ∧ Kp w (Us F pw G q H1 H2) w' (Us (Ext F w w') pw G q H1 H2) :=
  (fuse_any h.pd.pw z).mono fun e w' ⟨e1, e2, e3, e4⟩ => by
    obtain ⟨k1, k2⟩ := h.pd.pow e2 e3 (Nat.le_refl _) h.pd.hN (by rw [fuseS_done]; exact h.pd.hs)
    exact ⟨e1, h.prog0 (Nat.le_refl _) h.pd.hN k1 k2⟩
theorem Pr.rfuse (h : Pr w0 P p n N pw D q E T U F G H1 H2 m1 m2 t1 t2 w) (z : Int) :
    Calls Tryz.prog 47 #[.pointer (some ⟨q, 0, none⟩), .int .i64 z] w fun e w' => e = .returned (.int .i64 (PS.fuseE m2.s z)) ∧ Pr w0 P p n N pw D q E T U F (Ext G w w') H1 H2 m1 { m2 with s := PS.fuseS m2.s z } t1 t2 w' ∧ w'.heap[P]? = w.heap[P]? ∧ Kp w (Us F pw G q H1 H2) w' (Us F pw (Ext G w w') q H1 H2) :=
  (rfuse_any h.rd.qw z).mono fun e w' ⟨e1, e2, e3, e4⟩ => by
    obtain ⟨k1, k2⟩ := h.rd.pow e2 e3 (Nat.le_refl _) h.rd.hN (by rw [fuseS_done]; exact h.rd.hs) (fuseS_le z h.rd.hf)
    exact ⟨e1, h.doc (Nat.le_refl _) h.rd.hN k1 k2⟩
theorem Pr.flush (h : Pr w0 P p n N pw D q E T U F G H1 H2 m1 m2 t1 t2 w) (hN : N + 1 ≤ 1000000) :
    Calls Tryz.prog 16 #[.pointer (some ⟨D, 0, none⟩)] w fun e w' => e = .returned (.int .i64 (fl1 m1).1) ∧ Pr w0 P p n (N + 1) pw D q E T U (Ext F w w') G H1 H2 (fl1 m1).2 m2 t1 t2 w' ∧ w'.heap[P]? = w.heap[P]? ∧ Kp w (Us F pw G q H1 H2) w' (Us (Ext F w w') pw G q H1 H2) :=
  (h.pd.flush hN).mono fun e w' ⟨e1, e2, e3⟩ => ⟨e1, h.prog0 (Nat.le_succ _) hN e2 e3⟩
theorem Pr.rflush (h : Pr w0 P p n N pw D q E T U F G H1 H2 m1 m2 t1 t2 w) (hN : N + 1 ≤ 1000000) :
    Calls Tryz.prog 45 #[.pointer (some ⟨E, 0, none⟩)] w fun e w' => e = .returned (.int .i64 (fl1 m2).1) ∧ Pr w0 P p n (N + 1) pw D q E T U F (Ext G w w') H1 H2 m1 (fl1 m2).2 t1 t2 w' ∧ w'.heap[P]? = w.heap[P]? ∧ Kp w (Us F pw G q H1 H2) w' (Us F pw (Ext G w w') q H1 H2) := by
  exact (h.rd.flush hN).mono fun e w' ⟨e1, e2, e3⟩ => ⟨e1, h.doc (Nat.le_succ _) hN e2 e3⟩
theorem Pr.write (h : Pr w0 P p n N pw D q E T U F G H1 H2 m1 m2 t1 t2 w) (hN : N + 1 ≤ 1000000) (z : Int) (hx : Oct w A 64 xs) (hA : ∀ b off, A = some ⟨b, off, none⟩ → ¬ Al F pw b) :
    Calls Tryz.prog 51 #[.pointer (some ⟨D, 0, none⟩), .int .i64 z, .slice A 64 c] w fun e w' => e = .returned (.int .i64 (wrz n m1 z xs).1) ∧ Pr w0 P p n (N + 1) pw D q E T U (Ext F w w') G H1 H2 (wrz n m1 z xs).2 m2 t1 t2 w' ∧ w'.heap[P]? = w.heap[P]? ∧ Kp w (Us F pw G q H1 H2) w' (Us (Ext F w w') pw G q H1 H2) :=
  (h.pd.writez hN z hx hA).mono fun e w' ⟨e1, e2, e3⟩ => ⟨e1, h.prog0 (Nat.le_succ _) hN e2 e3⟩
theorem Pr.rwrite {B : ByteArray} (h : Pr w0 P p n N pw D q E T U F G H1 H2 m1 m2 t1 t2 w) (hN : N + 1 ≤ 1000000) (z : Int) (hB : tx xs = .string B) (hl : xs.length = 64) :
    Calls Tryz.prog 52 #[.pointer (some ⟨E, 0, none⟩), .int .i64 z, .string B] w fun e w' => e = .returned (.int .i64 (wrz n m2 z xs).1) ∧ Pr w0 P p n (N + 1) pw D q E T U F (Ext G w w') H1 H2 m1 (wrz n m2 z xs).2 t1 t2 w' ∧ w'.heap[P]? = w.heap[P]? ∧ Kp w (Us F pw G q H1 H2) w' (Us F pw (Ext G w w') q H1 H2) :=
  (h.rd.writez hN z hB hl).mono fun e w' ⟨e1, e2, e3⟩ => ⟨e1, h.doc (Nat.le_succ _) hN e2 e3⟩
theorem Pr.rot (h : Pr w0 P p n N pw D q E T U F G H1 H2 m1 m2 t1 t2 w) (hN : N + 1 ≤ 1000000) (z bit : Int) (Tn : Nat) (hT : Tn < 4294967296) :
    Calls Tryz.prog 22 #[.pointer (some ⟨D, 0, none⟩), .int .i64 z, .int .i64 bit, .int .u32 (Tn : Int)] w fun e w' => e = .returned (.int .i64 (rt1 n m1 z bit Tn).1) ∧ Pr w0 P p n (N + 1) pw D q E T U (Ext F w w') G H1 H2 (rt1 n m1 z bit Tn).2 m2 t1 t2 w' ∧ w'.heap[P]? = w.heap[P]? ∧ Kp w (Us F pw G q H1 H2) w' (Us (Ext F w w') pw G q H1 H2) :=
  (h.pd.rot hN z bit Tn hT).mono fun e w' ⟨e1, e2, e3⟩ => ⟨e1, h.prog0 (Nat.le_succ _) hN e2 e3⟩
theorem Pr.rrot (h : Pr w0 P p n N pw D q E T U F G H1 H2 m1 m2 t1 t2 w) (z bit : Int) (Tn : Nat) (hT : Tn < 4294967296) (hfl : ∀ i, i < n → (m2.S i).fixed.length = 64) :
    Calls Tryz.prog 49 #[.pointer (some ⟨E, 0, none⟩), .int .i64 z, .int .i64 bit, .int .u32 (Tn : Int)] w fun e w' => e = .returned (.int .i64 (rt1 n m2 z bit Tn).1) ∧ Pr w0 P p n N pw D q E T U F (Ext G w w') H1 H2 m1 (rt1 n m2 z bit Tn).2 t1 t2 w' ∧ w'.heap[P]? = w.heap[P]? ∧ Kp w (Us F pw G q H1 H2) w' (Us F pw (Ext G w w') q H1 H2) :=
  (h.rd.rot z bit Tn hT hfl).mono fun e w' ⟨e1, e2, e3⟩ => ⟨e1, h.doc (Nat.le_refl _) h.rd.hN e2 e3⟩
/-! slots' own -/
def small (L : List Slt) (N : Nat) : Prop := ∀ s ∈ L, s.f ≤ N
theorem Pr.fill (h : Pr w0 P p n N pw D q E T U F G H1 H2 m1 m2 (some L) t2 w) (he : EnvH w0) (hp : Pln p la ns n) (hL : L.length = ns) (hN : N + 5 ≤ 1000000) (z b : Int) (gn : Nat) (hl : l ≤ 1000000) (ho : Oct w A l xs) (hA : ∀ b off, 0 < l → A = some ⟨b, off, none⟩ → ¬ Al F pw b ∧ ¬ H1 b) (R : Int × List Slt × Vs) (hR : Sl.fill la z b gn xs L m1 = R) :
    Calls Tryz.prog 12 #[.pointer T, .int .i64 z, .int .i64 b, .int .u64 (gn : Int), .slice A l c] w fun e w' => e = .returned (.int .i64 R.1) ∧ Pr w0 P p n (N + 5) pw D q E T U (Ext F w w') G H1 H2 R.2.2 m2 (some R.2.1) t2 w' ∧ w'.heap[P]? = w.heap[P]? ∧ Kp w (Us F pw G q H1 H2) w' (Us (Ext F w w') pw G q H1 H2) := by
  obtain ⟨t, g, rfl, ht, hg, hl2⟩ := h.tb1
  exact (fill_any h.pd hl2 (fun x => h.ap.d13 x ht) (fun x => h.ap.d13 x hg) (h.ebl he g (h.ap.lo g (.inr (.inr (.inl hg)))).1) hp hL hN z b gn A l c xs hl ho (fun k off h0 e => ⟨(hA k off h0 e).1, fun e2 => (hA k off h0 e).2 (e2 ▸ hg)⟩) R hR).mono fun e w' ⟨e1, e2, e3, e4⟩ =>
    ⟨e1, h.prog (Nat.le_add_right _ _) hN e2 ⟨t, g, rfl, ht, hg, e3⟩ (e4.mono (fun b _ x => x.elim .inl (fun (e : b = g) => .inr (by rw [e]; exact hg))))⟩
theorem Pr.rfill (h : Pr w0 P p n N pw D q E T U F G H1 H2 m1 m2 t1 (some L) w) (hp : Pln p la ns n) (hL : L.length = ns) (hN : N + 5 ≤ 1000000) (z b : Int) (gn : Nat) (hl : l ≤ 1000000) (ho : Oct w A l xs) (hA : ∀ b off, 0 < l → A = some ⟨b, off, none⟩ → ¬ Al G q b ∧ ¬ H2 b) (R : Int × List Slt × Vs) (hR : Sl.fill la z b gn xs L m2 = R) :
    Calls Tryz.prog 38 #[.pointer U, .int .i64 z, .int .i64 b, .int .u64 (gn : Int), .slice A l c] w fun e w' => e = .returned (.int .i64 R.1) ∧ Pr w0 P p n (N + 5) pw D q E T U F (Ext G w w') H1 H2 m1 R.2.2 t1 (some R.2.1) w' ∧ w'.heap[P]? = w.heap[P]? ∧ Kp w (Us F pw G q H1 H2) w' (Us F pw (Ext G w w') q H1 H2) := by
  obtain ⟨t, a, b', rfl, ht, ha, hb, hl2⟩ := h.tb2
  exact (rfill_any (GJ.start h.rd hl2 (fun x => h.ap.d24 x ht) (fun x => h.ap.d24 x ha) (fun x => h.ap.d24 x hb)) hp hL hN z b gn A l c xs hl ho (fun k off h0 e => ⟨(hA k off h0 e).1, fun e2 => (hA k off h0 e).2 (e2 ▸ ha)⟩) R hR).mono fun e w' ⟨e1, e2⟩ =>
    ⟨e1, h.doc_t (Nat.le_add_right _ _) hN e2.rd ⟨t, a, b', rfl, ht, ha, hb, e2.sl⟩ (e2.chg.mono (fun b _ x => x.elim .inl (fun (e : b = a) => .inr (by rw [e]; exact ha))))⟩
theorem Pr.free (h : Pr w0 P p n N pw D q E T U F G H1 H2 m1 m2 (some L) t2 w) (he : EnvH w0) (hp : Pln p la ns n) (hL : L.length = ns) (hN : N + 2 ≤ 1000000) (z : Int) (R : Int × Vs) (hR : Sl.free la z L m1 = R) :
    Calls Tryz.prog 32 #[.pointer T, .int .i64 z] w fun e w' => e = .returned (.int .i64 R.1) ∧ Pr w0 P p n (N + 2) pw D q E T U (Ext F w w') G H1 H2 R.2 m2 (some L) t2 w' ∧ w'.heap[P]? = w.heap[P]? ∧ Kp w (Us F pw G q H1 H2) w' (Us (Ext F w w') pw G q H1 H2) := by
  obtain ⟨t, g, rfl, ht, hg, hl2⟩ := h.tb1
  exact (free_all h.pd hl2 (fun x => h.ap.d13 x ht) (fun x => h.ap.d13 x hg) (h.ebl he g (h.ap.lo g (.inr (.inr (.inl hg)))).1) hp hL hN z R hR).mono fun e w' ⟨e1, e2, e3, e4⟩ =>
    ⟨e1, h.prog (Nat.le_add_right _ _) hN e2 ⟨t, g, rfl, ht, hg, e3⟩ (e4.mono (fun b _ x => x.elim .inl (fun (e : b = g) => .inr (by rw [e]; exact hg))))⟩
theorem Pr.rfree (h : Pr w0 P p n N pw D q E T U F G H1 H2 m1 m2 t1 (some L) w) (hp : Pln p la ns n) (hL : L.length = ns) (hN : N + 2 ≤ 1000000) (z : Int) (R : Int × Vs) (hR : Sl.free la z L m2 = R) :
    Calls Tryz.prog 42 #[.pointer U, .int .i64 z] w fun e w' => e = .returned (.int .i64 R.1) ∧ Pr w0 P p n (N + 2) pw D q E T U F (Ext G w w') H1 H2 m1 R.2 t1 (some L) w' ∧ w'.heap[P]? = w.heap[P]? ∧ Kp w (Us F pw G q H1 H2) w' (Us F pw (Ext G w w') q H1 H2) := by
  obtain ⟨t, a, b', rfl, ht, ha, hb, hl2⟩ := h.tb2
  exact (rfree_any (GJ.start h.rd hl2 (fun x => h.ap.d24 x ht) (fun x => h.ap.d24 x ha) (fun x => h.ap.d24 x hb)) hp hL hN z R hR).mono fun e w' ⟨e1, e2⟩ =>
    ⟨e1, h.doc_t (Nat.le_add_right _ _) hN e2.rd ⟨t, a, b', rfl, ht, ha, hb, e2.sl⟩ (e2.chg.mono (fun b _ x => x.elim .inl (fun (e : b = a) => .inr (by rw [e]; exact ha))))⟩
theorem Pr.read (h : Pr w0 P p n N pw D q E T U F G H1 H2 m1 m2 (some L) t2 w) (he : EnvH w0) (hp : Pln p la ns n) (hL : L.length = ns) (z b : Int) (R : (List UInt8 × Nat × Int) × Vs) (hR : readS la z b L m1 = R) :
    Calls Tryz.prog 24 #[.pointer T, .int .i64 z, .int .i64 b] w fun e w' => (∃ A l c, e = .returned (.tuple #[.slice A l c, .int .u64 (R.1.2.1 : Int), .int .i64 R.1.2.2]) ∧ Oct w' A l R.1.1 ∧ l ≤ c ∧ l ≤ 64 ∧ (∀ b off, 0 < l → A = some ⟨b, off, none⟩ → w.heap.size ≤ b)) ∧ Pr w0 P p n N pw D q E T U F G H1 H2 R.2 m2 (some L) t2 w' ∧ w'.heap[P]? = w.heap[P]? ∧ Kp w (Us F pw G q H1 H2) w' (Us F pw G q H1 H2) := by
  obtain ⟨t, g, rfl, ht, hg, hl2⟩ := h.tb1
  refine (read_any h.pd hl2 (fun x => h.ap.d13 (.inl x) ht) (fun x => h.ap.d13 (.inl x) hg) (h.ebl he g (h.ap.lo g (.inr (.inr (.inl hg)))).1) hp hL z b R hR).mono fun e w' ⟨e1, e2, e3, e5⟩ => ?_
  have hb := e5.block P h.lt.1 (fun x => h.ap.p1 (.inl x))
  refine ⟨e1, ⟨e2, h.rd.kept e5 (fun b x y => h.ap.d12 (.inl y) x), ⟨t, g, rfl, ht, hg, e3⟩, h.tb2.kept e5 (fun b x y => h.ap.d14 (.inl y) x), ?_, h.bel_of e5 (fun b x => .inl (.inl x))⟩, hb, Kp.of_chg e5 (fun b x => .inl (.inl x)) (fun b x => .inl x)⟩
  exact h.ap.turn (fun _ => 0) e5.size h.bel.size _ _ _ _ (fun b x => .inl x) (fun b x => .inl x) (fun b x => .inl x) (fun b x => .inl x)
theorem Pr.rread (h : Pr w0 P p n N pw D q E T U F G H1 H2 m1 m2 t1 (some L) w) (hp : Pln p la ns n) (hL : L.length = ns) (hst : ∀ i, i < n → (m2.S i).stands.length = 64) (z b : Int) (R : (List UInt8 × Nat × Int) × Vs) (hR : readS la z b L m2 = R) :
    Calls Tryz.prog 41 #[.pointer U, .int .i64 z, .int .i64 b] w fun e w' => (∃ B, e = .returned (.tuple #[.string B, .int .u64 (R.1.2.1 : Int), .int .i64 R.1.2.2]) ∧ tx R.1.1 = .string B) ∧ Pr w0 P p n N pw D q E T U F G H1 H2 m1 R.2 t1 (some L) w' ∧ w'.heap[P]? = w.heap[P]? ∧ Kp w (Us F pw G q H1 H2) w' (Us F pw G q H1 H2) := by
  obtain ⟨t, a, b', rfl, ht, ha, hb, hl2⟩ := h.tb2
  refine (rread_any h.rd hl2 (fun x => h.ap.d24 (.inl x) ht) (fun x => h.ap.d24 (.inl x) ha) (fun x => h.ap.d24 (.inl x) hb) hp hL hst z b R hR).mono fun e w' ⟨e1, e2, e3, e5⟩ => ?_
  have hb2 := e5.block P h.lt.1 (fun x => h.ap.p2 (.inl x))
  refine ⟨e1, ⟨h.pd.kept e5 (fun b x y => h.ap.d12 x (.inl y)), e2, h.tb1.kept e5 (fun b x y => h.ap.d23 (.inl y) x), ⟨t, a, b', rfl, ht, ha, hb, e3⟩, ?_, h.bel_of e5 (fun b x => .inr (.inl (.inl x)))⟩, hb2, Kp.of_chg e5 (fun b x => .inr (.inl (.inl x))) (fun b x => .inl x)⟩
  exact h.ap.turn (fun _ => 0) e5.size h.bel.size _ _ _ _ (fun b x => .inl x) (fun b x => .inl x) (fun b x => .inl x) (fun b x => .inl x)
theorem Pr.fault (h : Pr w0 P p n N pw D q E T U F G H1 H2 m1 m2 (some L) t2 w) (z : Int) (hs : small L 999999) :
    Calls Tryz.prog 33 #[.pointer T, .int .i64 z] w fun e w' => e = .returned (.bool (badZ (Sl.fault L z) z)) ∧ Pr w0 P p n N pw D q E T U (Ext F w w') G H1 H2 m1 m2 (some (Sl.fault L z)) t2 w' ∧ w'.heap[P]? = w.heap[P]? ∧ Kp w (Us F pw G q H1 H2) w' (Us (Ext F w w') pw G q H1 H2) := by
  obtain ⟨t, g, rfl, ht, hg, hl2⟩ := h.tb1
  exact (fault_any hl2 z hs).mono fun e w' ⟨e1, e2, e3⟩ => ⟨e1, turn1 h hg e3 ⟨t, g, rfl, ht, hg, e2⟩⟩
theorem Pr.rfault (h : Pr w0 P p n N pw D q E T U F G H1 H2 m1 m2 t1 (some L) w) (hp : Pln p la ns n) (z : Int) (hs : small L 999999) :
    Calls Tryz.prog 43 #[.pointer U, .int .i64 z] w fun e w' => e = .returned (.bool (badZ (Sl.fault L z) z)) ∧ Pr w0 P p n N pw D q E T U F (Ext G w w') H1 H2 m1 m2 t1 (some (Sl.fault L z)) w' ∧ w'.heap[P]? = w.heap[P]? ∧ Kp w (Us F pw G q H1 H2) w' (Us F pw (Ext G w w') q H1 H2) := by
  obtain ⟨t, a, b', rfl, ht, ha, hb, hl2⟩ := h.tb2
  exact (rfault_any hl2 hp z hs).mono fun e w' ⟨e1, e2, e3⟩ => ⟨e1, turn2 h hb e3 ⟨t, a, b', rfl, ht, ha, hb, e2⟩⟩
theorem Pr.heal (h : Pr w0 P p n N pw D q E T U F G H1 H2 m1 m2 (some L) t2 w) :
    Calls Tryz.prog 35 #[.pointer T] w fun e w' => e = .returned (.int .i64 (bads L : Int)) ∧ Pr w0 P p n N pw D q E T U (Ext F w w') G H1 H2 m1 m2 (some (Sl.heal L)) t2 w' ∧ w'.heap[P]? = w.heap[P]? ∧ Kp w (Us F pw G q H1 H2) w' (Us (Ext F w w') pw G q H1 H2) := by
  obtain ⟨t, g, rfl, ht, hg, hl2⟩ := h.tb1
  exact (heal_any hl2).mono fun e w' ⟨e1, e2, e3⟩ => ⟨e1, turn1 h hg e3 ⟨t, g, rfl, ht, hg, e2⟩⟩
theorem Pr.rheal (h : Pr w0 P p n N pw D q E T U F G H1 H2 m1 m2 t1 (some L) w) (hp : Pln p la ns n) :
    Calls Tryz.prog 44 #[.pointer U] w fun e w' => e = .returned (.int .i64 (bads L : Int)) ∧ Pr w0 P p n N pw D q E T U F (Ext G w w') H1 H2 m1 m2 t1 (some (Sl.heal L)) w' ∧ w'.heap[P]? = w.heap[P]? ∧ Kp w (Us F pw G q H1 H2) w' (Us F pw (Ext G w w') q H1 H2) := by
  obtain ⟨t, a, b', rfl, ht, ha, hb, hl2⟩ := h.tb2
  exact (rheal_any hl2 hp).mono fun e w' ⟨e1, e2, e3⟩ => ⟨e1, turn2 h hb e3 ⟨t, a, b', rfl, ht, ha, hb, e2⟩⟩
/-- the program's store is opened anew -/
theorem Pr.open_ (h : Pr w0 P p n N pw D q E T U F G H1 H2 m1 m2 t1 t2 w) (he : EnvH w0) (hp : Pln p la ns n) (ho : m1.s.off = false) (R : List Slt × Vs) (hR : opn la ns 0 m1 = R) :
    Calls Tryz.prog 21 #[.pointer (some ⟨D, 0, none⟩), (.agg #[.int .i64 p.a0, .int .i64 p.a1, .int .i64 p.a2, .int .i64 p.a3, .int .i64 p.a4, .int .i64 p.a5, .int .i64 p.a6, .int .i64 p.a7, .int .i64 p.a8, .int .i64 p.a9, .int .i64 p.a10, .int .i64 p.a11, .int .i64 p.a12])] w fun e w' => ∃ T' H1', e = .returned (.tuple #[.pointer (some ⟨T', 0, none⟩), .int .i64 0]) ∧ Pr w0 P p n N pw D q E (some ⟨T', 0, none⟩) U F G H1' H2 R.2 m2 (some R.1) t2 w' ∧ w'.heap[P]? = w.heap[P]? ∧ Kp w (Us F pw G q H1 H2) w' (Us F pw G q H1' H2) := by
  refine (open_yes h.pd (h.ebl he pw (h.ap.lo pw (.inl (.inr rfl))).1) hp ho R hR).mono fun e w' ⟨t, g, e1, e2, g1, g2, e4, e5⟩ => ?_
  have hb := e5.block P h.lt.1 (fun x => h.ap.p1 (.inl x))
  have hlt := e2.lt
  refine ⟨t, fun b => b = t ∨ b = g, e1, ⟨e4, h.rd.kept e5 (fun b x y => h.ap.d12 (.inl y) x), ⟨t, g, rfl, .inl rfl, .inr rfl, e2⟩, h.tb2.kept e5 (fun b x y => h.ap.d14 (.inl y) x), ?_, h.bel_of e5 (fun b x => .inl (.inl x))⟩, hb, Kp.of_chg e5 (fun b x => .inl (.inl x)) (fun b x => x.elim (fun y => .inl (.inl y)) (fun x => x.elim (fun y => .inl (.inr (.inl y))) (fun x => x.elim (fun y => .inr (by rcases y with y | y <;> omega)) (fun y => .inl (.inr (.inr (.inr y)))))))⟩
  exact h.ap.turn (fun _ => 3) e5.size h.bel.size _ _ _ _ (fun b x => .inl x) (fun b x => .inl x) (fun b x => .inr ⟨rfl, by rcases x with x | x <;> omega, by rcases x with x | x <;> omega⟩) (fun b x => .inl x)
end
end Go.Proofs.YtapklelkcicjlaaGreatDoor.Pd.Sl

/-! The document's Open. No conditions. -/
namespace Go.Proofs.YtapklelkcicjlaaGreatDoor.Pd.Sl
set_option maxRecDepth 100000
open Go.RowKit Oc Dm W Dw Sr Gt W.Hd
set_option linter.unusedVariables false
set_option maxRecDepth 100000
attribute [local go_sem ↓] Go.wp_at_zero Go.wp_at_succ

theorem wp_make_row {P : Program} {w : World} {o : Oper} {a : Act} {K : Act → World → Prop} {Q : Exit → Act → World → Prop} (l c : Operand) (t : TypeId) (hop : o.op = Op.makeSlice t l c) {e : TypeId} {z : Value} {bytes : Nat} (hT : Rw.ElTy P t e z bytes) (n : Nat) (hl : a.eval l = .int .i64 (n : Int)) (hc : a.eval c = .int .i64 (n : Int)) (hn : n ≤ 1000000000000)
    (hK : ∀ w', Rw.OwnV w' e w.heap.size (.slice (some ⟨w.heap.size, 0, none⟩) n n) (List.replicate n z) → Below w.heap.size w w' → K (a.put o.dst (.slice (some ⟨w.heap.size, 0, none⟩) n n)) w') : Oper.wp P o a w K Q := by
  obtain ⟨i, hi, hz0, hz1, hz2⟩ := info_parts hT.info
  have hb := hT.small
  have hbm : bytes * n ≤ 64 * 1000000000000 := Nat.mul_le_mul hb hn
  obtain ⟨w', hrun, r1, r2⟩ := run_make_full (P := P) w w.heap.size t e i z 1 hT.sl hi hz0 hz1 .i64 .i64 n (by rw [hz2]; omega) (by unfold maxLen; omega) (Nat.le_refl _)
  unfold Oper.wp
  simp [execOp, hop, hl, hc, hrun, Result.andThen]
  refine hK w' ?_ ?_
  · unfold Rw.OwnV
    rw [List.length_replicate]
    rwa [hT.one, Nat.mul_one, toList_madeCells_one] at r1
  · exact (Below.refl _ _).grown r2 (Nat.le_refl _) (fun _ h => by cases h)
section
variable {P : Program} {md : Region.Mode} {ops : Array Oper} {Q : Exit → Act → World → Prop} {S : World → Prop} {t i j : Nat} {o o2 : Oper} {fuel : Nat} {listed : Array Bool} {a : Act} {w : World} {ty ty2 e e2 : TypeId} {z z2 : Value} {bytes bytes2 n : Nat} {l c l2 c2 : Operand}
/-- a slice is made, and no goal names the operation -/
theorem next_make (hr : Region.ready md ops listed = [i]) (ho : ops[i]? = some o) (hg : o.guard = none) (hop : o.op = Op.makeSlice ty l c) (hT : Rw.ElTy P ty e z bytes) (hn : n ≤ 1000000000000) (hl : a.eval l = .int .i64 (n : Int)) (hc : a.eval c = .int .i64 (n : Int)) (hS : ∀ w', Below w.heap.size w w' → S w')
    (h : ∀ w', Rw.OwnV w' e w.heap.size (.slice (some ⟨w.heap.size, 0, none⟩) n n) (List.replicate n z) → Below w.heap.size w w' → Gate P md ops Q S t fuel (listed.setIfInBounds i true) (a.put o.dst (.slice (some ⟨w.heap.size, 0, none⟩) n n)) w') : Gate P md ops Q S t (fuel + 1) listed a w :=
  Gate.next hr ho hg fun K hK => wp_make_row l c ty hop hT n hl hc hn fun w' o' b' => hK _ _ (fun _ => hS w' b') (h w' o' b')
theorem fork_make (hr : Region.ready md ops listed = [i, j]) (ho : ops[i]? = some o) (hg : o.guard = none) (ho2 : ops[j]? = some o2) (hg2 : o2.guard = none) (hop : o.op = Op.makeSlice ty l c) (hop2 : o2.op = Op.makeSlice ty2 l2 c2) (hT : Rw.ElTy P ty e z bytes) (hT2 : Rw.ElTy P ty2 e2 z2 bytes2) (hn : n ≤ 1000000000000) (hl : a.eval l = .int .i64 (n : Int)) (hc : a.eval c = .int .i64 (n : Int)) (hl2 : a.eval l2 = .int .i64 (n : Int)) (hc2 : a.eval c2 = .int .i64 (n : Int)) (hS : ∀ w', Below w.heap.size w w' → S w')
    (h : ∀ w', Rw.OwnV w' e w.heap.size (.slice (some ⟨w.heap.size, 0, none⟩) n n) (List.replicate n z) → Below w.heap.size w w' → Gate P md ops Q S t fuel (listed.setIfInBounds i true) (a.put o.dst (.slice (some ⟨w.heap.size, 0, none⟩) n n)) w')
    (h2 : ∀ w', Rw.OwnV w' e2 w.heap.size (.slice (some ⟨w.heap.size, 0, none⟩) n n) (List.replicate n z2) → Below w.heap.size w w' → Gate P md ops Q S t fuel (listed.setIfInBounds j true) (a.put o2.dst (.slice (some ⟨w.heap.size, 0, none⟩) n n)) w') : Gate P md ops Q S t (fuel + 1) listed a w :=
  Gate.fork hr ho hg ho2 hg2 (fun K hK => wp_make_row l c ty hop hT n hl hc hn fun w' o' b' => hK _ _ (fun _ => hS w' b') (h w' o' b')) (fun K hK => wp_make_row l2 c2 ty2 hop2 hT2 n hl2 hc2 hn fun w' o' b' => hK _ _ (fun _ => hS w' b') (h2 w' o' b'))
end
theorem u32_row : Rw.ElTy Tryz.prog 55 30 (.int .u32 0) 4 := ⟨Tryz.underlying55, by kernel_rfl, rfl, by decide⟩
theorem int_row : Rw.ElTy Tryz.prog 24 3 (.int .i64 0) 8 := ⟨Tryz.underlying24, by kernel_rfl, rfl, by decide⟩
/-- octets out of a text of any length -/
theorem bytes_any (w : World) (xs : List UInt8) (B : ByteArray) (hB : tx xs = .string B) : ∃ c w', (convert 9 57 (.string B)).run Tryz.prog w = .ok (.slice (some ⟨w.heap.size, 0, none⟩) xs.length c) w' ∧ xs.length ≤ c ∧ Oct w' (some ⟨w.heap.size, 0, none⟩) xs.length xs ∧ Below w.heap.size w w' := by
  have e : B = bstr xs := by unfold tx at hB; injection hB with hB; exact hB.symm
  subst e
  have hs : (bstr xs).size = xs.length := rfl
  have hrun := Lib.run_convert_string_bytes (P := Tryz.prog) w 9 57 5 (bstr xs) Tryz.underlying9 Dm.bt.sl Dm.bt.u8
  rw [hs] at hrun
  refine ⟨_, _, hrun, grownCap_ge w xs.length 0 _, ⟨rfl, fun _ => ⟨_, 0, rfl, fun j x hj => ?_⟩⟩, ⟨?_, ?_, ?_, ?_, fun k hk => Lib.bytesWorld_at_old w _ _ k hk⟩⟩
  · have hjl : j < xs.length := (List.getElem?_eq_some_iff.1 hj).1
    rw [Nat.zero_add, Lib.bytesWorld_cell w _ _ j (by rw [hs]; omega)]
    have : (bstr xs).data.toList = xs := by simp [bstr]
    rw [this]
    simp [List.getD, hj, ov]
  · simp [Lib.bytesWorld, World.freeze, World.alloc, World.drew, -World.alloc_eq, -World.drew_eq]
  · simp [Lib.bytesWorld, World.freeze, World.alloc, World.drew, -World.alloc_eq, -World.drew_eq]
  · simp [Lib.bytesWorld, World.freeze, World.alloc, World.drew, -World.alloc_eq, -World.drew_eq]
  · rw [Lib.bytesWorld_size]; omega
theorem hg_zero {xs : List UInt8} {r : Hd} {E' : Int} (h : hg xs = (r, E')) (hE : ¬ E' = 0) : r.r = 0 := by
  have hw := hg_way xs
  rw [h] at hw
  rcases gway_facts hw with ⟨_, h1⟩ | ⟨h1, _⟩
  · rw [show r = zr from h1]; rfl
  · exact absurd h1 hE
section
variable {w w' : World} {G : Nat → Prop} {E q n N t a b la ns i : Nat} {m m1 m2 : Vs} {p : Pn.Pl} {L Lj : List Slt}
/-- rows, filled up to some place -/
def ups (Lj : List Slt) (k : Nat) : List Slt := Lj ++ List.replicate k ⟨0, 0⟩
theorem ups_len (k : Nat) : (ups Lj k).length = Lj.length + k := by unfold ups; rw [List.length_append, List.length_replicate]
theorem ups_at {k : Nat} (hk : 0 < k) : (ups Lj k)[Lj.length]? = some ⟨0, 0⟩ := by
  unfold ups
  rw [List.getElem?_append_right (Nat.le_refl _), Nat.sub_self, List.getElem?_replicate, if_pos hk]
theorem ups_set (k : Nat) (s : Slt) : (ups Lj (k + 1)).set Lj.length s = ups (Lj ++ [s]) k := by
  unfold ups
  rw [List.set_append_right _ _ (Nat.le_refl _), Nat.sub_self, List.replicate_succ, List.set_cons_zero, List.append_assoc]
  rfl
theorem ups_zero (k : Nat) : ups Lj (k + 1) = ups (Lj ++ [⟨0, 0⟩]) k := by
  unfold ups
  rw [List.replicate_succ, List.append_assoc]
  rfl
/-- what Open hands back -/
def RopTold (w : World) (G : Nat → Prop) (E q n N : Nat) (p : Pn.Pl) (R : List Slt × Vs) (e : Ending) (w' : World) : Prop := ∃ t a b, e = .returned (.tuple #[.pointer (some ⟨t, 0, none⟩), .int .i64 0]) ∧ RsAt w' t a b E p R.1 ∧ w.heap.size ≤ t ∧ w.heap.size ≤ a ∧ w.heap.size ≤ b ∧ RD w' G E q n N R.2 ∧ Chg G w w'
theorem offcells (h : RD w G E q n N m) : w.cell? ⟨E, 0, none⟩ = some (.pointer (some ⟨q, 0, none⟩)) ∧ w.cell? ⟨q, 0, none⟩ = some (.bool m.s.off) := by
  obtain ⟨gs, vs, x⟩ := h.rv
  obtain ⟨l, hh, _⟩ := h.qw.head
  exact ⟨x.cells.1, by rw [cell_of_row _ _ _ _ _ _ hh]; rfl⟩
theorem run_load_plan {w : World} {b : Nat} {T : TypeId} {p : Pn.Pl} (hg : w.heap[b]? = some (.cells #[.int .i64 p.a0, .int .i64 p.a1, .int .i64 p.a2, .int .i64 p.a3, .int .i64 p.a4, .int .i64 p.a5, .int .i64 p.a6, .int .i64 p.a7, .int .i64 p.a8, .int .i64 p.a9, .int .i64 p.a10, .int .i64 p.a11, .int .i64 p.a12] T (0, 0))) : (Instr.loadAt 41 (.pointer (some ⟨b, 0, none⟩))).run Tryz.prog w = .ok (.agg #[.int .i64 p.a0, .int .i64 p.a1, .int .i64 p.a2, .int .i64 p.a3, .int .i64 p.a4, .int .i64 p.a5, .int .i64 p.a6, .int .i64 p.a7, .int .i64 p.a8, .int .i64 p.a9, .int .i64 p.a10, .int .i64 p.a11, .int .i64 p.a12]) w := by
  simp only [Instr.loadAt, Instr.sureAddr, Sem.run_bind, Sem.run_pure, Result.andThen_ok, run_loadVar_row w b T 41 _ (0, 0) _ hg Tryz.underlying41 rfl Pn.info_plan]
/-- the store as it is first -/
def Rst (wa : World) (t a b E ns : Nat) (p : Pn.Pl) (w : World) : Prop := RsAt w t a b E p (ups [] ns) ∧ wa.heap.size ≤ t ∧ wa.heap.size ≤ a ∧ wa.heap.size ≤ b ∧ Below wa.heap.size wa w
theorem rst_fin {wa w1 : World} {a b : Nat} {ns : Nat} (h1 : 1 ≤ ns) (h2 : ns ≤ 256) (hne : a ≠ b) (ha : Rw.OwnV w1 30 wa.heap.size (.slice (some ⟨a, 0, none⟩) ns ns) (List.replicate ns (.int .u32 0))) (hb : Rw.OwnV w1 3 wa.heap.size (.slice (some ⟨b, 0, none⟩) ns ns) (List.replicate ns (.int .i64 0))) (hB : Below wa.heap.size wa w1) :
    Rst wa w1.heap.size a b E ns p (w1.alloc (.cells (rsC E p (.slice (some ⟨a, 0, none⟩) ns ns) (.slice (some ⟨b, 0, none⟩) ns ns)) 110)) := by
  have ga := ha.ge a rfl
  have gb := hb.ge b rfl
  have el : (ups [] ns).length = ns := by rw [ups_len]; exact Nat.zero_add _
  have e0 : (ups [] ns).map wv = List.replicate ns (.int .u32 0) := by unfold ups; rw [List.nil_append, List.map_replicate]; rfl
  have e1 : (ups [] ns).map fv = List.replicate ns (.int .i64 0) := by unfold ups; rw [List.nil_append, List.map_replicate]; rfl
  refine ⟨⟨⟨ns, ns, ?_, ?_, ?_⟩, ⟨by omega, by omega, hne⟩, by rw [el]; exact h1, by rw [el]; exact h2, fun s hs => ?_⟩, hB.size, ga.1, gb.1, bthen hB (balloc _ _)⟩
  · rw [el]; exact heap_alloc_new _ _
  · rw [el, e0]; exact (ha.more (Nat.zero_le _)).alloc _
  · rw [el, e1]; exact (hb.more (Nat.zero_le _)).alloc _
  · unfold ups at hs
    rw [List.nil_append] at hs
    rw [(List.mem_replicate.1 hs).2]
    exact Nat.zero_le _
set_option maxHeartbeats 8000000 in
theorem ropen_yes (h : RD w G E q n N m) (hp : Pln p la ns n) (hst : ∀ i, i < n → (m.S i).stands.length = 64) (ho : m.s.off = false) (R : List Slt × Vs) (hR : opn la ns 0 m = R) :
    Calls Tryz.prog 93 #[.pointer (some ⟨E, 0, none⟩), (.agg #[.int .i64 p.a0, .int .i64 p.a1, .int .i64 p.a2, .int .i64 p.a3, .int .i64 p.a4, .int .i64 p.a5, .int .i64 p.a6, .int .i64 p.a7, .int .i64 p.a8, .int .i64 p.a9, .int .i64 p.a10, .int .i64 p.a11, .int .i64 p.a12])] w (RopTold w G E q n N p R) := by
  have H := Lib.hid h
  have HP := Lib.hid hp
  have HR := Lib.hid hR
  have HF : Hid (∀ k, G k → k < w.heap.size) := fun k x => h.bound k (.inl x)
  have hns : ns ≤ 256 := hp.hl2
  have hns1 : 1 ≤ ns := hp.hl
  have hla : la + 2 * ns ≤ 4096 := by have := hp.hn; have := hp.hn2; omega
  have B1 := Lib.hid (balloc w (.cells #[.int .i64 p.a0, .int .i64 p.a1, .int .i64 p.a2, .int .i64 p.a3, .int .i64 p.a4, .int .i64 p.a5, .int .i64 p.a6, .int .i64 p.a7, .int .i64 p.a8, .int .i64 p.a9, .int .i64 p.a10, .int .i64 p.a11, .int .i64 p.a12] 41))
  obtain ⟨cE, cq⟩ := offcells (h.below B1.out)
  rw [ho] at cq
  have X1 := Lib.hid (heap_alloc_new w (.cells #[.int .i64 p.a0, .int .i64 p.a1, .int .i64 p.a2, .int .i64 p.a3, .int .i64 p.a4, .int .i64 p.a5, .int .i64 p.a6, .int .i64 p.a7, .int .i64 p.a8, .int .i64 p.a9, .int .i64 p.a10, .int .i64 p.a11, .int .i64 p.a12] 41))
  have R1 := Lib.hid (h.below B1.out)
  have C1 : Hid (Chg G w (w.alloc (.cells #[.int .i64 p.a0, .int .i64 p.a1, .int .i64 p.a2, .int .i64 p.a3, .int .i64 p.a4, .int .i64 p.a5, .int .i64 p.a6, .int .i64 p.a7, .int .i64 p.a8, .int .i64 p.a9, .int .i64 p.a10, .int .i64 p.a11, .int .i64 p.a12] 41))) := Chg.of_below B1.out
  have Z1 : Hid ((w.alloc (.cells #[.int .i64 p.a0, .int .i64 p.a1, .int .i64 p.a2, .int .i64 p.a3, .int .i64 p.a4, .int .i64 p.a5, .int .i64 p.a6, .int .i64 p.a7, .int .i64 p.a8, .int .i64 p.a9, .int .i64 p.a10, .int .i64 p.a11, .int .i64 p.a12] 41)).heap.size = w.heap.size + 1) := World.size_alloc _ _
  clear h hp hR ho
  go_enter Tryz.func93, Tryz.ntmps93
  go_upto_region 3 with fail
  obtain ⟨bp, hbp⟩ : ∃ bp, w.heap.size = bp := ⟨_, rfl⟩
  have HBP := Lib.hid hbp
  rw [hbp] at X1 Z1 HF
  clear cE cq
  generalize w.alloc (.cells #[.int .i64 p.a0, .int .i64 p.a1, .int .i64 p.a2, .int .i64 p.a3, .int .i64 p.a4, .int .i64 p.a5, .int .i64 p.a6, .int .i64 p.a7, .int .i64 p.a8, .int .i64 p.a9, .int .i64 p.a10, .int .i64 p.a11, .int .i64 p.a12] 41) = w1 at B1 X1 R1 C1 Z1 ⊢
  rw [hbp]
  clear hbp
  go_cut [6] from 19 to 28 (fun s6 wc => ∃ t a b, s6 = .pointer (some ⟨t, 0, none⟩) ∧ Hid (Rst w1 t a b E ns p wc))
  case first =>
    have KS : Hid (∀ y, Below w1.heap.size w1 y → y.heap[bp]? = some (.cells #[.int .i64 p.a0, .int .i64 p.a1, .int .i64 p.a2, .int .i64 p.a3, .int .i64 p.a4, .int .i64 p.a5, .int .i64 p.a6, .int .i64 p.a7, .int .i64 p.a8, .int .i64 p.a9, .int .i64 p.a10, .int .i64 p.a11, .int .i64 p.a12] 41 (0, 0))) := fun y hy => kept_below X1.out hy
    refine gate (fun y => y.heap[bp]? = some (.cells #[.int .i64 p.a0, .int .i64 p.a1, .int .i64 p.a2, .int .i64 p.a3, .int .i64 p.a4, .int .i64 p.a5, .int .i64 p.a6, .int .i64 p.a7, .int .i64 p.a8, .int .i64 p.a9, .int .i64 p.a10, .int .i64 p.a11, .int .i64 p.a12] 41 (0, 0))) 10 [0, 1, 2, 3, 5, 6] 5 (by kernel_rfl) (by kernel_rfl) (by kernel_rfl) rfl ?_ (KS.out _ (bdrew _)) ?_
    · intro d v c a w h
      cases d <;> exact h
    refine yields_step ?_ rfl rfl ?_ ?_
    rotate_left
    · intro y hS; go_simp; rfl
    refine yields_step (.agg #[.int .i64 p.a0, .int .i64 p.a1, .int .i64 p.a2, .int .i64 p.a3, .int .i64 p.a4, .int .i64 p.a5, .int .i64 p.a6, .int .i64 p.a7, .int .i64 p.a8, .int .i64 p.a9, .int .i64 p.a10, .int .i64 p.a11, .int .i64 p.a12]) rfl rfl ?_ ?_
    · intro y hS; exact exec_ld rfl (by go_simp) (run_load_plan hS)
    refine yields_step ?_ rfl rfl ?_ ?_
    rotate_left
    · intro y hS; go_simp; rfl
    refine yields_step (.int .i64 (ns : Int)) rfl rfl ?_ ?_
    · intro y hS
      have c9 : y.cell? ⟨bp, 9, none⟩ = some (.int .i64 (ns : Int)) := by rw [cell_of_row _ _ _ _ _ _ hS, ← HP.out.h9]; rfl
      go_simp
    refine yields_step ?_ rfl rfl ?_ ?_
    rotate_left
    · intro y hS; go_simp; rfl
    refine yields_step (.int .i64 (ns : Int)) rfl rfl ?_ ?_
    · intro y hS
      have c9 : y.cell? ⟨bp, 9, none⟩ = some (.int .i64 (ns : Int)) := by rw [cell_of_row _ _ _ _ _ _ hS, ← HP.out.h9]; rfl
      go_simp
    refine fork_make (n := ns) (i := 4) (j := 7) (by kernel_rfl) rfl rfl rfl rfl rfl rfl u32_row int_row (by omega) ?_ ?_ ?_ ?_ (fun y hy => KS.out y (bthen (bdrew _) hy)) (fun w2 o2 b2 => ?_) (fun w2 o2 b2 => ?_)
    · go_simp
    · go_simp
    · go_simp
    · go_simp
    · refine next_make (n := ns) (i := 7) (by kernel_rfl) rfl rfl rfl int_row (by omega) ?_ ?_ (fun y hy => KS.out y (bthen (bthen (bdrew _) b2) hy)) (fun w3 o3 b3 => ?_)
      · go_simp
      · go_simp
      have B3 : Hid (Below w1.heap.size w1 w3) := bthen (bthen (bdrew _) b2) b3
      have O2 : Hid (Rw.OwnV w3 30 w1.heap.size (.slice (some ⟨w1.heap.size, 0, none⟩) ns ns) (List.replicate ns (.int .u32 0))) := o2.below b3
      have O3 : Hid (Rw.OwnV w3 3 w1.heap.size (.slice (some ⟨w2.heap.size, 0, none⟩) ns ns) (List.replicate ns (.int .i64 0))) := o3.more b2.size
      have NE : Hid (w1.heap.size ≠ w2.heap.size) := by have := (o2.ge w1.heap.size rfl).2; show _ ≠ _; omega
      clear o2 b2 o3 b3
      refine Gate.next (i := 8) (by kernel_rfl) rfl rfl (fun K hK => ?_)
      go_simp
      refine hK _ _ (fun _ => KS.out _ B3.out) ?_
      clear hK K
      refine Gate.next (i := 9) (by kernel_rfl) rfl rfl (fun K hK => ?_)
      go_simp
      refine hK _ _ (fun _ => KS.out _ (bthen B3.out (balloc _ _))) ?_
      clear hK K
      refine Gate.next (i := 10) (by kernel_rfl) rfl rfl (fun K hK => ?_)
      go_simp
      refine hK _ _ (fun h => absurd rfl h) ?_
      clear hK K
      refine Gate.done (by kernel_rfl) ?_
      go_wp2_with fail
      go_meet
      exact ⟨w3.heap.size, w1.heap.size, w2.heap.size, rfl, rst_fin hns1 hns NE.out O2.out O3.out B3.out⟩
    · refine next_make (n := ns) (i := 4) (by kernel_rfl) rfl rfl rfl u32_row (by omega) ?_ ?_ (fun y hy => KS.out y (bthen (bthen (bdrew _) b2) hy)) (fun w3 o3 b3 => ?_)
      · go_simp
      · go_simp
      have B3 : Hid (Below w1.heap.size w1 w3) := bthen (bthen (bdrew _) b2) b3
      have O2 : Hid (Rw.OwnV w3 3 w1.heap.size (.slice (some ⟨w1.heap.size, 0, none⟩) ns ns) (List.replicate ns (.int .i64 0))) := o2.below b3
      have O3 : Hid (Rw.OwnV w3 30 w1.heap.size (.slice (some ⟨w2.heap.size, 0, none⟩) ns ns) (List.replicate ns (.int .u32 0))) := o3.more b2.size
      have NE : Hid (w2.heap.size ≠ w1.heap.size) := by have := (o2.ge w1.heap.size rfl).2; show _ ≠ _; omega
      clear o2 b2 o3 b3
      refine Gate.next (i := 8) (by kernel_rfl) rfl rfl (fun K hK => ?_)
      go_simp
      refine hK _ _ (fun _ => KS.out _ B3.out) ?_
      clear hK K
      refine Gate.next (i := 9) (by kernel_rfl) rfl rfl (fun K hK => ?_)
      go_simp
      refine hK _ _ (fun _ => KS.out _ (bthen B3.out (balloc _ _))) ?_
      clear hK K
      refine Gate.next (i := 10) (by kernel_rfl) rfl rfl (fun K hK => ?_)
      go_simp
      refine hK _ _ (fun h => absurd rfl h) ?_
      clear hK K
      refine Gate.done (by kernel_rfl) ?_
      go_wp2_with fail
      go_meet
      exact ⟨w3.heap.size, w2.heap.size, w1.heap.size, rfl, rst_fin hns1 hns NE.out O3.out O2.out B3.out⟩
  case rest =>
    obtain ⟨t, a, b, rfl, st⟩ := hcut
    obtain ⟨rs0, gt, ga, gb, bw⟩ := st.out
    have z1 := Z1.out
    have hbp := HBP.out
    have RS0 := Lib.hid rs0
    have XW := Lib.hid (kept_below X1.out bw)
    have RW := Lib.hid (R1.out.below bw)
    have CW : Hid (Chg G w wc) := C1.out.trans (Chg.of_below bw) (fun _ _ x => x)
    have GG : Hid (¬ Al G q t ∧ ¬ Al G q a ∧ ¬ Al G q b ∧ ¬ G bp ∧ bp ≠ t ∧ bp ≠ a ∧ w.heap.size ≤ t ∧ w.heap.size ≤ a ∧ w.heap.size ≤ b) := by
      have hal : ∀ k, Al G q k → k < bp := fun k x => by rw [← hbp]; exact H.out.bound k x
      refine ⟨fun x => ?_, fun x => ?_, fun x => ?_, fun x => ?_, by omega, by omega, by omega, by omega, by omega⟩
      · have := hal t x; omega
      · have := hal a x; omega
      · have := hal b x; omega
      · have := HF.out bp x; omega
    clear rs0 gt ga gb bw st z1 hbp X1 R1 C1 Z1 B1 H
    go_wp2
    go_loopw [7] (fun z wr => ∃ j : Nat, j ≤ ns ∧ z = .int .i64 (j : Int) ∧ ∃ mj Lj, Hid (RD wr G E q n N mj) ∧ Hid (Chg G w wr) ∧ Hid (wr.heap[bp]? = some (.cells #[.int .i64 p.a0, .int .i64 p.a1, .int .i64 p.a2, .int .i64 p.a3, .int .i64 p.a4, .int .i64 p.a5, .int .i64 p.a6, .int .i64 p.a7, .int .i64 p.a8, .int .i64 p.a9, .int .i64 p.a10, .int .i64 p.a11, .int .i64 p.a12] 41 (0, 0))) ∧ Hid (RsAt wr t a b E p (ups Lj (ns - j))) ∧ Hid (Lj.length = j) ∧ Hid (mj.S = m.S) ∧ Hid ((Lj ++ (opn la (ns - j) j mj).1, (opn la (ns - j) j mj).2) = R)) (fun z _ => ns - (intOf z).toNat)
    case atStart => exact ⟨0, Nat.zero_le _, rfl, m, [], RW, CW, XW, RS0, rfl, rfl, HR⟩
    case round =>
      obtain ⟨j, hj, rfl, mj, Lj, RJ, CJ, XJ, SJ, LJ, MJ, OJ⟩ := hrel
      clear RW CW XW RS0
      have c9 : wr.cell? ⟨bp, 9, none⟩ = some (.int .i64 (ns : Int)) := by rw [cell_of_row _ _ _ _ _ _ XJ.out, ← HP.out.h9]; rfl
      have c8 : wr.cell? ⟨bp, 8, none⟩ = some (.int .i64 (la : Int)) := by rw [cell_of_row _ _ _ _ _ _ XJ.out, ← HP.out.h8]; rfl
      by_cases hlt : j < ns
      · have hlt2 : (j : Int) < (ns : Int) := by omega
        have hw1 : IntKind.i64.wrap (2 * (j : Int)) = 2 * (j : Int) := IntWalk.i64_in _ ⟨by omega, by omega⟩
        have hw2 : IntKind.i64.wrap ((la : Int) + 2 * (j : Int)) = (la : Int) + 2 * (j : Int) := IntWalk.i64_in _ ⟨by omega, by omega⟩
        obtain ⟨v1, xs1, m1, e1⟩ : ∃ v1 xs1 m1, rd1 mj (la + 2 * j) = (v1, xs1, m1) := ⟨_, _, _, rfl⟩
        have hin : la + 2 * j < n := by have := HP.out.hn; omega
        have L64 : Hid (xs1.length ≤ 1000000) := by
          show _ ≤ _
          by_cases hv : v1 = 0
          · have h64 := rd1_len (m := mj) (i := la + 2 * j) (by rw [MJ.out]; exact hst _ hin) (by rw [e1]; exact hv)
            rw [e1] at h64
            rw [show xs1.length = 64 from h64]
            decide
          · have h0 : (rd1 mj (la + 2 * j)).1 ≠ 0 → (rd1 mj (la + 2 * j)).2.1 = [] := by
              unfold rd1
              split
              · exact fun _ => rfl
              · split
                · exact fun _ => rfl
                · exact fun x => absurd rfl x
            rw [e1] at h0
            rw [show xs1 = [] from h0 hv]
            decide
        have M1 : Hid (m1.S = m.S) := by have := rd1_S mj (la + 2 * j); rw [e1] at this; exact (show m1.S = mj.S from this).trans MJ.out
        have KR : Hid (Calls Tryz.prog 94 #[.pointer (some ⟨E, 0, none⟩), .int .i64 ((la : Int) + 2 * (j : Int))] wr fun e y' => ∃ B, e = .returned (.tuple #[.string B, .int .i64 v1]) ∧ tx xs1 = .string B ∧ RD y' G E q n N m1 ∧ Chg G wr y') := by
          have := RD.read' RJ.out (la + 2 * j) hin e1
          rwa [show ((la + 2 * j : Nat) : Int) = (la : Int) + 2 * (j : Int) by omega] at this
        obtain ⟨hh, E', hgq⟩ : ∃ hh E', Sl.hg xs1 = (hh, E') := ⟨_, _, rfl⟩
        obtain ⟨r, hr⟩ : ∃ r, wornAt la j mj = r := ⟨_, rfl⟩
        have WR : Hid (r = if v1 = 0 then hh.r else 0) := by
          show _ = _
          rw [← hr]
          unfold wornAt
          rw [e1]
          dsimp only
          rw [hgq]
        have OJ2 : Hid ((Lj ++ [⟨0, r⟩] ++ (opn la (ns - (j + 1)) (j + 1) m1).1, (opn la (ns - (j + 1)) (j + 1) m1).2) = R) := by
          have e := OJ.out
          rw [show ns - j = (ns - (j + 1)) + 1 by omega] at e
          rw [List.append_assoc]
          show (Lj ++ (⟨0, r⟩ :: (opn la (ns - (j + 1)) (j + 1) m1).1), _) = R
          rw [← hr]
          have e2 : (rd1 mj (la + 2 * j)).2.2 = m1 := by rw [e1]
          rw [← e2]
          exact e
        have GW := Lib.hid (hg_way xs1)
        rw [hgq] at GW
        have HG0 : Hid (¬ E' = 0 → hh.r = 0) := fun x => hg_zero hgq x
        clear e1 hr hgq OJ RJ hin
        go_wp2_with fail
        refine KR.out.mono ?_; rintro e w2 ⟨BB, rfl, t2, r2, g2⟩
        have R2 := Lib.hid r2
        have X2 := Lib.hid ((g2.block bp (lt_of_heap XJ.out) GG.out.2.2.2.1).trans XJ.out)
        have S2 := Lib.hid (SJ.out.kept g2 (fun x => GG.out.1 (.inl x)) (fun x => GG.out.2.1 (.inl x)) (fun x => GG.out.2.2.1 (.inl x)))
        have C2 := Lib.hid (CJ.out.trans g2 (fun _ _ x => x))
        obtain ⟨cc, w3, hcv, hcc, o3, b3⟩ := bytes_any w2 xs1 BB t2
        have O3 := Lib.hid o3
        have B3 := Lib.hid b3
        clear t2 r2 g2 c8 c9 hw1 hw2 KR SJ CJ XJ o3 b3
        go_wp2_with fail
        refine (rhget_any _ xs1.length cc xs1 hh E' w3 L64.out hcc O3.out GW.out).mono ?_; rintro e w4 ⟨rfl, b4⟩
        have B4 := Lib.hid (bthen B3.out b4)
        clear b4 hcv
        go_upto_region 9 with ((with_reducible apply L_storeRow (N := 5) info_hd); exact rfl; exact rfl; exact heap_alloc_new _ _; exact rfl; exact rfl; (simp [Value.oneCell']); intro w5 h5 g5; have H5 := Lib.hid h5; have B5 : Hid (Below w4.heap.size w4 w5) := (balloc w4 (.cells #[.bool false, .int .i64 0, .int .u64 0, .int .u32 0, .int .u32 0] 32)).grown g5 (by simp) (fun k e => by injection e with e; omega); clear h5 g5)
        have B6 := Lib.hid (bthen B4.out B5.out)
        have R6 := Lib.hid (R2.out.below B6.out)
        have X6 := Lib.hid (kept_below X2.out B6.out)
        have S6 := Lib.hid (S2.out.below B6.out)
        have C6 : Hid (Chg G w w5) := chg_below2 C2.out B6.out
        clear R2 X2 S2 C2 B3 B4 B5 O3
        by_cases hboth : v1 = 0 ∧ E' = 0
        · obtain ⟨rfl, rfl⟩ := hboth
          have hwr := WR.out
          rw [if_pos rfl] at hwr
          have lc : (ups Lj (ns - j)).length = ns := by rw [ups_len, LJ.out]; omega
          have hat : (ups Lj (ns - j))[j]? = some ⟨0, 0⟩ := by have := ups_at (Lj := Lj) (k := ns - j) (by omega); rwa [LJ.out] at this
          obtain ⟨_, _, ⟨ca, cb, k14, _⟩, kfr⟩ := S6.out.cells HP.out
          rw [lc] at k14
          obtain ⟨ka, _, kf, _⟩ := S6.out.at_ hat
          have kh : w5.cell? ⟨w4.heap.size, 4, none⟩ = some (.int .u32 (hh.r.toNat : Int)) := by rw [cell_of_row _ _ _ _ _ _ H5.out]; rfl
          go_wp2_with fail
          go_region
          have q7 := S6.out.setW hat hh.r
          have g7 := q7.2
          have S7 : Hid (RsAt ((w5.setCell ⟨a, j, none⟩ (.int .u32 (hh.r.toNat : Int))).drew) t a b E p (ups (Lj ++ [⟨0, r⟩]) (ns - (j + 1)))) := by
            have e := q7.1
            have e2 : (ups Lj (ns - j)).set j ⟨0, hh.r⟩ = ups (Lj ++ [⟨0, r⟩]) (ns - (j + 1)) := by
              rw [hwr, ← ups_set, LJ.out, show ns - (j + 1) + 1 = ns - j by omega]
            rw [e2] at e
            exact e.below (bdrew _)
          have R7 : Hid (RD ((w5.setCell ⟨a, j, none⟩ (.int .u32 (hh.r.toNat : Int))).drew) G E q n N m1) := ((R6.out.kept (F := fun k => k = a) (Chg.of_grown g7 (fun k e _ => by injection e with e; exact e.symm)) (fun k x e => GG.out.2.1 (e ▸ x))).drew)
          have C7 : Hid (Chg G w ((w5.setCell ⟨a, j, none⟩ (.int .u32 (hh.r.toNat : Int))).drew)) := chg_below2 (chg_new C6.out g7 GG.out.2.2.2.2.2.2.2.1) (bdrew _)
          have X7 : Hid (((w5.setCell ⟨a, j, none⟩ (.int .u32 (hh.r.toNat : Int))).drew).heap[bp]? = some (.cells #[.int .i64 p.a0, .int .i64 p.a1, .int .i64 p.a2, .int .i64 p.a3, .int .i64 p.a4, .int .i64 p.a5, .int .i64 p.a6, .int .i64 p.a7, .int .i64 p.a8, .int .i64 p.a9, .int .i64 p.a10, .int .i64 p.a11, .int .i64 p.a12] 41 (0, 0))) := (heap_setCell_other _ _ _ _ GG.out.2.2.2.2.2.1).trans X6.out
          clear q7 g7 ka kf kh k14 kfr hat lc hwr S6 R6 C6 X6
          generalize (w5.setCell ⟨a, j, none⟩ (.int .u32 (hh.r.toNat : Int))).drew = w7 at S7 R7 C7 X7 ⊢
          go_wp2
          go_roundw
          case rel => exact ⟨j + 1, by omega, by go_num, m1, Lj ++ [⟨0, r⟩], R7, C7, X7, S7, by show _ = _; rw [List.length_append, LJ.out]; rfl, M1, OJ2⟩
          case measure => simp [intOf]; omega
        · have hr0 : r = 0 := by
            rw [WR.out]
            split
            · rename_i hv
              exact HG0.out (fun x => hboth ⟨hv, x⟩)
            · rfl
          have S7 : Hid (RsAt w5 t a b E p (ups (Lj ++ [⟨0, r⟩]) (ns - (j + 1)))) := by
            have e2 : ups Lj (ns - j) = ups (Lj ++ [⟨0, r⟩]) (ns - (j + 1)) := by
              rw [hr0, ← ups_zero, show ns - (j + 1) + 1 = ns - j by omega]
            show RsAt _ _ _ _ _ _ _
            rw [← e2]
            exact S6.out
          clear S6
          by_cases hv : v1 = 0
          · subst hv
            have hE : ¬ E' = 0 := fun x => hboth ⟨rfl, x⟩
            clear hboth
            go_wp2
            go_roundw
            case rel => exact ⟨j + 1, by omega, by go_num, m1, Lj ++ [⟨0, r⟩], R6, C6, X6, S7, by show _ = _; rw [List.length_append, LJ.out]; rfl, M1, OJ2⟩
            case measure => simp [intOf]; omega
          · clear hboth
            go_wp2
            go_roundw
            case rel => exact ⟨j + 1, by omega, by go_num, m1, Lj ++ [⟨0, r⟩], R6, C6, X6, S7, by show _ = _; rw [List.length_append, LJ.out]; rfl, M1, OJ2⟩
            case measure => simp [intOf]; omega
      · have hlt2 : ¬ (j : Int) < (ns : Int) := by omega
        have hjn : j = ns := by omega
        have RK : Hid (R = (Lj, mj)) := by
          have e := OJ.out
          rw [show ns - j = 0 by omega] at e
          show _ = _
          rw [← e]
          show (Lj ++ [], mj) = _
          rw [List.append_nil]
        have SK := SJ.out
        rw [show ns - j = 0 by omega] at SK
        have SF : Hid (RsAt wr t a b E p Lj) := by
          have e : ups Lj 0 = Lj := List.append_nil _
          rwa [e] at SK
        clear SK
        go_wp2
        go_ret2
        exact ⟨t, a, b, rfl, by rw [RK.out]; exact SF.out, GG.out.2.2.2.2.2.2.1, GG.out.2.2.2.2.2.2.2.1, GG.out.2.2.2.2.2.2.2.2, by rw [RK.out]; exact RJ.out, CJ.out⟩
end
end Go.Proofs.YtapklelkcicjlaaGreatDoor.Pd.Sl

/-! The document's Open on a pair; open, on a pair. No conditions. -/
namespace Go.Proofs.YtapklelkcicjlaaGreatDoor.Pd.Sl
set_option maxRecDepth 100000
open Go.RowKit Oc Dm W Dw Sr W.Hd
set_option linter.unusedVariables false
set_option maxRecDepth 100000
attribute [local go_sem ↓] Go.wp_at_zero Go.wp_at_succ
theorem phead_map {w : World} {P pw D q E : Nat} {p : Pn.Pl} {T U : Option Addr} (h : PHead w P p pw D q E T U) : w.cell? ⟨P, 0, none⟩ = some (.int .i64 p.a0) ∧ w.cell? ⟨P, 1, none⟩ = some (.int .i64 p.a1) ∧ w.cell? ⟨P, 2, none⟩ = some (.int .i64 p.a2) ∧ w.cell? ⟨P, 3, none⟩ = some (.int .i64 p.a3) ∧ w.cell? ⟨P, 4, none⟩ = some (.int .i64 p.a4) ∧ w.cell? ⟨P, 5, none⟩ = some (.int .i64 p.a5) ∧ w.cell? ⟨P, 6, none⟩ = some (.int .i64 p.a6) ∧ w.cell? ⟨P, 7, none⟩ = some (.int .i64 p.a7) ∧ w.cell? ⟨P, 8, none⟩ = some (.int .i64 p.a8) ∧ w.cell? ⟨P, 9, none⟩ = some (.int .i64 p.a9) ∧ w.cell? ⟨P, 10, none⟩ = some (.int .i64 p.a10) ∧ w.cell? ⟨P, 11, none⟩ = some (.int .i64 p.a11) ∧ w.cell? ⟨P, 12, none⟩ = some (.int .i64 p.a12) ∧ w.cell? ⟨P, 27, none⟩ = some (.pointer (some ⟨D, 0, none⟩)) := by
  refine ⟨?_, ?_, ?_, ?_, ?_, ?_, ?_, ?_, ?_, ?_, ?_, ?_, ?_, ?_⟩ <;> rw [(h.cell _).1] <;> rfl
theorem phead_plan {w : World} {P pw D q E : Nat} {p : Pn.Pl} {T U : Option Addr} (h : PHead w P p pw D q E T U) : w.cell? ⟨P, 13, none⟩ = some (.int .i64 p.a0) ∧ w.cell? ⟨P, 14, none⟩ = some (.int .i64 p.a1) ∧ w.cell? ⟨P, 15, none⟩ = some (.int .i64 p.a2) ∧ w.cell? ⟨P, 16, none⟩ = some (.int .i64 p.a3) ∧ w.cell? ⟨P, 17, none⟩ = some (.int .i64 p.a4) ∧ w.cell? ⟨P, 18, none⟩ = some (.int .i64 p.a5) ∧ w.cell? ⟨P, 19, none⟩ = some (.int .i64 p.a6) ∧ w.cell? ⟨P, 20, none⟩ = some (.int .i64 p.a7) ∧ w.cell? ⟨P, 21, none⟩ = some (.int .i64 p.a8) ∧ w.cell? ⟨P, 22, none⟩ = some (.int .i64 p.a9) ∧ w.cell? ⟨P, 23, none⟩ = some (.int .i64 p.a10) ∧ w.cell? ⟨P, 24, none⟩ = some (.int .i64 p.a11) ∧ w.cell? ⟨P, 25, none⟩ = some (.int .i64 p.a12) ∧ w.cell? ⟨P, 30, none⟩ = some (.pointer (some ⟨E, 0, none⟩)) := by
  refine ⟨?_, ?_, ?_, ?_, ?_, ?_, ?_, ?_, ?_, ?_, ?_, ?_, ?_, ?_⟩ <;> rw [(h.cell _).1] <;> rfl
section
variable {w0 w w' : World} {P n N N' pw D q E la ns : Nat} {p : Pn.Pl} {T U T0 U0 : Option Addr} {F G H1 H2 : Nat → Prop} {m m1 m2 : Vs} {t1 t2 : Option (List Slt)} {L : List Slt}
/-- the document's store is opened anew -/
theorem Pr.ropen (h : Pr w0 P p n N pw D q E T U F G H1 H2 m1 m2 t1 t2 w) (hp : Pln p la ns n) (hst : ∀ i, i < n → (m2.S i).stands.length = 64) (ho : m2.s.off = false) (R : List Slt × Vs) (hR : opn la ns 0 m2 = R) :
    Calls Tryz.prog 93 #[.pointer (some ⟨E, 0, none⟩), (.agg #[.int .i64 p.a0, .int .i64 p.a1, .int .i64 p.a2, .int .i64 p.a3, .int .i64 p.a4, .int .i64 p.a5, .int .i64 p.a6, .int .i64 p.a7, .int .i64 p.a8, .int .i64 p.a9, .int .i64 p.a10, .int .i64 p.a11, .int .i64 p.a12])] w fun e w' => ∃ U' H2', e = .returned (.tuple #[.pointer (some ⟨U', 0, none⟩), .int .i64 0]) ∧ Pr w0 P p n N pw D q E T (some ⟨U', 0, none⟩) F G H1 H2' m1 R.2 t1 (some R.1) w' ∧ w'.heap[P]? = w.heap[P]? ∧ Kp w (Us F pw G q H1 H2) w' (Us F pw G q H1 H2') := by
  refine (ropen_yes h.rd hp hst ho R hR).mono fun e w' ⟨t, a, b, e1, e2, g1, g2, g3, e4, e5⟩ => ?_
  have hb := e5.block P h.lt.1 (fun x => h.ap.p2 (.inl x))
  have hlt := e2.lt
  refine ⟨t, fun k => k = t ∨ k = a ∨ k = b, e1, ⟨h.pd.kept e5 (fun b x y => h.ap.d12 x (.inl y)), e4, h.tb1.kept e5 (fun b x y => h.ap.d23 (.inl y) x), ⟨t, a, b, rfl, .inl rfl, .inr (.inl rfl), .inr (.inr rfl), e2⟩, ?_, h.bel_of e5 (fun b x => .inr (.inl (.inl x)))⟩, hb, Kp.of_chg e5 (fun b x => .inr (.inl (.inl x))) (fun b x => x.elim (fun y => .inl (.inl y)) (fun x => x.elim (fun y => .inl (.inr (.inl y))) (fun x => x.elim (fun y => .inl (.inr (.inr (.inl y)))) (fun y => .inr (by rcases y with y | y | y <;> omega)))))⟩
  exact h.ap.turn (fun _ => 4) e5.size h.bel.size _ _ _ _ (fun b x => .inl x) (fun b x => .inl x) (fun b x => .inl x) (fun b x => .inr ⟨rfl, by rcases x with x | x | x <;> omega, by rcases x with x | x | x <;> omega⟩)
set_option maxHeartbeats 8000000 in
theorem pair_open_yes (h : Pr w0 P p n N pw D q E T U F G H1 H2 m m t1 t2 w) (hh : PHead w P p pw D q E T0 U0) (he : EnvH w0) (hp : Pln p la ns n) (ho : m.s.off = false) (R : List Slt × Vs) (hR : opn la ns 0 m = R) :
    Calls Tryz.prog 40 #[.pointer (some ⟨P, 0, none⟩)] w fun e w' => e = .returned (.bool true) ∧ ∃ T' U' H1' H2', Pr w0 P p n N pw D q E (some ⟨T', 0, none⟩) (some ⟨U', 0, none⟩) F G H1' H2' R.2 R.2 (some R.1) (some R.1) w' ∧ PHead w' P p pw D q E (some ⟨T', 0, none⟩) (some ⟨U', 0, none⟩) ∧ Kp' w P (Us F pw G q H1 H2) w' (Us F pw G q H1' H2') := by
  have H := Lib.hid h
  have HH := Lib.hid hh
  have HPL : Hid (P < w.heap.size) := h.lt.1
  have KO : Hid (∀ y, Below w.heap.size w y → Calls Tryz.prog 21 #[.pointer (some ⟨D, 0, none⟩), (.agg #[.int .i64 p.a0, .int .i64 p.a1, .int .i64 p.a2, .int .i64 p.a3, .int .i64 p.a4, .int .i64 p.a5, .int .i64 p.a6, .int .i64 p.a7, .int .i64 p.a8, .int .i64 p.a9, .int .i64 p.a10, .int .i64 p.a11, .int .i64 p.a12])] y fun e y' => ∃ T' H1', e = .returned (.tuple #[.pointer (some ⟨T', 0, none⟩), .int .i64 0]) ∧ Pr w0 P p n N pw D q E (some ⟨T', 0, none⟩) U F G H1' H2 R.2 m (some R.1) t2 y' ∧ y'.heap[P]? = w.heap[P]? ∧ Kp w (Us F pw G q H1 H2) y' (Us F pw G q H1' H2)) := fun y hy =>
    ((h.below hy).open_ he hp ho R hR).mono fun e y' ⟨T', H1', e1, e4, e5, e6⟩ => ⟨T', H1', e1, e4, e5.trans (hy.block P h.lt.1), (Kp.of_below hy _).trans e6⟩
  have HZ : Hid (∀ i, i < n → (m.S i).stands.length = 64) := fun i hi => h.pd.stand hi
  have HP := Lib.hid hp
  have HR := Lib.hid hR
  have HO := Lib.hid ho
  clear h hh he hp hR ho
  obtain ⟨x0, x1, x2, x3, x4, x5, x6, x7, x8, x9, x10, x11, x12, x13⟩ := phead_map HH.out
  go_enter Tryz.func40, Tryz.ntmps40
  go_wp2_with fail
  go_region_held (fun x => x.cell? ⟨P, 0, none⟩ = some (.int .i64 p.a0) ∧ x.cell? ⟨P, 1, none⟩ = some (.int .i64 p.a1) ∧ x.cell? ⟨P, 2, none⟩ = some (.int .i64 p.a2) ∧ x.cell? ⟨P, 3, none⟩ = some (.int .i64 p.a3) ∧ x.cell? ⟨P, 4, none⟩ = some (.int .i64 p.a4) ∧ x.cell? ⟨P, 5, none⟩ = some (.int .i64 p.a5) ∧ x.cell? ⟨P, 6, none⟩ = some (.int .i64 p.a6) ∧ x.cell? ⟨P, 7, none⟩ = some (.int .i64 p.a7) ∧ x.cell? ⟨P, 8, none⟩ = some (.int .i64 p.a8) ∧ x.cell? ⟨P, 9, none⟩ = some (.int .i64 p.a9) ∧ x.cell? ⟨P, 10, none⟩ = some (.int .i64 p.a10) ∧ x.cell? ⟨P, 11, none⟩ = some (.int .i64 p.a11) ∧ x.cell? ⟨P, 12, none⟩ = some (.int .i64 p.a12) ∧ x.cell? ⟨P, 27, none⟩ = some (.pointer (some ⟨D, 0, none⟩))) (first | go_keep | exact phead_map Z1.out)
    (first
      | (go_at_call 21; (with_reducible refine (KO.out _ (bdrew _)).mono ?_); rintro e w1 ⟨T', H1', rfl, p1, z1, k1⟩; have P1 := Lib.hid p1; have K1 := Lib.hid k1; have Z1 : Hid (PHead w1 P p pw D q E T0 U0) := HH.out.of z1; clear p1 z1 k1))
  all_goals
    clear x0 x1 x2 x3 x4 x5 x6 x7 x8 x9 x10 x11 x12 x13
    obtain ⟨y0, y1, y2, y3, y4, y5, y6, y7, y8, y9, y10, y11, y12, y13⟩ := phead_plan Z1.out
    have RO : Hid (∀ y, Below w1.heap.size w1 y → Calls Tryz.prog 93 #[.pointer (some ⟨E, 0, none⟩), (.agg #[.int .i64 p.a0, .int .i64 p.a1, .int .i64 p.a2, .int .i64 p.a3, .int .i64 p.a4, .int .i64 p.a5, .int .i64 p.a6, .int .i64 p.a7, .int .i64 p.a8, .int .i64 p.a9, .int .i64 p.a10, .int .i64 p.a11, .int .i64 p.a12])] y fun e y' => ∃ U' H2', e = .returned (.tuple #[.pointer (some ⟨U', 0, none⟩), .int .i64 0]) ∧ Pr w0 P p n N pw D q E (some ⟨T', 0, none⟩) (some ⟨U', 0, none⟩) F G H1' H2' R.2 R.2 (some R.1) (some R.1) y' ∧ y'.heap[P]? = w1.heap[P]? ∧ Kp w1 (Us F pw G q H1' H2) y' (Us F pw G q H1' H2')) := fun y hy =>
      ((P1.out.below hy).ropen HP.out HZ.out HO.out R HR.out).mono fun e y' ⟨U', H2', e1, e4, e5, e6⟩ => ⟨U', H2', e1, e4, e5.trans (hy.block P P1.out.lt.1), (Kp.of_below hy _).trans e6⟩
    go_wp2_with fail
    go_region_held (fun x => x.cell? ⟨P, 13, none⟩ = some (.int .i64 p.a0) ∧ x.cell? ⟨P, 14, none⟩ = some (.int .i64 p.a1) ∧ x.cell? ⟨P, 15, none⟩ = some (.int .i64 p.a2) ∧ x.cell? ⟨P, 16, none⟩ = some (.int .i64 p.a3) ∧ x.cell? ⟨P, 17, none⟩ = some (.int .i64 p.a4) ∧ x.cell? ⟨P, 18, none⟩ = some (.int .i64 p.a5) ∧ x.cell? ⟨P, 19, none⟩ = some (.int .i64 p.a6) ∧ x.cell? ⟨P, 20, none⟩ = some (.int .i64 p.a7) ∧ x.cell? ⟨P, 21, none⟩ = some (.int .i64 p.a8) ∧ x.cell? ⟨P, 22, none⟩ = some (.int .i64 p.a9) ∧ x.cell? ⟨P, 23, none⟩ = some (.int .i64 p.a10) ∧ x.cell? ⟨P, 24, none⟩ = some (.int .i64 p.a11) ∧ x.cell? ⟨P, 25, none⟩ = some (.int .i64 p.a12) ∧ x.cell? ⟨P, 30, none⟩ = some (.pointer (some ⟨E, 0, none⟩))) (first | go_keep | exact phead_plan Z2.out)
      (first
        | (go_at_call 93; (with_reducible refine (RO.out _ (bdrew _)).mono ?_); rintro e w2 ⟨U', H2', rfl, p2, z2, k2⟩; have P2 := Lib.hid p2; have K2 := Lib.hid (K1.out.trans k2); have Z2 : Hid (PHead w2 P p pw D q E T0 U0) := Z1.out.of z2; clear p2 z2 k2))
    all_goals
      clear y0 y1 y2 y3 y4 y5 y6 y7 y8 y9 y10 y11 y12 y13
      have c28 := (Z2.out.cell 28).1.trans (show _ = some (.pointer T0) from rfl)
      have c31 := (Z2.out.cell 31).1.trans (show _ = some (.pointer U0) from rfl)
      have f28 := (Z2.out.cell 28).2
      have f31 := (Z2.out.cell 31).2
      have P4 := Lib.hid ((P2.out.store 28 (.pointer (some ⟨T', 0, none⟩))).store 31 (.pointer (some ⟨U', 0, none⟩)))
      have Z4 : Hid (PHead ((w2.setCell ⟨P, 28, none⟩ (.pointer (some ⟨T', 0, none⟩))).setCell ⟨P, 31, none⟩ (.pointer (some ⟨U', 0, none⟩))) P p pw D q E (some ⟨T', 0, none⟩) (some ⟨U', 0, none⟩)) := by
        have e1 : PHead (w2.setCell ⟨P, 28, none⟩ (.pointer (some ⟨T', 0, none⟩))) P p pw D q E (some ⟨T', 0, none⟩) U0 := by
          unfold PHead
          rw [heap_setCell_same _ _ _ _ _ _ Z2.out]
          rfl
        show PHead _ _ _ _ _ _ _ _ _
        unfold PHead
        rw [heap_setCell_same _ _ _ _ _ _ e1]
        rfl
      have K4 : Hid (Kp' w P (Us F pw G q H1 H2) ((w2.setCell ⟨P, 28, none⟩ (.pointer (some ⟨T', 0, none⟩))).setCell ⟨P, 31, none⟩ (.pointer (some ⟨U', 0, none⟩))) (Us F pw G q H1' H2')) := (K2.out.but P).cell2 _ _ _ _
      clear P2 Z2 K2
      go_wp2
      go_ret
      exact ⟨rfl, T', U', _, _, P4.out, Z4.out, K4.out⟩
end
end Go.Proofs.YtapklelkcicjlaaGreatDoor.Pd.Sl

/-
  What the walks of this layer's statements share: the acts that are looked at, a pair as it begins. No conditions.
-/
import Derived.Test.YtgdgehfapfgdfaaGreatDoorGbTold
namespace Go.Proofs.YtgdgehfapfgdfaaGreatDoor.Tb
open Go.RowKit Oc Dm W Dw Sr Gt
set_option linter.unusedVariables false
set_option maxRecDepth 100000

/-- acts that are looked at, as long as nothing but a pair turns -/
def RowAt (wf : World) (P : Nat) (Zf : Nat → Prop) (v : Value) (B : Nat) (l : List (List Value)) : Prop := ∀ (y : World) (Z : Nat → Prop), Kp' wf P Zf y Z → OwnS y 35 14 B v l
section
variable {w0 w w' w1 wf : World} {P n N pw D q E ne np ga k c : Nat} {p : Pn.Pl} {T U A : Option Addr} {F G H1 H2 Z1 Z Zf : Nat → Prop} {m1 m2 : Vs} {t : Option (List Gp)} {L : Nat → ActV} {ls : List Int}
theorem row_at {v : Value} {B : Nat} {l : List (List Value)} (h : OwnS wf 35 14 B v l) (hZ : ∀ b, Zf b ∨ b = P → b < B) : RowAt wf P Zf v B l := fun y Z k =>
  h.keep fun g hg => (k.at_ g (h.ge g hg).2 (fun x => by have := hZ g x; have := (h.ge g hg).1; omega)).1
theorem RowAt.form {v : Value} {B j : Nat} (h : RowAt wf P Zf v B (fewL L j)) : ∃ A c, v = .slice A j c ∧ j ≤ c ∧ c ≤ maxLen := by
  obtain ⟨A, c, h1, h2, h3⟩ := (h wf Zf (Kp'.refl _ _ _)).form (fewL_len L j)
  exact ⟨A, c, h1, h2, h3⟩
/-- the cells of one -/
theorem RowAt.cells {B j i : Nat} (h : RowAt wf P Zf (.slice A j c) B (fewL L j)) (hi : i < j) : ∃ g, A = some ⟨g, 0, none⟩ ∧ ∀ (y : World) (Z : Nat → Prop), Kp' wf P Zf y Z → ∀ e u, (cut (L i)).cells[e]? = some u → y.cell? ⟨g, i * 14 + e, none⟩ = some u := by
  obtain ⟨g, cap, hv, _, _, _, _⟩ := (h wf Zf (Kp'.refl _ _ _)).here (fewL_len L j) (by omega)
  injection hv with h1 h2 h3
  subst h1 h3
  exact ⟨g, rfl, fun y Z k e u hu => ((h y Z k).cell (fewL_len L j) (fewL_at hi) hu).1⟩
/-- an act's cells, one by one -/
theorem act14 {w : World} {g o : Nat} {kind z : Int} {la fa : Option Addr} {ll lc fl fc u v' : Nat} {ls fs : List Int} {xg : Gp} (h : ∀ e y, (ActV.mk kind z la ll lc ls u v' fa fl fc fs xg).cells[e]? = some y → w.cell? ⟨g, o + e, none⟩ = some y) :
    w.cell? ⟨g, o, none⟩ = some (.int .i64 kind) ∧ w.cell? ⟨g, o + 1, none⟩ = some (.int .i64 z) ∧ w.cell? ⟨g, o + 2, none⟩ = some (.slice la ll lc) ∧ w.cell? ⟨g, o + 3, none⟩ = some (.int .u64 (u : Int)) ∧ w.cell? ⟨g, o + 4, none⟩ = some (.int .u64 (v' : Int)) ∧ w.cell? ⟨g, o + 5, none⟩ = some (.slice fa fl fc) ∧ w.cell? ⟨g, o + 6, none⟩ = some (.int .i64 xg.no) ∧ w.cell? ⟨g, o + 7, none⟩ = some (.int .u64 (xg.v : Int)) ∧ w.cell? ⟨g, o + 8, none⟩ = some (.int .u64 (xg.g 0 : Int)) ∧ w.cell? ⟨g, o + 9, none⟩ = some (.int .u64 (xg.g 1 : Int)) ∧ w.cell? ⟨g, o + 10, none⟩ = some (.int .u64 (xg.g 2 : Int)) ∧ w.cell? ⟨g, o + 11, none⟩ = some (.int .u64 (xg.g 3 : Int)) ∧ w.cell? ⟨g, o + 12, none⟩ = some (.int .u64 (xg.g 4 : Int)) ∧ w.cell? ⟨g, o + 13, none⟩ = some (.int .u64 (xg.g 5 : Int)) :=
  ⟨h 0 _ rfl, h 1 _ rfl, h 2 _ rfl, h 3 _ rfl, h 4 _ rfl, h 5 _ rfl, h 6 _ rfl, h 7 _ rfl, h 8 _ rfl, h 9 _ rfl, h 10 _ rfl, h 11 _ rfl, h 12 _ rfl, h 13 _ rfl⟩
theorem st_told (h : St w0 P p n N m1 m2 t t w1 Z1 w) (hp : Pln p ne np ga n) (hg : PagesO t np) (z : Int) (hf : Fi w0 A k ls) (hk : k ≤ 100000) :
    Calls Tryz.prog 10 #[.pointer (some ⟨P, 0, none⟩), .int .i64 z, .slice A k c] w fun e w' => e = .returned (.bool true) ∧ Below w.heap.size w w' := by
  obtain ⟨pw, D, q, E, T, U, F, G, H1, H2, r, h2, kk⟩ := h
  cases t with
  | none => exact (told_none r h2 z A k c).mono fun e w' ⟨e1, e2⟩ => by subst e2; exact ⟨e1, Below.refl _ _⟩
  | some L => exact told_some r h2 hp (hg L rfl) z (hf.below r.bel) hk
theorem St.kp (h : St w0 P p n N m1 m2 t t w1 Z1 w) : ∃ Z, Kp' w1 P Z1 w Z := by
  obtain ⟨pw, D, q, E, T, U, F, G, H1, H2, r, h2, kk⟩ := h
  exact ⟨_, kk⟩
theorem St.bel {t1 t2 : Option (List Gp)} (h : St w0 P p n N m1 m2 t1 t2 w1 Z1 w) : Below w0.heap.size w0 w := by
  obtain ⟨pw, D, q, E, T, U, F, G, H1, H2, r, h2, kk⟩ := h
  exact r.bel
/-- a plan of so many blocks -/
theorem pln_any (x : Nat) (hx : x ≤ 99) (c : Pn.Cf) (hc : c = Pn.cfOf (1 + (x : Int) % 512) (1 + (0 : Int) % 192) (1 + (0 : Int) % 256)) (p : Pn.Pl) (hp : p = Pn.planOf c.c0 c.c1 c.c2) : Pln p (x / 8 + 1) (x / 48 + 1) (1 + x) (1 + x + 2 * (x / 48 + 1)) := by
  have e : p = Pn.planOf (1 + (x : Int)) 1 1 := by
    rw [hp, hc]
    show Pn.planOf (1 + (x : Int) % 512) 1 1 = _
    rw [show (x : Int) % 512 = (x : Int) by omega]
  rw [e]
  exact pln_plan x hx
/-- begin, for some plan -/
theorem begin_some (x : Nat) (hx : x ≤ 99) (w : World) (he : Env w) : ∃ p ne np ga n, Pln p ne np ga n ∧ np ≤ 3 ∧ Calls Tryz.prog 7 #[.int .u16 (x : Int)] w fun e w' => ∃ P m L, e = .returned (.tuple #[.pointer (some ⟨P, 0, none⟩), .bool true]) ∧ St w P p n 8 m m (some L) (some L) w (fun b => w.heap.size ≤ b) w' ∧ Begun x ne np ga n p m L := by
  obtain ⟨c, hc⟩ : ∃ c, c = Pn.cfOf (1 + (x : Int) % 512) (1 + (0 : Int) % 192) (1 + (0 : Int) % 256) := ⟨_, rfl⟩
  obtain ⟨p, hp⟩ : ∃ p, p = Pn.planOf c.c0 c.c1 c.c2 := ⟨_, rfl⟩
  have hP := pln_any x hx c hc p hp
  refine ⟨p, _, _, _, _, hP, by omega, (begin_any x hx c hc p hp _ _ _ _ hP w he).mono ?_⟩
  rintro e w' ⟨P, pw, D, q, E, T, U, m, L, e1, ⟨F, G, H1, H2, r⟩, h2, bg⟩
  refine ⟨P, m, L, e1, ⟨pw, D, q, E, some ⟨T, 0, none⟩, U, F, G, H1, H2, r.more (by omega) (by omega), h2, ?_⟩, bg⟩
  exact ⟨r.bel.size, fun b hb _ => ⟨r.bel.block b hb, fun y => by
    rcases y with y | y
    · have := (r.ubound y).1; omega
    · have := r.lt.2; omega⟩⟩
/-- from here on -/
theorem St.here {t1 t2 : Option (List Gp)} (h : St w0 P p n N m1 m2 t1 t2 w1 Z1 w) : ∃ Z, St w0 P p n N m1 m2 t1 t2 w Z w ∧ ∀ b, Z b ∨ b = P → b < w.heap.size := by
  obtain ⟨pw, D, q, E, T, U, F, G, H1, H2, r, h2, kk⟩ := h
  exact ⟨_, ⟨pw, D, q, E, T, U, F, G, H1, H2, r, h2, Kp'.refl _ _ _⟩, r.uP⟩
theorem St.from_ {t1 t2 : Option (List Gp)} (h : St w0 P p n N m1 m2 t1 t2 w1 Z1 w) (hb : Below w.heap.size w w') (hZ : ∀ b, Z1 b ∨ b = P → b < w.heap.size) (e : w1 = w) : St w0 P p n N m1 m2 t1 t2 w' Z1 w' := by
  subst e
  obtain ⟨pw, D, q, E, T, U, F, G, H1, H2, r, h2, kk⟩ := h
  refine ⟨pw, D, q, E, T, U, F, G, H1, H2, r.below hb, h2.below hb, ⟨Nat.le_refl _, fun b hbb x => ⟨rfl, fun y => ?_⟩⟩⟩
  have hbw := r.uP b y
  exact (kk.at_ b hbw x).2 y
end
end Go.Proofs.YtgdgehfapfgdfaaGreatDoor.Tb

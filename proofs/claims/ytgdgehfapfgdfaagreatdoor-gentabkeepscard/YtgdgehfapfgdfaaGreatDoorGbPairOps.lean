/-
  Bump, Open on a pair. No conditions.
-/
import Derived.Test.YtgdgehfapfgdfaaGreatDoorGbPair
namespace Go.Proofs.YtgdgehfapfgdfaaGreatDoor.Tb
open Go.RowKit Oc Dm W Dw Sr
set_option linter.unusedVariables false
set_option maxRecDepth 100000
section
variable {w0 w w' : World} {P n N N' pw D q E ne np ga : Nat} {p : Pn.Pl} {T U : Option Addr} {F G H1 H2 : Nat → Prop} {m1 m2 : Vs} {t1 t2 : Option (List Gp)} {L : List Gp} {k c : Nat} {A : Option Addr} {ls : List Int}
theorem Pr.env (h : Pr w0 P p n N pw D q E T U F G H1 H2 m1 m2 t1 t2 w) (he : Env w0) : Env w ∧ ∀ b, Al F pw b → 0 < b := by
  refine ⟨he.below h.bel, fun b x => ?_⟩
  obtain ⟨t, fr, hh⟩ := he
  have := lt_of_heap hh
  have := (h.ap.lo b (.inl x)).1
  omega
theorem Pr.bump (h : Pr w0 P p n N pw D q E T U F G H1 H2 m1 m2 (some L) t2 w) (he : Env w0) (hp : Pln p ne np ga n) (hl : Pages L np) (hf : Fi w A k ls) (hk : k ≤ 1000000) (hN : N + np + 1 ≤ 1000000) (v : Int) (L2 : List Gp) (m' : Vs) (hr : bmp ga ne ls m1 L = (v, L2, m')) :
    Calls Tryz.prog 12 #[.pointer T, .slice A k c] w fun e w' => e = .returned (.int .i64 v) ∧ Pr w0 P p n (N + np + 1) pw D q E T U (Ext F w w') G H1 H2 m' m2 (some L2) t2 w' ∧ w'.heap[P]? = w.heap[P]? ∧ Kp w (Us F pw G q H1 H2) w' (Us (Ext F w w') pw G q H1 H2) := by
  obtain ⟨t, g, cap, rfl, ht⟩ := h.tb1
  obtain ⟨he1, he2⟩ := h.env he
  exact (bump_any h.pd he1 he2 hp hl ht (fun b x y => h.ap.d13 y x) (fun b x => (h.ap.lo b (.inr (.inr (.inl x)))).2) hf hk hN v L2 m' hr).mono fun e w' ⟨e1, e2, e3, e4⟩ =>
    ⟨e1, h.prog (by omega) hN e2 ⟨_, _, _, rfl, e3⟩ e4⟩
theorem Pr.rbump (h : Pr w0 P p n N pw D q E T U F G H1 H2 m1 m2 t1 (some L) w) (hp : Pln p ne np ga n) (hl : Pages L np) (hf : Fi w A k ls) (hk : k ≤ 1000000) (hN : N + np + 1 ≤ 1000000) (v : Int) (L2 : List Gp) (m' : Vs) (hr : bmp ga ne ls m2 L = (v, L2, m')) :
    Calls Tryz.prog 30 #[.pointer U, .slice A k c] w fun e w' => e = .returned (.int .i64 v) ∧ (∃ G' H', Pr w0 P p n (N + np + 1) pw D q E T U F G' H1 H' m1 m' t1 (some L2) w' ∧ Kp w (Us F pw G q H1 H2) w' (Us F pw G' q H1 H')) ∧ w'.heap[P]? = w.heap[P]? := by
  obtain ⟨t, g, cap, rfl, ht⟩ := h.tb2
  refine (rbump_any h.rd hp hl ht (fun b x y => h.ap.d24 y x) (fun b x => (h.ap.lo b (.inr (.inr (.inr (.inl x))))).2) hf hk hN v L2 m' hr).mono fun e w' ⟨e1, s, s1, s2, e2, ⟨g', cap', e3⟩, e4⟩ => ?_
  refine ⟨e1, ⟨_, _, ⟨(h.pd.kept e4 (fun b x y => y.elim (fun z => h.ap.d12 x z) (fun z => h.ap.d14 x z))).more (by omega) hN, e2, h.tb1.kept e4 (fun b x y => y.elim (fun z => h.ap.d23 z x) (fun z => h.ap.d34 x z)), ⟨_, _, _, rfl, e3⟩, ?_, h.bel_of e4 (fun b x => x.elim (fun y => .inr (.inl y)) (fun y => .inr (.inr (.inr (.inl y)))))⟩, Kp.of_chg e4 (fun b x => x.elim (fun y => .inr (.inl y)) (fun y => .inr (.inr (.inr y)))) (fun b x => ?_)⟩, e4.block P h.lt.1 (fun x => x.elim h.ap.p2 h.ap.p4)⟩
  rotate_left
  · rcases x with x | x | x | x
    · exact .inl (.inl x)
    · exact x.elim (fun y => y.elim (fun z => .inl (.inr (.inl (.inl z)))) (fun z => .inr (by omega))) (fun y => .inl (.inr (.inl (.inr y))))
    · exact .inl (.inr (.inr (.inl x)))
    · exact x.elim (fun y => .inl (.inr (.inr (.inr y)))) (fun y => .inr y.1)
  refine h.ap.turn (fun b => if s ≤ b then 2 else 4) e4.size h.bel.size _ _ _ _ (fun b x => .inl x) (fun b x => ?_) (fun b x => .inl x) (fun b x => ?_)
  · rcases x with (x | x) | x
    · exact .inl (.inl x)
    · exact .inr ⟨if_pos x.1, by omega, x.2⟩
    · exact .inl (.inr x)
  · rcases x with x | x
    · exact .inl x
    · exact .inr ⟨if_neg (by omega), x.1, by omega⟩
def opt (v : Int) (L : List Gp) : Option (List Gp) := if v = 0 then some L else none
/-- the program's Open: a table of its own -/
theorem Pr.open_ (h : Pr w0 P p n N pw D q E T U F G H1 H2 m1 m2 t1 t2 w) (he : Env w0) (hp : Pln p ne np ga n) (v : Int) (L : List Gp) (m' : Vs) (hr : opn ga np 0 m1 [] = (v, L, m')) :
    Calls Tryz.prog 19 #[.pointer (some ⟨D, 0, none⟩), (.agg #[.int .i64 p.a0, .int .i64 p.a1, .int .i64 p.a2, .int .i64 p.a3, .int .i64 p.a4, .int .i64 p.a5, .int .i64 p.a6, .int .i64 p.a7, .int .i64 p.a8, .int .i64 p.a9, .int .i64 p.a10, .int .i64 p.a11, .int .i64 p.a12])] w fun e w' => ∃ T', e = .returned (.tuple #[.pointer T', .int .i64 v]) ∧ (T' = none ↔ ¬ v = 0) ∧ (∃ H', Pr w0 P p n N pw D q E T' U F G H' H2 m' m2 (opt v L) t2 w' ∧ Kp w (Us F pw G q H1 H2) w' (Us F pw G q H' H2)) ∧ w'.heap[P]? = w.heap[P]? := by
  obtain ⟨he1, he2⟩ := h.env he
  refine (open_yes h.pd he1 (fun k x => he2 k (.inl x)) hp _ hr).mono fun e w' ⟨e1, e2, e3⟩ => ?_
  have hb := e3.block P h.lt.1 (fun x => h.ap.p1 (.inl x))
  rcases e1 with ⟨e0, T', g, cap, e4, e5, e6⟩ | ⟨e0, e4⟩
  · have e0 : v = 0 := e0
    refine ⟨_, by rw [e4, e0], ⟨fun x => (by cases x), fun x => absurd e0 x⟩, ⟨_, ⟨e2, h.rd.kept e3 (fun b x y => h.ap.d12 (.inl y) x), (by unfold opt; rw [if_pos e0]; exact ⟨_, _, _, rfl, e5⟩), h.tb2.kept e3 (fun b x y => h.ap.d14 (.inl y) x), ?_, h.bel_of e3 (fun b x => .inl (.inl x))⟩, Kp.of_chg e3 (fun b x => .inl (.inl x)) (fun b x => x.elim (fun y => .inl (.inl y)) (fun x => x.elim (fun y => .inl (.inr (.inl y))) (fun x => x.elim (fun (y : _ ∧ _) => .inr y.1) (fun y => .inl (.inr (.inr (.inr y)))))))⟩, hb⟩
    exact h.ap.turn (fun _ => 3) e3.size h.bel.size _ _ _ _ (fun b x => .inl x) (fun b x => .inl x) (fun b x => .inr ⟨rfl, x⟩) (fun b x => .inl x)
  · have e0 : ¬ v = 0 := e0
    refine ⟨none, e4, ⟨fun _ => e0, fun _ => rfl⟩, ⟨fun _ => False, ⟨e2, h.rd.kept e3 (fun b x y => h.ap.d12 (.inl y) x), (by unfold opt; rw [if_neg e0]; exact rfl), h.tb2.kept e3 (fun b x y => h.ap.d14 (.inl y) x), ?_, h.bel_of e3 (fun b x => .inl (.inl x))⟩, Kp.of_chg e3 (fun b x => .inl (.inl x)) (fun b x => x.elim (fun y => .inl (.inl y)) (fun x => x.elim (fun y => .inl (.inr (.inl y))) (fun x => x.elim (fun y => y.elim) (fun y => .inl (.inr (.inr (.inr y)))))))⟩, hb⟩
    exact h.ap.turn (fun _ => 0) e3.size h.bel.size _ _ _ _ (fun b x => .inl x) (fun b x => .inl x) (fun b x => x.elim) (fun b x => .inl x)
theorem Pr.ropen (h : Pr w0 P p n N pw D q E T U F G H1 H2 m1 m2 t1 t2 w) (hz : ∀ i, i < n → (m2.S i).stands.length = 64) (hp : Pln p ne np ga n) (v : Int) (L : List Gp) (m' : Vs) (hr : opn ga np 0 m2 [] = (v, L, m')) :
    Calls Tryz.prog 69 #[.pointer (some ⟨E, 0, none⟩), (.agg #[.int .i64 p.a0, .int .i64 p.a1, .int .i64 p.a2, .int .i64 p.a3, .int .i64 p.a4, .int .i64 p.a5, .int .i64 p.a6, .int .i64 p.a7, .int .i64 p.a8, .int .i64 p.a9, .int .i64 p.a10, .int .i64 p.a11, .int .i64 p.a12])] w fun e w' => ∃ U', e = .returned (.tuple #[.pointer U', .int .i64 v]) ∧ (U' = none ↔ ¬ v = 0) ∧ (∃ H', Pr w0 P p n N pw D q E T U' F G H1 H' m1 m' t1 (opt v L) w' ∧ Kp w (Us F pw G q H1 H2) w' (Us F pw G q H1 H')) ∧ w'.heap[P]? = w.heap[P]? := by
  refine (ropen_any h.rd hp hz _ hr).mono fun e w' ⟨e1, e2, e3⟩ => ?_
  have hb := e3.block P h.lt.1 (fun x => h.ap.p2 (.inl x))
  rcases e1 with ⟨e0, T', g, cap, e4, e5, e6⟩ | ⟨e0, e4⟩
  · have e0 : v = 0 := e0
    refine ⟨_, by rw [e4, e0], ⟨fun x => (by cases x), fun x => absurd e0 x⟩, ⟨_, ⟨h.pd.kept e3 (fun b x y => h.ap.d12 x (.inl y)), e2, h.tb1.kept e3 (fun b x y => h.ap.d23 (.inl y) x), (by unfold opt; rw [if_pos e0]; exact ⟨_, _, _, rfl, e5⟩), ?_, h.bel_of e3 (fun b x => .inr (.inl (.inl x)))⟩, Kp.of_chg e3 (fun b x => .inr (.inl (.inl x))) (fun b x => x.elim (fun y => .inl (.inl y)) (fun x => x.elim (fun y => .inl (.inr (.inl y))) (fun x => x.elim (fun y => .inl (.inr (.inr (.inl y)))) (fun (y : _ ∧ _) => .inr y.1))))⟩, hb⟩
    exact h.ap.turn (fun _ => 4) e3.size h.bel.size _ _ _ _ (fun b x => .inl x) (fun b x => .inl x) (fun b x => .inl x) (fun b x => .inr ⟨rfl, x⟩)
  · have e0 : ¬ v = 0 := e0
    refine ⟨none, e4, ⟨fun _ => e0, fun _ => rfl⟩, ⟨fun _ => False, ⟨h.pd.kept e3 (fun b x y => h.ap.d12 x (.inl y)), e2, h.tb1.kept e3 (fun b x y => h.ap.d23 (.inl y) x), (by unfold opt; rw [if_neg e0]; exact rfl), ?_, h.bel_of e3 (fun b x => .inr (.inl (.inl x)))⟩, Kp.of_chg e3 (fun b x => .inr (.inl (.inl x))) (fun b x => x.elim (fun y => .inl (.inl y)) (fun x => x.elim (fun y => .inl (.inr (.inl y))) (fun x => x.elim (fun y => .inl (.inr (.inr (.inl y)))) (fun y => y.elim))))⟩, hb⟩
    exact h.ap.turn (fun _ => 0) e3.size h.bel.size _ _ _ _ (fun b x => .inl x) (fun b x => .inl x) (fun b x => .inl x) (fun b x => x.elim)
end
end Go.Proofs.YtgdgehfapfgdfaaGreatDoor.Tb

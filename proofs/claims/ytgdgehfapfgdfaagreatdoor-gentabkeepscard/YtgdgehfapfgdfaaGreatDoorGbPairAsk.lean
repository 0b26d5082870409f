/-
  What a pair is asked. No conditions.
-/
import Derived.Test.YtgdgehfapfgdfaaGreatDoorGbPairOps
namespace Go.Proofs.YtgdgehfapfgdfaaGreatDoor.Tb
open Go.RowKit Oc Dm W Dw Sr
set_option linter.unusedVariables false
section
variable {w0 w w' : World} {P n N N' pw D q E ne np ga : Nat} {p : Pn.Pl} {T U : Option Addr} {F G H1 H2 : Nat → Prop} {m1 m2 : Vs} {t1 t2 : Option (List Gp)} {L : List Gp} {k c : Nat} {A : Option Addr} {ls : List Int}
theorem Pr.get_yes (h : Pr w0 P p n N pw D q E T U F G H1 H2 m1 m2 (some L) t2 w) (hp : Pln p ne np ga n) (hl : L.length = np) (e : Nat) (he : e < ne) :
    Calls Tryz.prog 25 #[.pointer T, .int .i64 (e : Int)] w fun r w' => r = .returned (.tuple #[.int .u64 (gen L e : Int), .bool true]) ∧ Below w.heap.size w w' := by
  obtain ⟨t, g, cap, rfl, ht⟩ := h.tb1
  exact Tb.get_yes ht hp hl e he
theorem Pr.get_no (h : Pr w0 P p n N pw D q E T U F G H1 H2 m1 m2 (some L) t2 w) (hp : Pln p ne np ga n) (x : Int) (hx : ¬ (0 ≤ x ∧ x < (ne : Int))) :
    Calls Tryz.prog 25 #[.pointer T, .int .i64 x] w fun r w' => r = .returned (.tuple #[.int .u64 0, .bool false]) ∧ Below w.heap.size w w' := by
  obtain ⟨t, g, cap, rfl, ht⟩ := h.tb1
  exact Tb.get_no ht hp x hx
theorem Pr.all (h : Pr w0 P p n N pw D q E T U F G H1 H2 m1 m2 (some L) t2 w) (hp : Pln p ne np ga n) (hl : L.length = np) :
    Calls Tryz.prog 13 #[.pointer T] w fun e w' => ∃ g', e = .returned (.slice (some ⟨g', 0, none⟩) ne ne) ∧ Rw.OwnV w' 30 w.heap.size (.slice (some ⟨g', 0, none⟩) ne ne) (gensV L ne) ∧ Below w.heap.size w w' := by
  obtain ⟨t, g, cap, rfl, ht⟩ := h.tb1
  exact all_any ht hp hl
theorem Pr.pages (h : Pr w0 P p n N pw D q E T U F G H1 H2 m1 m2 (some L) t2 w) (hp : Pln p ne np ga n) (hf : Fi w A k ls) (hk : k ≤ 1000000000) :
    Calls Tryz.prog 26 #[.pointer T, .slice A k c] w fun e w' => e = .returned (.int .i64 ((hits (inside ls ne) np).length : Int)) ∧ Below w.heap.size w w' := by
  obtain ⟨t, g, cap, rfl, ht⟩ := h.tb1
  exact pages_any ht hp hf hk
theorem Pr.rget_yes (h : Pr w0 P p n N pw D q E T U F G H1 H2 m1 m2 t1 (some L) w) (hp : Pln p ne np ga n) (hl : L.length = np) (e : Nat) (he : e < ne) :
    Calls Tryz.prog 39 #[.pointer U, .int .i64 (e : Int)] w fun r w' => r = .returned (.tuple #[.int .u64 (gen L e : Int), .bool true]) ∧ w = w' := by
  obtain ⟨t, g, cap, rfl, ht⟩ := h.tb2
  exact Tb.rget_yes ht hp hl e he
theorem Pr.rget_no (h : Pr w0 P p n N pw D q E T U F G H1 H2 m1 m2 t1 (some L) w) (hp : Pln p ne np ga n) (x : Int) (hx : ¬ (0 ≤ x ∧ x < (ne : Int))) :
    Calls Tryz.prog 39 #[.pointer U, .int .i64 x] w fun r w' => r = .returned (.tuple #[.int .u64 0, .bool false]) ∧ w = w' := by
  obtain ⟨t, g, cap, rfl, ht⟩ := h.tb2
  exact Tb.rget_no ht hp x hx
theorem Pr.rall (h : Pr w0 P p n N pw D q E T U F G H1 H2 m1 m2 t1 (some L) w) (hp : Pln p ne np ga n) (hl : L.length = np) :
    Calls Tryz.prog 42 #[.pointer U] w fun e w' => ∃ v, e = .returned v ∧ Rw.OwnV w' 30 w.heap.size v (gensV L ne) ∧ Below w.heap.size w w' := by
  obtain ⟨t, g, cap, rfl, ht⟩ := h.tb2
  exact rall_any ht hp hl
theorem Pr.rnext (h : Pr w0 P p n N pw D q E T U F G H1 H2 m1 m2 t1 (some L) w) (hp : Pln p ne np ga n) (hl : Pages L np) (hf : Fi w A k ls) (hk : k ≤ 1000000) :
    Calls Tryz.prog 40 #[.pointer U, .slice A k c] w fun e w' => ∃ g1 c1 g2, e = .returned (.tuple #[.slice (some ⟨g1, 0, none⟩) np c1, .slice (some ⟨g2, 0, none⟩) np np]) ∧ Rw.OwnV w' 4 w.heap.size (.slice (some ⟨g2, 0, none⟩) np np) (flags (inside ls ne) np) ∧ Below w.heap.size w w' := by
  obtain ⟨t, g, cap, rfl, ht⟩ := h.tb2
  exact (rnext_any ht hp hl hf hk).mono fun e w' ⟨g1, c1, g2, e1, e2, e3, _, _, e6⟩ => ⟨g1, c1, g2, e1, e3, e6⟩
end
end Go.Proofs.YtgdgehfapfgdfaaGreatDoor.Tb

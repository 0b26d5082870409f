/-
  The contract of Reader.Bytes where there are as many. No conditions.
-/
import Derived.Test.YtckjnplaceaalaaDoorKOct
namespace Go.Proofs.YtckjnplaceaalaaDoor.W
open Go.RowKit Oc
set_option linter.unusedVariables false

/-- what Bytes leaves where there are as many -/
def Got (w : World) (R : Nat) (ys xs : List UInt8) (e : Ending) (w' : World) : Prop :=
  ∃ v, e = .returned v ∧ Own w' 5 w.heap.size v ys ∧ Rd w' 63 R xs true ∧ w.grownBy w' (some R)

theorem own_set {w w' : World} {e : TypeId} {B R : Nat} {v : Value} {xs : List UInt8} (h : Own w e B v xs) (hR : R < B) (hg : w.grownBy w' (some R)) : Own w' e B v xs :=
  h.keep fun g hg' => hg.block g (h.ge g hg').2 (fun e => by injection e with e; have := (h.ge g hg').1; omega)

theorem got {w w1 : World} {R : Nat} {xs ys : List UInt8} {v : Value} {u : Value} (hR : R < w.heap.size) (ho : Own w1 5 w.heap.size v ys) (hb : Below w.heap.size w w1)
    (h : Rd (w1.setCell ⟨R, 0, none⟩ u) 63 R xs true ∧ w1.grownBy (w1.setCell ⟨R, 0, none⟩ u) (some R)) : Got w R ys xs (.returned v) (w1.setCell ⟨R, 0, none⟩ u) :=
  ⟨v, rfl, own_set ho hR h.2, h.1, grown_trans (grown_of_below hb _) h.2⟩

set_option maxHeartbeats 1000000 in
theorem bytes_take {w : World} {R : Nat} {xs : List UInt8} (k : Nat) (h : Rd w 63 R xs true) (hn : xs.length ≤ 1000000000) (hk : k ≤ xs.length) :
    Calls Tryd.prog 38 #[.pointer (some ⟨R, 0, none⟩), .int .i64 (k : Int)] w (Got w R (xs.take k) (xs.drop k)) := by
  have H := Lib.hid h
  have hR := h.lt
  obtain ⟨A, c, hh, hc, ho⟩ := h
  have HO := Lib.hid ho
  obtain ⟨c0, c1, f0, f1⟩ := pair_cell hh
  have HH := Lib.hid hh
  clear hh f0 f1 c1 ho
  go_enter Tryd.func38, Tryd.ntmps38
  go_wp2_with fail
  refine (bad_rd H.out).mono ?_; rintro e w' ⟨rfl, rfl⟩
  go_wp2_with (at_builtin; refine wpList_append_to (w0 := w) rfl _ _ 25 rfl bt rfl (Own.nil _ _ _) (Below.refl _ _) _ rfl (HO.out.take hk) (by simp; omega) ?_; intro v1 w1 o1 b1; obtain ⟨d0, d1, g0, g1⟩ := pair_cell ((b1.block R hR).trans HH.out); rw [List.nil_append] at o1; obtain ⟨A1, c1, rfl, l1, s1⟩ := o1.form (n := k) (by rw [List.length_take]; omega); have S1 := Lib.hid s1; have O1 := Lib.hid o1; have B1 := Lib.hid b1; clear o1 b1 s1 d1 g1)
  all_goals (go_ret; first | exact got hR O1.out B1.out (rd_cut ((B1.out.block R hR).trans HH.out) (HO.out.below B1.out) hc hk) | exact got hR O1.out B1.out (rd_cut_end ((B1.out.block R hR).trans HH.out) hc hk ‹_›))
end Go.Proofs.YtckjnplaceaalaaDoor.W

/-
  What is told of a pair; the page's example. No conditions.
-/
import Derived.Test.YtikbbikcacoobaaGreatDoorIvDoKit
import Derived.BigQuiet
import Derived.Deep.RegionHeld
import Derived.Deep.DrawnRows
namespace Go.Proofs.YtikbbikcacoobaaGreatDoor.Pd.Iv
open Go.RowKit Oc Dm W Dw Sr Gt
set_option linter.unusedVariables false
set_option maxRecDepth 100000
attribute [local go_sem ↓] Go.wp_at_zero Go.wp_at_succ
section
variable {w0 w : World} {P n N pw D q E la lg B : Nat} {p : Pn.Pl} {T U : Option Addr} {F G H1 H2 : Nat → Prop} {m m1 m2 : Vs} {g : Lg}
set_option maxHeartbeats 8000000 in
theorem told_any (h : Pr w0 P p n N pw D q E T U F G H1 H2 m1 m2 (some g) (some g) w) (hh : PHead w P p pw D q E T U) (hp : Pln p la lg n) (hg : GOk B lg g) :
    Calls Tryz.prog 8 #[.pointer (some ⟨P, 0, none⟩)] w fun e w' => e = .returned (.bool true) ∧ Below w.heap.size w w' := by
  obtain ⟨tb, rfl, _, hl1⟩ := h.lg1
  obtain ⟨ub, rfl, hub, hl2⟩ := h.tb2
  have H1' := Lib.hid hl1
  have H2' := Lib.hid hl2
  have HH := Lib.hid hh
  have HP := Lib.hid hp
  have HG := Lib.hid hg
  have KF : Hid (∀ y, Below w.heap.size w y → Calls Tryz.prog 15 #[.pointer (some ⟨tb, 0, none⟩)] y fun e y' => e = .returned (.int .u64 (g.f : Int)) ∧ y = y') := fun y hy => first_any (hl1.below hy)
  have KN : Hid (∀ y, Below w.heap.size w y → Calls Tryz.prog 11 #[.pointer (some ⟨tb, 0, none⟩)] y fun e y' => e = .returned (.int .u64 (g.nx : Int)) ∧ y = y') := fun y hy => next_any (hl1.below hy)
  have KE : Hid (∀ y, Below w.heap.size w y → Calls Tryz.prog 12 #[.pointer (some ⟨tb, 0, none⟩)] y fun e y' => e = .returned (.int .u64 (g.ep : Int)) ∧ y = y') := fun y hy => epoch_any (hl1.below hy)
  have KR : Hid (∀ y, Below w.heap.size w y → Calls Tryz.prog 25 #[.pointer (some ⟨tb, 0, none⟩)] y fun e y' => e = .returned (.int .i64 (room lg g)) ∧ Below y.heap.size y y') := fun y hy => room_any (hl1.below hy) HP.out HG.out
  have KS : Hid (∀ y, Below w.heap.size w y → Calls Tryz.prog 44 #[.pointer (some ⟨ub, 0, none⟩)] y fun e y' => e = .returned (.int .i64 (room lg g)) ∧ Below y.heap.size y y') := fun y hy => rroom_any (hl2.below hy) HP.out HG.out
  have CS : Hid (∀ y, Below w.heap.size w y → y.cell? ⟨P, 28, none⟩ = some (.pointer (some ⟨tb, 0, none⟩)) ∧ y.cell? ⟨P, 31, none⟩ = some (.pointer (some ⟨ub, 0, none⟩)) ∧ y.cell? ⟨ub, 14, none⟩ = some (.int .u64 (g.f : Int)) ∧ y.cell? ⟨ub, 15, none⟩ = some (.int .u64 (g.nx : Int)) ∧ y.cell? ⟨ub, 16, none⟩ = some (.int .u64 (g.ep : Int))) := fun y hy => by
    obtain ⟨c0, c14, c15, c16, _⟩ := (hl2.below hy).cells
    exact ⟨(phead_all (hh.below hy)).2.2.1, (phead_all (hh.below hy)).2.2.2.2.2.1, c14, c15, c16⟩
  clear h hh hl1 hl2 hub hp hg
  obtain ⟨c28, c31, u14, u15, u16⟩ := CS.out w (Below.refl _ _)
  go_enter Tryz.func8, Tryz.ntmps8
  go_wp2_with fail
  go_region_held (fun y => y.cell? ⟨P, 28, none⟩ = some (.pointer (some ⟨tb, 0, none⟩)) ∧ y.cell? ⟨P, 31, none⟩ = some (.pointer (some ⟨ub, 0, none⟩)) ∧ y.cell? ⟨ub, 14, none⟩ = some (.int .u64 (g.f : Int)) ∧ y.cell? ⟨ub, 15, none⟩ = some (.int .u64 (g.nx : Int)) ∧ y.cell? ⟨ub, 16, none⟩ = some (.int .u64 (g.ep : Int))) (first | go_keep | exact CS.out _ B2.out | exact CS.out _ B1.out | exact CS.out _ (bdrew _))
    (first
      | (go_at_call 15; (with_reducible refine (KF.out _ (bdrew _)).mono ?_); rintro e w' ⟨rfl, rfl⟩)
      | (go_at_call 11; (with_reducible refine (KN.out _ (bdrew _)).mono ?_); rintro e w' ⟨rfl, rfl⟩)
      | (go_at_call 12; (with_reducible refine (KE.out _ (bdrew _)).mono ?_); rintro e w' ⟨rfl, rfl⟩)
      | (go_at_call 25; (with_reducible refine (KR.out _ (bdrew _)).mono ?_); rintro e w1 ⟨rfl, b1⟩; have B1 : Hid (Below w.heap.size w w1) := bthen (bdrew _) b1; clear b1)
      | (go_at_call 44; (with_reducible refine (KS.out _ B1.out).mono ?_); rintro e w2 ⟨rfl, b2⟩; have B2 : Hid (Below w.heap.size w w2) := bthen B1.out b2; clear b2))
  all_goals go_wp2
  all_goals (go_ret; exact ⟨by simp, B2.out⟩)
end
end Go.Proofs.YtikbbikcacoobaaGreatDoor.Pd.Iv

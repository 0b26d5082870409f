/-
  Elder texts, one behind the other: IvDo0, IvDo1, IvDo2, IvDo3, IvDo4, IvDo5, IvDo6, IvDo7, IvDo8, IvDo9, IvDoN, IvDoAll. No conditions.
-/
import Derived.Test.YtikbbikcacoobaaGreatDoorIvDoKit
import Derived.Test.YtikbbikcacoobaaGreatDoorIvAt
import Derived.BigQuiet
import Derived.Deep.RegionHeld
import Derived.Deep.DrawnRows
/-! A call on a pair: Append. No conditions. -/
namespace Go.Proofs.YtikbbikcacoobaaGreatDoor.Pd.Iv
set_option maxRecDepth 100000
open Go.RowKit Oc Dm W Dw Sr Gt
set_option linter.unusedVariables false
set_option maxRecDepth 100000
attribute [local go_sem ↓] Go.wp_at_zero Go.wp_at_succ
section
variable {w0 w : World} {P n N pw D q E la lg B : Nat} {p : Pn.Pl} {T U : Option Addr} {F G H1 H2 : Nat → Prop} {m : Vs} {g : Lg}
set_option maxHeartbeats 8000000 in
theorem do0 (h : Pr w0 P p n N pw D q E T U F G H1 H2 m m (some g) (some g) w) (hh : PHead w P p pw D q E T U) (he : Env w0) (hp : Pln p la lg n) (hg : GOk B lg g) (hB : B + 300 ≤ 1000000000) (hB1 : 1023 ≤ B) (hN : N + 8 ≤ 1000000) (z xt : Int) (gn : Nat) (ma : UInt8) (u v : Nat) (fa : Option Addr) (fl fc : Nat) (fs : List Int) (x : Rc) :
    Calls Tryz.prog 7 #[.pointer (some ⟨P, 0, none⟩), .agg #[.int .i64 0, .int .i64 z, .int .i64 xt, .int .u64 (gn : Int), .int .u8 (ma.toNat : Int), .int .u64 (u : Int), .int .u64 (v : Int), .slice fa fl fc, .int .u64 (x.q : Int), .int .u64 (x.h : Int), .int .i64 x.x, .int .u64 (x.g : Int), .int .u8 (x.m.toNat : Int)]] w fun e w' => e = .returned (.bool true) ∧ Done w0 P p n (N + 8) (B + 300) lg w (Us F pw G q H1 H2) w' := by
  have H := Lib.hid h
  have HH := Lib.hid hh
  have HE := Lib.hid he
  have HP := Lib.hid hp
  have HG := Lib.hid hg
  obtain ⟨v0, g2, m2, hr⟩ : ∃ v0 g2 m2, app la lg ⟨g.nx, g.ep, xt, gn, ma⟩ g m = (v0, g2, m2) := ⟨_, _, _, rfl⟩
  have HR := Lib.hid hr
  have HG2 : Hid (GOk (B + 300) lg g2) := by
    have := app_ok (la := la) (p := ⟨g.nx, g.ep, xt, gn, ma⟩) (m := m) hg (by omega)
    rw [hr] at this
    exact GOk.more this (by omega) hB
  clear hr
  clear h hh he hp hg
  go_enter Tryz.func7, Tryz.ntmps7
  go_wp2_with ((with_reducible refine L_boxAct (cs := #[.int .i64 0, .int .i64 z, .int .i64 xt, .int .u64 (gn : Int), .int .u8 (ma.toNat : Int), .int .u64 (u : Int), .int .u64 (v : Int), .slice fa fl fc, .int .u64 (x.q : Int), .int .u64 (x.h : Int), .int .i64 x.x, .int .u64 (x.g : Int), .int .u8 (x.m.toNat : Int)]) ?_ ?_); exact rfl; intro w1 b1 bx1; have B1 := Lib.hid b1; have PR1 := Lib.hid (H.out.below b1); have PH1 := Lib.hid (HH.out.below b1); have K1 := Lib.hid (Kp'.of_below b1 P (Us F pw G q H1 H2)); have BX1 := Lib.hid (bx1 P (Us F pw G q H1 H2) H.out.uP); have a0 := BX1.out.cells 0 _ rfl; have a2 := BX1.out.cells 2 _ rfl; have a3 := BX1.out.cells 3 _ rfl; have a4 := BX1.out.cells 4 _ rfl; obtain ⟨c26, c27, c28, c29, c30, c31, cf⟩ := phead_all PH1.out; clear b1 bx1)
  have KB : Hid (∀ y, Below w1.heap.size w1 y → Calls Tryz.prog 13 #[.pointer T, .int .i64 xt, .int .u64 (gn : Int), .int .u8 (ma.toNat : Int)] y fun e y' => e = .returned (.int .i64 v0) ∧ Pr w0 P p n (N + 1) pw D q E T U (Ext F y y') G H1 H2 m2 m (some g2) (some g) y' ∧ y'.heap[P]? = y.heap[P]? ∧ Kp y (Us F pw G q H1 H2) y' (Us (Ext F y y') pw G q H1 H2)) := fun y hy =>
    (PR1.out.below hy).append HE.out HP.out HG.out (by omega) xt gn ma (v0, g2, m2) HR.out
  go_region_held (fun x => x.cell? ⟨P, 28, none⟩ = some (.pointer T) ∧ x.cell? ⟨P, 31, none⟩ = some (.pointer U) ∧ x.cell? ⟨w.heap.size, 2, none⟩ = some (.int .i64 xt) ∧ x.cell? ⟨w.heap.size, 3, none⟩ = some (.int .u64 (gn : Int)) ∧ x.cell? ⟨w.heap.size, 4, none⟩ = some (.int .u8 (ma.toNat : Int))) (first | go_keep | exact ⟨(phead_all PH3.out).2.2.1, (phead_all PH3.out).2.2.2.2.2.1, BX3.out.cells 2 _ rfl, BX3.out.cells 3 _ rfl, BX3.out.cells 4 _ rfl⟩ | exact ⟨(phead_all PH2.out).2.2.1, (phead_all PH2.out).2.2.2.2.2.1, BX2.out.cells 2 _ rfl, BX2.out.cells 3 _ rfl, BX2.out.cells 4 _ rfl⟩)
    (first
      | (go_at_call 13; (with_reducible refine (KB.out _ (bdrew _)).mono ?_); rintro e w2 ⟨rfl, p2, h2, k2⟩; have PR2 := Lib.hid p2; have PH2 := Lib.hid ((PH1.out.below (bdrew _)).of h2); have K2 := Lib.hid ((K1.out.trans (Kp'.of_below (bdrew _) P _)).trans (k2.but P)); have BX2 := Lib.hid (BX1.out.kp ((Kp'.of_below (bdrew _) P _).trans (k2.but P))); clear p2 h2 k2)
      | (go_at_call 32; (with_reducible refine (PR2.out.rappend HP.out HG.out (by omega) xt gn ma (v0, g2, m2) HR.out).mono ?_); rintro e w3 ⟨rfl, p3, h3, k3⟩; have PR3 := Lib.hid p3; have PH3 := Lib.hid (PH2.out.of h3); have K3 := Lib.hid (K2.out.trans (k3.but P)); have BX3 := Lib.hid (BX2.out.kp (k3.but P)); clear p3 h3 k3))
  all_goals go_wp2
  all_goals (go_ret; exact ⟨rfl, .of PR3.out PH3.out K3.out (by omega) hN (HG2.out)⟩)
end
end Go.Proofs.YtikbbikcacoobaaGreatDoor.Pd.Iv

/-! A call on a pair: Cut. No conditions. -/
namespace Go.Proofs.YtikbbikcacoobaaGreatDoor.Pd.Iv
set_option maxRecDepth 100000
open Go.RowKit Oc Dm W Dw Sr Gt
set_option linter.unusedVariables false
set_option maxRecDepth 100000
attribute [local go_sem ↓] Go.wp_at_zero Go.wp_at_succ
section
variable {w0 w : World} {P n N pw D q E la lg B : Nat} {p : Pn.Pl} {T U : Option Addr} {F G H1 H2 : Nat → Prop} {m : Vs} {g : Lg}
set_option maxHeartbeats 8000000 in
theorem do1 (h : Pr w0 P p n N pw D q E T U F G H1 H2 m m (some g) (some g) w) (hh : PHead w P p pw D q E T U) (he : Env w0) (hp : Pln p la lg n) (hg : GOk B lg g) (hB : B + 300 ≤ 1000000000) (hB1 : 1023 ≤ B) (hN : N + 8 ≤ 1000000) (z xt : Int) (gn : Nat) (ma : UInt8) (u v : Nat) (fa : Option Addr) (fl fc : Nat) (fs : List Int) (x : Rc) :
    Calls Tryz.prog 7 #[.pointer (some ⟨P, 0, none⟩), .agg #[.int .i64 1, .int .i64 z, .int .i64 xt, .int .u64 (gn : Int), .int .u8 (ma.toNat : Int), .int .u64 (u : Int), .int .u64 (v : Int), .slice fa fl fc, .int .u64 (x.q : Int), .int .u64 (x.h : Int), .int .i64 x.x, .int .u64 (x.g : Int), .int .u8 (x.m.toNat : Int)]] w fun e w' => e = .returned (.bool true) ∧ Done w0 P p n (N + 8) (B + 300) lg w (Us F pw G q H1 H2) w' := by
  have H := Lib.hid h
  have HH := Lib.hid hh
  have HE := Lib.hid he
  have HP := Lib.hid hp
  have HG := Lib.hid hg
  obtain ⟨zz, hzz⟩ : ∃ zz : Nat, IntKind.u64.wrap z = (zz : Int) := ⟨(IntKind.u64.wrap z).toNat, by rw [IntKind.wrap_u64]; omega⟩
  obtain ⟨t, htt⟩ : ∃ t : Nat, IntKind.u64.wrap ((g.f : Int) + (zz : Int)) = (t : Int) := ⟨(IntKind.u64.wrap ((g.f : Int) + (zz : Int))).toNat, by rw [IntKind.wrap_u64]; omega⟩
  have ht : t < 18446744073709551616 := by have := htt; rw [IntKind.wrap_u64] at this; omega
  have HZZ := Lib.hid hzz
  have HTT := Lib.hid htt
  obtain ⟨b0, hb0⟩ : ∃ b0, cutB t g = b0 := ⟨_, rfl⟩
  obtain ⟨g2, hg2⟩ : ∃ g2, cutG t g = g2 := ⟨_, rfl⟩
  have HB0 := Lib.hid hb0
  have HGG := Lib.hid hg2
  have HG2 : Hid (GOk (B + 300) lg g2) := by show GOk _ _ _; rw [← hg2]; exact (cut_ok hg).more (by omega) hB
  obtain ⟨ub, rfl, hub, _⟩ := h.lg2
  have HU := Lib.hid hub
  clear hzz htt hb0 hg2 hub
  clear h hh he hp hg
  go_enter Tryz.func7, Tryz.ntmps7
  go_wp2_with ((with_reducible refine L_boxAct (cs := #[.int .i64 1, .int .i64 z, .int .i64 xt, .int .u64 (gn : Int), .int .u8 (ma.toNat : Int), .int .u64 (u : Int), .int .u64 (v : Int), .slice fa fl fc, .int .u64 (x.q : Int), .int .u64 (x.h : Int), .int .i64 x.x, .int .u64 (x.g : Int), .int .u8 (x.m.toNat : Int)]) ?_ ?_); exact rfl; intro w1 b1 bx1; have B1 := Lib.hid b1; have PR1 := Lib.hid (H.out.below b1); have PH1 := Lib.hid (HH.out.below b1); have K1 := Lib.hid (Kp'.of_below b1 P (Us F pw G q H1 H2)); have BX1 := Lib.hid (bx1 P (Us F pw G q H1 H2) H.out.uP); have a0 := BX1.out.cells 0 _ rfl; have a1 := BX1.out.cells 1 _ rfl; obtain ⟨c26, c27, c28, c29, c30, c31, cf⟩ := phead_all PH1.out; clear b1 bx1)
  have u14 : w1.cell? ⟨ub, 14, none⟩ = some (.int .u64 (g.f : Int)) := by obtain ⟨_, e, _, k⟩ := PR1.out.lg2; injection e with e; injection e with e; subst e; exact k.1
  have hzz := HZZ.out
  have htt := HTT.out
  go_quiet (fail)
  have PR2 := Lib.hid (PR1.out.below (below_drewN (Below.refl _ _) nq))
  have PH2 := Lib.hid (PH1.out.below (below_drewN (Below.refl _ _) nq))
  have K2 := Lib.hid (K1.out.trans (Kp'.of_below (below_drewN (Below.refl _ _) nq) P _))
  clear a0 a1 c26 c27 c28 c29 c30 c31 cf u14 hzz htt
  generalize w1.drewN nq = w2 at PR2 PH2 K2 ⊢
  obtain ⟨c26, c27, c28, c29, c30, c31, cf⟩ := phead_all PH2.out
  have KB : Hid (∀ y, Below w2.heap.size w2 y → Calls Tryz.prog 14 #[.pointer T, .int .u64 (t : Int)] y fun e y' => e = .returned (.bool b0) ∧ Pr w0 P p n N pw D q E T (some ⟨ub, 0, none⟩) (Ext F y y') G H1 H2 m m (some g2) (some g) y' ∧ y'.heap[P]? = y.heap[P]? ∧ Kp y (Us F pw G q H1 H2) y' (Us (Ext F y y') pw G q H1 H2)) := fun y hy => by
    have := (PR2.out.below hy).cut t ht
    rwa [HB0.out, HGG.out] at this
  have KC : Hid (∀ y F' N', Pr w0 P p n N' pw D q E T (some ⟨ub, 0, none⟩) F' G H1 H2 m m (some g2) (some g) y → Calls Tryz.prog 33 #[.pointer (some ⟨ub, 0, none⟩), .int .u64 (t : Int)] y fun e y' => e = .returned (.bool b0) ∧ Pr w0 P p n N' pw D q E T (some ⟨ub, 0, none⟩) F' (Ext G y y') H1 H2 m m (some g2) (some g2) y' ∧ y'.heap[P]? = y.heap[P]? ∧ Kp y (Us F' pw G q H1 H2) y' (Us F' pw (Ext G y y') q H1 H2)) := fun y F' N' hy => by
    have := hy.rcut t ht
    rwa [HB0.out, HGG.out] at this
  go_wp2_with fail
  go_region_held (fun x => x.cell? ⟨P, 28, none⟩ = some (.pointer T) ∧ x.cell? ⟨P, 31, none⟩ = some (.pointer (some ⟨ub, 0, none⟩))) (first | go_keep | exact ⟨(phead_all PH4.out).2.2.1, (phead_all PH4.out).2.2.2.2.2.1⟩ | exact ⟨(phead_all PH3.out).2.2.1, (phead_all PH3.out).2.2.2.2.2.1⟩)
    (first
      | (go_at_call 14; (with_reducible refine (KB.out _ (bdrew _)).mono ?_); rintro e w3 ⟨rfl, p3, h3, k3⟩; have PR3 := Lib.hid p3; have PH3 := Lib.hid ((PH2.out.below (bdrew _)).of h3); have K3 := Lib.hid ((K2.out.trans (Kp'.of_below (bdrew _) P _)).trans (k3.but P)); clear p3 h3 k3)
      | (go_at_call 33; (with_reducible refine (KC.out _ _ _ PR3.out).mono ?_); rintro e w4 ⟨rfl, p4, h4, k4⟩; have PR4 := Lib.hid p4; have PH4 := Lib.hid (PH3.out.of h4); have K4 := Lib.hid (K3.out.trans (k4.but P)); clear p4 h4 k4))
  all_goals go_wp2
  all_goals (go_ret; exact ⟨by simp, .of PR4.out PH4.out K4.out (by omega) hN HG2.out⟩)
end
end Go.Proofs.YtikbbikcacoobaaGreatDoor.Pd.Iv

/-! A call on a pair: Begin. No conditions. -/
namespace Go.Proofs.YtikbbikcacoobaaGreatDoor.Pd.Iv
set_option maxRecDepth 100000
open Go.RowKit Oc Dm W Dw Sr Gt
set_option linter.unusedVariables false
set_option maxRecDepth 100000
attribute [local go_sem ↓] Go.wp_at_zero Go.wp_at_succ
section
variable {w0 w : World} {P n N pw D q E la lg B : Nat} {p : Pn.Pl} {T U : Option Addr} {F G H1 H2 : Nat → Prop} {m : Vs} {g : Lg}
set_option maxHeartbeats 8000000 in
theorem do2 (h : Pr w0 P p n N pw D q E T U F G H1 H2 m m (some g) (some g) w) (hh : PHead w P p pw D q E T U) (he : Env w0) (hp : Pln p la lg n) (hg : GOk B lg g) (hB : B + 300 ≤ 1000000000) (hB1 : 1023 ≤ B) (hN : N + 8 ≤ 1000000) (z xt : Int) (gn : Nat) (ma : UInt8) (u v : Nat) (fa : Option Addr) (fl fc : Nat) (fs : List Int) (x : Rc) :
    Calls Tryz.prog 7 #[.pointer (some ⟨P, 0, none⟩), .agg #[.int .i64 2, .int .i64 z, .int .i64 xt, .int .u64 (gn : Int), .int .u8 (ma.toNat : Int), .int .u64 (u : Int), .int .u64 (v : Int), .slice fa fl fc, .int .u64 (x.q : Int), .int .u64 (x.h : Int), .int .i64 x.x, .int .u64 (x.g : Int), .int .u8 (x.m.toNat : Int)]] w fun e w' => e = .returned (.bool true) ∧ Done w0 P p n (N + 8) (B + 300) lg w (Us F pw G q H1 H2) w' := by
  have H := Lib.hid h
  have HH := Lib.hid hh
  have HE := Lib.hid he
  have HP := Lib.hid hp
  have HG := Lib.hid hg
  obtain ⟨zz, hzz⟩ : ∃ zz : Nat, IntKind.u64.wrap z = (zz : Int) := ⟨(IntKind.u64.wrap z).toNat, by rw [IntKind.wrap_u64]; omega⟩
  obtain ⟨t, htt⟩ : ∃ t : Nat, IntKind.u64.wrap ((g.ep : Int) + (zz : Int)) = (t : Int) := ⟨(IntKind.u64.wrap ((g.ep : Int) + (zz : Int))).toNat, by rw [IntKind.wrap_u64]; omega⟩
  have ht : t < 18446744073709551616 := by have := htt; rw [IntKind.wrap_u64] at this; omega
  have HZZ := Lib.hid hzz
  have HTT := Lib.hid htt
  obtain ⟨b0, hb0⟩ : ∃ b0, begB t g = b0 := ⟨_, rfl⟩
  obtain ⟨g2, hg2⟩ : ∃ g2, begG t g = g2 := ⟨_, rfl⟩
  have HB0 := Lib.hid hb0
  have HGG := Lib.hid hg2
  have HG2 : Hid (GOk (B + 300) lg g2) := by show GOk _ _ _; rw [← hg2]; exact (beg_ok hg).more (by omega) hB
  obtain ⟨ub, rfl, hub, _⟩ := h.lg2
  have HU := Lib.hid hub
  clear hzz htt hb0 hg2 hub
  clear h hh he hp hg
  go_enter Tryz.func7, Tryz.ntmps7
  go_wp2_with ((with_reducible refine L_boxAct (cs := #[.int .i64 2, .int .i64 z, .int .i64 xt, .int .u64 (gn : Int), .int .u8 (ma.toNat : Int), .int .u64 (u : Int), .int .u64 (v : Int), .slice fa fl fc, .int .u64 (x.q : Int), .int .u64 (x.h : Int), .int .i64 x.x, .int .u64 (x.g : Int), .int .u8 (x.m.toNat : Int)]) ?_ ?_); exact rfl; intro w1 b1 bx1; have B1 := Lib.hid b1; have PR1 := Lib.hid (H.out.below b1); have PH1 := Lib.hid (HH.out.below b1); have K1 := Lib.hid (Kp'.of_below b1 P (Us F pw G q H1 H2)); have BX1 := Lib.hid (bx1 P (Us F pw G q H1 H2) H.out.uP); have a0 := BX1.out.cells 0 _ rfl; have a1 := BX1.out.cells 1 _ rfl; obtain ⟨c26, c27, c28, c29, c30, c31, cf⟩ := phead_all PH1.out; clear b1 bx1)
  have u14 : w1.cell? ⟨ub, 16, none⟩ = some (.int .u64 (g.ep : Int)) := by obtain ⟨_, e, _, k⟩ := PR1.out.lg2; injection e with e; injection e with e; subst e; exact k.2.2
  have hzz := HZZ.out
  have htt := HTT.out
  go_quiet (fail)
  have PR2 := Lib.hid (PR1.out.below (below_drewN (Below.refl _ _) nq))
  have PH2 := Lib.hid (PH1.out.below (below_drewN (Below.refl _ _) nq))
  have K2 := Lib.hid (K1.out.trans (Kp'.of_below (below_drewN (Below.refl _ _) nq) P _))
  clear a0 a1 c26 c27 c28 c29 c30 c31 cf u14 hzz htt
  generalize w1.drewN nq = w2 at PR2 PH2 K2 ⊢
  obtain ⟨c26, c27, c28, c29, c30, c31, cf⟩ := phead_all PH2.out
  have KB : Hid (∀ y, Below w2.heap.size w2 y → Calls Tryz.prog 16 #[.pointer T, .int .u64 (t : Int)] y fun e y' => e = .returned (.bool b0) ∧ Pr w0 P p n N pw D q E T (some ⟨ub, 0, none⟩) (Ext F y y') G H1 H2 m m (some g2) (some g) y' ∧ y'.heap[P]? = y.heap[P]? ∧ Kp y (Us F pw G q H1 H2) y' (Us (Ext F y y') pw G q H1 H2)) := fun y hy => by
    have := (PR2.out.below hy).beg t
    rwa [HB0.out, HGG.out] at this
  have KC : Hid (∀ y F' N', Pr w0 P p n N' pw D q E T (some ⟨ub, 0, none⟩) F' G H1 H2 m m (some g2) (some g) y → Calls Tryz.prog 34 #[.pointer (some ⟨ub, 0, none⟩), .int .u64 (t : Int)] y fun e y' => e = .returned (.bool b0) ∧ Pr w0 P p n N' pw D q E T (some ⟨ub, 0, none⟩) F' (Ext G y y') H1 H2 m m (some g2) (some g2) y' ∧ y'.heap[P]? = y.heap[P]? ∧ Kp y (Us F' pw G q H1 H2) y' (Us F' pw (Ext G y y') q H1 H2)) := fun y F' N' hy => by
    have := hy.rbeg t
    rwa [HB0.out, HGG.out] at this
  go_wp2_with fail
  go_region_held (fun x => x.cell? ⟨P, 28, none⟩ = some (.pointer T) ∧ x.cell? ⟨P, 31, none⟩ = some (.pointer (some ⟨ub, 0, none⟩))) (first | go_keep | exact ⟨(phead_all PH4.out).2.2.1, (phead_all PH4.out).2.2.2.2.2.1⟩ | exact ⟨(phead_all PH3.out).2.2.1, (phead_all PH3.out).2.2.2.2.2.1⟩)
    (first
      | (go_at_call 16; (with_reducible refine (KB.out _ (bdrew _)).mono ?_); rintro e w3 ⟨rfl, p3, h3, k3⟩; have PR3 := Lib.hid p3; have PH3 := Lib.hid ((PH2.out.below (bdrew _)).of h3); have K3 := Lib.hid ((K2.out.trans (Kp'.of_below (bdrew _) P _)).trans (k3.but P)); clear p3 h3 k3)
      | (go_at_call 34; (with_reducible refine (KC.out _ _ _ PR3.out).mono ?_); rintro e w4 ⟨rfl, p4, h4, k4⟩; have PR4 := Lib.hid p4; have PH4 := Lib.hid (PH3.out.of h4); have K4 := Lib.hid (K3.out.trans (k4.but P)); clear p4 h4 k4))
  all_goals go_wp2
  all_goals (go_ret; exact ⟨by simp, .of PR4.out PH4.out K4.out (by omega) hN HG2.out⟩)
end
end Go.Proofs.YtikbbikcacoobaaGreatDoor.Pd.Iv

/-! A call on a pair: Flush. No conditions. -/
namespace Go.Proofs.YtikbbikcacoobaaGreatDoor.Pd.Iv
set_option maxRecDepth 100000
open Go.RowKit Oc Dm W Dw Sr Gt
set_option linter.unusedVariables false
set_option maxRecDepth 100000
attribute [local go_sem ↓] Go.wp_at_zero Go.wp_at_succ
section
variable {w0 w : World} {P n N pw D q E la lg B : Nat} {p : Pn.Pl} {T U : Option Addr} {F G H1 H2 : Nat → Prop} {m : Vs} {g : Lg}
set_option maxHeartbeats 8000000 in
theorem do3 (h : Pr w0 P p n N pw D q E T U F G H1 H2 m m (some g) (some g) w) (hh : PHead w P p pw D q E T U) (he : Env w0) (hp : Pln p la lg n) (hg : GOk B lg g) (hB : B + 300 ≤ 1000000000) (hB1 : 1023 ≤ B) (hN : N + 8 ≤ 1000000) (z xt : Int) (gn : Nat) (ma : UInt8) (u v : Nat) (fa : Option Addr) (fl fc : Nat) (fs : List Int) (x : Rc) :
    Calls Tryz.prog 7 #[.pointer (some ⟨P, 0, none⟩), .agg #[.int .i64 3, .int .i64 z, .int .i64 xt, .int .u64 (gn : Int), .int .u8 (ma.toNat : Int), .int .u64 (u : Int), .int .u64 (v : Int), .slice fa fl fc, .int .u64 (x.q : Int), .int .u64 (x.h : Int), .int .i64 x.x, .int .u64 (x.g : Int), .int .u8 (x.m.toNat : Int)]] w fun e w' => e = .returned (.bool true) ∧ Done w0 P p n (N + 8) (B + 300) lg w (Us F pw G q H1 H2) w' := by
  have H := Lib.hid h
  have HH := Lib.hid hh
  have HE := Lib.hid he
  have HP := Lib.hid hp
  have HG := Lib.hid hg
  have HG2 : Hid (GOk (B + 300) lg g) := hg.more (by omega) hB
  obtain ⟨ev, hev⟩ : ∃ ev, (fl1 m).1 = ev := ⟨_, rfl⟩
  have HV := Lib.hid hev
  clear hev
  clear h hh he hp hg
  go_enter Tryz.func7, Tryz.ntmps7
  go_wp2_with ((with_reducible refine L_boxAct (cs := #[.int .i64 3, .int .i64 z, .int .i64 xt, .int .u64 (gn : Int), .int .u8 (ma.toNat : Int), .int .u64 (u : Int), .int .u64 (v : Int), .slice fa fl fc, .int .u64 (x.q : Int), .int .u64 (x.h : Int), .int .i64 x.x, .int .u64 (x.g : Int), .int .u8 (x.m.toNat : Int)]) ?_ ?_); exact rfl; intro w1 b1 bx1; have B1 := Lib.hid b1; have PR1 := Lib.hid (H.out.below b1); have PH1 := Lib.hid (HH.out.below b1); have K1 := Lib.hid (Kp'.of_below b1 P (Us F pw G q H1 H2)); have BX1 := Lib.hid (bx1 P (Us F pw G q H1 H2) H.out.uP); have a0 := BX1.out.cells 0 _ rfl; obtain ⟨c26, c27, c28, c29, c30, c31, cf⟩ := phead_all PH1.out; clear b1 bx1)
  have KB : Hid (∀ y, Below w1.heap.size w1 y → Calls Tryz.prog 17 #[.pointer (some ⟨D, 0, none⟩)] y fun e y' => e = .returned (.int .i64 (fl1 m).1) ∧ Pr w0 P p n (N + 1) pw D q E T U (Ext F y y') G H1 H2 (fl1 m).2 m (some g) (some g) y' ∧ y'.heap[P]? = y.heap[P]? ∧ Kp y (Us F pw G q H1 H2) y' (Us (Ext F y y') pw G q H1 H2)) := fun y hy =>
    (PR1.out.below hy).flush (by omega)
  go_region_held (fun x => x.cell? ⟨P, 27, none⟩ = some (.pointer (some ⟨D, 0, none⟩)) ∧ x.cell? ⟨P, 30, none⟩ = some (.pointer (some ⟨E, 0, none⟩))) (first | go_keep | exact ⟨(phead_all PH3.out).2.1, (phead_all PH3.out).2.2.2.2.1⟩ | exact ⟨(phead_all PH2.out).2.1, (phead_all PH2.out).2.2.2.2.1⟩)
    (first
      | (go_at_call 17; (with_reducible refine (KB.out _ (bdrew _)).mono ?_); rintro e w2 ⟨rfl, p2, h2, k2⟩; rw [HV.out]; have PR2 := Lib.hid p2; have PH2 := Lib.hid ((PH1.out.below (bdrew _)).of h2); have K2 := Lib.hid ((K1.out.trans (Kp'.of_below (bdrew _) P _)).trans (k2.but P)); have BX2 := Lib.hid (BX1.out.kp ((Kp'.of_below (bdrew _) P _).trans (k2.but P))); clear p2 h2 k2)
      | (go_at_call 35; (with_reducible refine (PR2.out.rflush (by omega)).mono ?_); rintro e w3 ⟨rfl, p3, h3, k3⟩; rw [HV.out]; have PR3 := Lib.hid p3; have PH3 := Lib.hid (PH2.out.of h3); have K3 := Lib.hid (K2.out.trans (k3.but P)); have BX3 := Lib.hid (BX2.out.kp (k3.but P)); clear p3 h3 k3))
  all_goals go_wp2
  all_goals (go_ret; exact ⟨rfl, .of PR3.out PH3.out K3.out (by omega) hN (HG2.out)⟩)
end
end Go.Proofs.YtikbbikcacoobaaGreatDoor.Pd.Iv

/-! A call on a pair: Fail. No conditions. -/
namespace Go.Proofs.YtikbbikcacoobaaGreatDoor.Pd.Iv
set_option maxRecDepth 100000
open Go.RowKit Oc Dm W Dw Sr Gt
set_option linter.unusedVariables false
set_option maxRecDepth 100000
attribute [local go_sem ↓] Go.wp_at_zero Go.wp_at_succ
section
variable {w0 w : World} {P n N pw D q E la lg B : Nat} {p : Pn.Pl} {T U : Option Addr} {F G H1 H2 : Nat → Prop} {m : Vs} {g : Lg}
set_option maxHeartbeats 8000000 in
theorem do4 (h : Pr w0 P p n N pw D q E T U F G H1 H2 m m (some g) (some g) w) (hh : PHead w P p pw D q E T U) (he : Env w0) (hp : Pln p la lg n) (hg : GOk B lg g) (hB : B + 300 ≤ 1000000000) (hB1 : 1023 ≤ B) (hN : N + 8 ≤ 1000000) (z xt : Int) (gn : Nat) (ma : UInt8) (u v : Nat) (fa : Option Addr) (fl fc : Nat) (fs : List Int) (x : Rc) (hu : u < 18446744073709551616) (hv : v < 18446744073709551616) :
    Calls Tryz.prog 7 #[.pointer (some ⟨P, 0, none⟩), .agg #[.int .i64 4, .int .i64 z, .int .i64 xt, .int .u64 (gn : Int), .int .u8 (ma.toNat : Int), .int .u64 (u : Int), .int .u64 (v : Int), .slice fa fl fc, .int .u64 (x.q : Int), .int .u64 (x.h : Int), .int .i64 x.x, .int .u64 (x.g : Int), .int .u8 (x.m.toNat : Int)]] w fun e w' => e = .returned (.bool true) ∧ Done w0 P p n (N + 8) (B + 300) lg w (Us F pw G q H1 H2) w' := by
  have H := Lib.hid h
  have HH := Lib.hid hh
  have HE := Lib.hid he
  have HP := Lib.hid hp
  have HG := Lib.hid hg
  have HG2 : Hid (GOk (B + 300) lg g) := hg.more (by omega) hB
  clear h hh he hp hg
  go_enter Tryz.func7, Tryz.ntmps7
  go_wp2_with ((with_reducible refine L_boxAct (cs := #[.int .i64 4, .int .i64 z, .int .i64 xt, .int .u64 (gn : Int), .int .u8 (ma.toNat : Int), .int .u64 (u : Int), .int .u64 (v : Int), .slice fa fl fc, .int .u64 (x.q : Int), .int .u64 (x.h : Int), .int .i64 x.x, .int .u64 (x.g : Int), .int .u8 (x.m.toNat : Int)]) ?_ ?_); exact rfl; intro w1 b1 bx1; have B1 := Lib.hid b1; have PR1 := Lib.hid (H.out.below b1); have PH1 := Lib.hid (HH.out.below b1); have K1 := Lib.hid (Kp'.of_below b1 P (Us F pw G q H1 H2)); have BX1 := Lib.hid (bx1 P (Us F pw G q H1 H2) H.out.uP); have a0 := BX1.out.cells 0 _ rfl; have a5 := BX1.out.cells 5 _ rfl; have a6 := BX1.out.cells 6 _ rfl; obtain ⟨c26, c27, c28, c29, c30, c31, cf⟩ := phead_all PH1.out; clear b1 bx1)
  have KB : Hid (∀ y, Below w1.heap.size w1 y → Calls Tryz.prog 24 #[.pointer (some ⟨D, 0, none⟩), .int .u64 (u : Int), .int .u64 (v : Int)] y fun e y' => e = .returned (.tuple #[]) ∧ Pr w0 P p n N pw D q E T U (Ext F y y') G H1 H2 { m with rd := u, wr := v } m (some g) (some g) y' ∧ y'.heap[P]? = y.heap[P]? ∧ Kp y (Us F pw G q H1 H2) y' (Us (Ext F y y') pw G q H1 H2)) := fun y hy =>
    (PR1.out.below hy).fail u v hu hv
  go_region_held (fun x => x.cell? ⟨P, 27, none⟩ = some (.pointer (some ⟨D, 0, none⟩)) ∧ x.cell? ⟨w.heap.size, 5, none⟩ = some (.int .u64 (u : Int)) ∧ x.cell? ⟨w.heap.size, 6, none⟩ = some (.int .u64 (v : Int))) (first | go_keep | exact ⟨(phead_all PH2.out).2.1, BX2.out.cells 5 _ rfl, BX2.out.cells 6 _ rfl⟩)
    (first
      | (go_at_call 24; (with_reducible refine (KB.out _ (bdrew _)).mono ?_); rintro e w2 ⟨rfl, p2, h2, k2⟩; have PR2 := Lib.hid p2; have PH2 := Lib.hid ((PH1.out.below (bdrew _)).of h2); have K2 := Lib.hid ((K1.out.trans (Kp'.of_below (bdrew _) P _)).trans (k2.but P)); have BX2 := Lib.hid (BX1.out.kp ((Kp'.of_below (bdrew _) P _).trans (k2.but P))); clear p2 h2 k2))
  all_goals
    clear a0 a5 a6 c26 c27 c28 c29 c30 c31 cf KB
    have a5 := BX2.out.cells 5 _ rfl
    have a6 := BX2.out.cells 6 _ rfl
    obtain ⟨c26, c27, c28, c29, c30, c31, cf⟩ := phead_all PH2.out
    obtain ⟨gs, vs, rv⟩ := PR2.out.rd.rv
    obtain ⟨e0, e1, e2, e3, ef⟩ := rv.cells
    have hne : w.heap.size ≠ E := fun e => BX2.out.off (.inl (.inr (.inl (.inl (e ▸ rv.inG.1)))))
    have hne2 : E ≠ w.heap.size := fun e => hne e.symm
    have hne3 : P ≠ E := fun e => PR2.out.us (.inr (.inl (.inl (e ▸ rv.inG.1))))
    have hne4 : E ≠ P := fun e => hne3 e.symm
    clear rv
    go_wp2_with fail
    go_region
    obtain ⟨G3, p3, h3, k3⟩ := PR2.out.rset2 u hu
    have PR3 := Lib.hid (p3.below (bdrew _))
    have PH3 := Lib.hid ((PH2.out.of h3).below (bdrew _))
    have K3 := Lib.hid (K2.out.trans ((k3.but P).trans (Kp'.of_below (bdrew _) P _)))
    have BX3 := Lib.hid (BX2.out.kp ((k3.but P).trans (Kp'.of_below (bdrew _) P _)))
    clear p3 h3 k3 a5 a6 c26 c27 c28 c29 c30 c31 cf e0 e1 e2 e3 ef
    generalize (w2.setCell ⟨E, 2, none⟩ (.int .u64 (u : Int))).drew = w3 at PR3 PH3 K3 BX3 ⊢
    have a6 := BX3.out.cells 6 _ rfl
    obtain ⟨c26, c27, c28, c29, c30, c31, cf⟩ := phead_all PH3.out
    obtain ⟨gs, vs, rv⟩ := PR3.out.rd.rv
    obtain ⟨e0, e1, e2, e3, ef⟩ := rv.cells
    clear rv
    go_wp2_with fail
    go_region
    obtain ⟨G4, p4, h4, k4⟩ := PR3.out.rset3 v hv
    have PR4 := Lib.hid (p4.below (bdrew _))
    have PH4 := Lib.hid ((PH3.out.of h4).below (bdrew _))
    have K4 := Lib.hid (K3.out.trans ((k4.but P).trans (Kp'.of_below (bdrew _) P _)))
    clear p4 h4 k4 a6 c26 c27 c28 c29 c30 c31 cf e0 e1 e2 e3 ef
    generalize (w3.setCell ⟨E, 3, none⟩ (.int .u64 (v : Int))).drew = w4 at PR4 PH4 K4 ⊢
    go_wp2
    go_ret
    exact ⟨rfl, .of PR4.out PH4.out K4.out (by omega) hN HG2.out⟩
end
end Go.Proofs.YtikbbikcacoobaaGreatDoor.Pd.Iv

/-! A call on a pair: Fuse. No conditions. -/
namespace Go.Proofs.YtikbbikcacoobaaGreatDoor.Pd.Iv
set_option maxRecDepth 100000
open Go.RowKit Oc Dm W Dw Sr Gt
set_option linter.unusedVariables false
set_option maxRecDepth 100000
attribute [local go_sem ↓] Go.wp_at_zero Go.wp_at_succ
section
variable {w0 w : World} {P n N pw D q E la lg B : Nat} {p : Pn.Pl} {T U : Option Addr} {F G H1 H2 : Nat → Prop} {m : Vs} {g : Lg}
set_option maxHeartbeats 8000000 in
theorem do5 (h : Pr w0 P p n N pw D q E T U F G H1 H2 m m (some g) (some g) w) (hh : PHead w P p pw D q E T U) (he : Env w0) (hp : Pln p la lg n) (hg : GOk B lg g) (hB : B + 300 ≤ 1000000000) (hB1 : 1023 ≤ B) (hN : N + 8 ≤ 1000000) (z xt : Int) (gn : Nat) (ma : UInt8) (u v : Nat) (fa : Option Addr) (fl fc : Nat) (fs : List Int) (x : Rc) :
    Calls Tryz.prog 7 #[.pointer (some ⟨P, 0, none⟩), .agg #[.int .i64 5, .int .i64 z, .int .i64 xt, .int .u64 (gn : Int), .int .u8 (ma.toNat : Int), .int .u64 (u : Int), .int .u64 (v : Int), .slice fa fl fc, .int .u64 (x.q : Int), .int .u64 (x.h : Int), .int .i64 x.x, .int .u64 (x.g : Int), .int .u8 (x.m.toNat : Int)]] w fun e w' => e = .returned (.bool true) ∧ Done w0 P p n (N + 8) (B + 300) lg w (Us F pw G q H1 H2) w' := by
  have H := Lib.hid h
  have HH := Lib.hid hh
  have HE := Lib.hid he
  have HP := Lib.hid hp
  have HG := Lib.hid hg
  have HG2 : Hid (GOk (B + 300) lg g) := hg.more (by omega) hB
  obtain ⟨ev, hev⟩ : ∃ ev, PS.fuseE m.s z = ev := ⟨_, rfl⟩
  have HV := Lib.hid hev
  clear hev
  clear h hh he hp hg
  go_enter Tryz.func7, Tryz.ntmps7
  go_wp2_with ((with_reducible refine L_boxAct (cs := #[.int .i64 5, .int .i64 z, .int .i64 xt, .int .u64 (gn : Int), .int .u8 (ma.toNat : Int), .int .u64 (u : Int), .int .u64 (v : Int), .slice fa fl fc, .int .u64 (x.q : Int), .int .u64 (x.h : Int), .int .i64 x.x, .int .u64 (x.g : Int), .int .u8 (x.m.toNat : Int)]) ?_ ?_); exact rfl; intro w1 b1 bx1; have B1 := Lib.hid b1; have PR1 := Lib.hid (H.out.below b1); have PH1 := Lib.hid (HH.out.below b1); have K1 := Lib.hid (Kp'.of_below b1 P (Us F pw G q H1 H2)); have BX1 := Lib.hid (bx1 P (Us F pw G q H1 H2) H.out.uP); have a0 := BX1.out.cells 0 _ rfl; have a1 := BX1.out.cells 1 _ rfl; obtain ⟨c26, c27, c28, c29, c30, c31, cf⟩ := phead_all PH1.out; clear b1 bx1)
  have KB : Hid (∀ y, Below w1.heap.size w1 y → Calls Tryz.prog 10 #[.pointer (some ⟨pw, 0, none⟩), .int .i64 z] y fun e y' => e = .returned (.int .i64 (PS.fuseE m.s z)) ∧ Pr w0 P p n N pw D q E T U (Ext F y y') G H1 H2 { m with s := PS.fuseS m.s z } m (some g) (some g) y' ∧ y'.heap[P]? = y.heap[P]? ∧ Kp y (Us F pw G q H1 H2) y' (Us (Ext F y y') pw G q H1 H2)) := fun y hy =>
    (PR1.out.below hy).fuse z
  go_region_held (fun x => x.cell? ⟨P, 26, none⟩ = some (.pointer (some ⟨pw, 0, none⟩)) ∧ x.cell? ⟨P, 29, none⟩ = some (.pointer (some ⟨q, 0, none⟩)) ∧ x.cell? ⟨w.heap.size, 1, none⟩ = some (.int .i64 z)) (first | go_keep | exact ⟨(phead_all PH3.out).1, (phead_all PH3.out).2.2.2.1, BX3.out.cells 1 _ rfl⟩ | exact ⟨(phead_all PH2.out).1, (phead_all PH2.out).2.2.2.1, BX2.out.cells 1 _ rfl⟩)
    (first
      | (go_at_call 10; (with_reducible refine (KB.out _ (bdrew _)).mono ?_); rintro e w2 ⟨rfl, p2, h2, k2⟩; rw [HV.out]; have PR2 := Lib.hid p2; have PH2 := Lib.hid ((PH1.out.below (bdrew _)).of h2); have K2 := Lib.hid ((K1.out.trans (Kp'.of_below (bdrew _) P _)).trans (k2.but P)); have BX2 := Lib.hid (BX1.out.kp ((Kp'.of_below (bdrew _) P _).trans (k2.but P))); clear p2 h2 k2)
      | (go_at_call 36; (with_reducible refine (PR2.out.rfuse z).mono ?_); rintro e w3 ⟨rfl, p3, h3, k3⟩; rw [HV.out]; have PR3 := Lib.hid p3; have PH3 := Lib.hid (PH2.out.of h3); have K3 := Lib.hid (K2.out.trans (k3.but P)); have BX3 := Lib.hid (BX2.out.kp (k3.but P)); clear p3 h3 k3))
  all_goals go_wp2
  all_goals (go_ret; exact ⟨rfl, .of PR3.out PH3.out K3.out (by omega) hN (HG2.out)⟩)
end
end Go.Proofs.YtikbbikcacoobaaGreatDoor.Pd.Iv

/-! A call on a pair: a crash, and Open. No conditions. -/
namespace Go.Proofs.YtikbbikcacoobaaGreatDoor.Pd.Iv
set_option maxRecDepth 100000
open Go.RowKit Oc Dm W Dw Sr Gt
set_option linter.unusedVariables false
set_option maxRecDepth 100000
attribute [local go_sem ↓] Go.wp_at_zero Go.wp_at_succ
section
variable {w0 w : World} {P n N pw D q E la lg B : Nat} {p : Pn.Pl} {T U : Option Addr} {F G H1 H2 : Nat → Prop} {m : Vs} {g : Lg}
set_option maxHeartbeats 8000000 in
theorem do6 (h : Pr w0 P p n N pw D q E T U F G H1 H2 m m (some g) (some g) w) (hh : PHead w P p pw D q E T U) (he : Env w0) (hp : Pln p la lg n) (hg : GOk B lg g) (hB : B + 300 ≤ 1000000000) (hB1 : 1023 ≤ B) (hN : N + 8 ≤ 1000000) (z xt : Int) (gn : Nat) (ma : UInt8) (u v : Nat) (fa : Option Addr) (fl fc : Nat) (fs : List Int) (x : Rc) (hf : Fi w0 fa fl fs) (hfl : fl ≤ maxLen) :
    Calls Tryz.prog 7 #[.pointer (some ⟨P, 0, none⟩), .agg #[.int .i64 6, .int .i64 z, .int .i64 xt, .int .u64 (gn : Int), .int .u8 (ma.toNat : Int), .int .u64 (u : Int), .int .u64 (v : Int), .slice fa fl fc, .int .u64 (x.q : Int), .int .u64 (x.h : Int), .int .i64 x.x, .int .u64 (x.g : Int), .int .u8 (x.m.toNat : Int)]] w fun e w' => e = .returned (.bool true) ∧ Done w0 P p n (N + 8) (B + 300) lg w (Us F pw G q H1 H2) w' := by
  have H := Lib.hid h
  have HH := Lib.hid hh
  have HE := Lib.hid he
  have HP := Lib.hid hp
  have HG := Lib.hid hg
  have HF := Lib.hid hf
  obtain ⟨L2, m2, hr⟩ : ∃ L2 m2, rdl la lg g.ep lg g.f 0 (crashed n m.S fs) = (L2, m2) := ⟨_, _, rfl⟩
  have HR := Lib.hid hr
  have HG2 : Hid (GOk (B + 300) lg ⟨g.f, g.f + L2.length, g.ep⟩) := by
    have hl := rdl_len (la := la) (lg := lg) (ep := g.ep) lg g.f 0 (crashed n m.S fs)
    rw [hr] at hl
    have h1 := hg.h1
    have h3 := hg.h3
    have h6 := hp.hl2
    exact ⟨Nat.le_add_right _ _, Nat.add_le_add_left hl _, by show g.f + L2.length ≤ _; have : L2.length ≤ lg := hl; omega, hg.h4, hB⟩
  have HF1 : Hid (g.f ≤ most) := by have h1 := hg.h1; have h3 := hg.h3; have h5 := hg.h5; show g.f ≤ 4611686014132420608; omega
  obtain ⟨ub, rfl, hub, _⟩ := h.lg2
  have HUB : Hid (ub < w.heap.size ∧ ub ≠ P) := ⟨(h.ubound (.inr (.inr (.inr hub)))).2, fun e => h.us (e ▸ .inr (.inr (.inr hub)))⟩
  clear hr hf hub
  clear h hh he hp hg
  go_enter Tryz.func7, Tryz.ntmps7
  go_wp2_with ((with_reducible refine L_boxAct (cs := #[.int .i64 6, .int .i64 z, .int .i64 xt, .int .u64 (gn : Int), .int .u8 (ma.toNat : Int), .int .u64 (u : Int), .int .u64 (v : Int), .slice fa fl fc, .int .u64 (x.q : Int), .int .u64 (x.h : Int), .int .i64 x.x, .int .u64 (x.g : Int), .int .u8 (x.m.toNat : Int)]) ?_ ?_); exact rfl; intro w1 b1 bx1; have B1 := Lib.hid b1; have PR1 := Lib.hid (H.out.below b1); have PH1 := Lib.hid (HH.out.below b1); have K1 := Lib.hid (Kp'.of_below b1 P (Us F pw G q H1 H2)); have BX1 := Lib.hid (bx1 P (Us F pw G q H1 H2) H.out.uP); have a0 := BX1.out.cells 0 _ rfl; have a7 := BX1.out.cells 7 _ rfl; obtain ⟨c26, c27, c28, c29, c30, c31, cf⟩ := phead_all PH1.out; clear b1 bx1)
  have hbs := B1.out.size
  have hub1 := HUB.out.1
  have hub2 := HUB.out.2
  have LU : Hid (∀ y : World, y.heap[ub]? = w1.heap[ub]? → y.cell? ⟨ub, 14, none⟩ = some (.int .u64 (g.f : Int)) ∧ y.cell? ⟨ub, 16, none⟩ = some (.int .u64 (g.ep : Int))) := fun y hy => by
    obtain ⟨_, e, _, k14, k15, k16⟩ := PR1.out.lg2
    injection e with e
    injection e with e
    subst e
    exact ⟨(World.cell?_of_block (a := ⟨ub, 14, none⟩) hy).trans k14, (World.cell?_of_block (a := ⟨ub, 16, none⟩) hy).trans k16⟩
  obtain ⟨u14, u16⟩ := LU.out w1 rfl
  have KB : Hid (∀ y, Below w1.heap.size w1 y → Calls Tryz.prog 37 #[.pointer (some ⟨P, 0, none⟩), .slice fa fl fc] y fun e y' => e = .returned (.bool true) ∧ ∃ pw' D' q' E' F' G', Pr w0 P p n N pw' D' q' E' none none F' G' none1 none1 (crashed n m.S fs) (crashed n m.S fs) none none y' ∧ PHead y' P p pw' D' q' E' T (some ⟨ub, 0, none⟩) ∧ Kp' w1 P (Us F pw G q H1 H2) y' (Us F' pw' G' q' none1 none1) ∧ y'.heap[ub]? = w1.heap[ub]?) := fun y hy =>
    (pair_crash (PR1.out.below hy) (PH1.out.below hy) (HF.out.below (PR1.out.below hy).bel) hfl).mono fun e y' ⟨e1, pw', D', q', E', F', G', e2, e3, e4, e5⟩ =>
      ⟨e1, pw', D', q', E', F', G', e2, e3, (Kp'.of_below hy P _).trans e4, (e5 ub (by have := hy.size; omega) hub2).trans (hy.block ub (by omega))⟩
  refine gate (fun y => y.cell? ⟨w.heap.size, 7, none⟩ = some (.slice fa fl fc)) 22 [0, 1, 2] 20 (by kernel_rfl) (by kernel_rfl) (by kernel_rfl) rfl ?_ (BX1.out.cells 7 _ rfl) ?_
  · intro d v c a w h
    cases d <;> exact h
  refine yields_step ?_ rfl rfl ?_ ?_
  rotate_left
  · intro x hS; go_simp; rfl
  refine yields_step ?_ rfl rfl ?_ ?_
  rotate_left
  · intro x hS; go_simp; rfl
  refine yields_step (.slice fa fl fc) rfl rfl ?_ ?_
  · intro x hS; go_simp
  refine Gate.next (i := 3) (by kernel_rfl) rfl rfl (fun K hK => ?_)
  go_simp
  refine (KB.out _ (bdrew _)).mono ?_; rintro e w2 ⟨rfl, pw2, D2, q2, E2, F2, G2, p2, h2, k2, u2⟩
  have PR2 := Lib.hid p2
  have PH2 := Lib.hid h2
  have K2 := Lib.hid (K1.out.trans k2)
  have BX2 := Lib.hid (BX1.out.kp k2)
  clear u14 u16 c31
  obtain ⟨u14, u16⟩ := LU.out _ u2
  have c31 := (phead_all h2).2.2.2.2.2.1
  refine hK _ _ (fun _ => BX2.out.cells 7 _ rfl) ?_
  clear hK K p2 h2 k2 u2 a0 a7 c26 c27 c28 c29 c30 cf
  refine Gate.takes (P := Tryz.prog) (t := 22) (by kernel_rfl) (fun d v c a w h => by cases d <;> exact h) (BX2.out.cells 7 _ rfl) [4, 5, 6, 13, 7, 14, 8, 15] 11 _ _ (by kernel_rfl) ?_
  refine yields_step ?_ rfl rfl ?_ ?_
  rotate_left
  · intro x hS; go_simp; rfl
  refine yields_on ?_ rfl (by kernel_rfl) ?_ ?_
  rotate_left
  · intro x hS; go_simp; rfl
  refine yields_on ?_ rfl (by kernel_rfl) ?_ ?_
  rotate_left
  · intro x hS; go_simp; rfl
  refine yields_on ?_ rfl (by kernel_rfl) ?_ ?_
  rotate_left
  · intro x hS; go_simp; rfl
  refine yields_on ?_ rfl (by kernel_rfl) ?_ ?_
  rotate_left
  · intro x hS; go_simp; rfl
  refine yields_on ?_ rfl (by kernel_rfl) ?_ ?_
  rotate_left
  · intro x hS; go_simp; rfl
  refine yields_on ?_ rfl (by kernel_rfl) ?_ ?_
  rotate_left
  · intro x hS; go_simp; rfl
  refine yields_on ?_ rfl (by kernel_rfl) ?_ ?_
  rotate_left
  · intro x hS; go_simp; rfl
  refine fork_on (i := 9) (j := 16) (by kernel_rfl) rfl (by kernel_rfl) rfl (by kernel_rfl) (fun K hK => ?_) (fun K hK => ?_)
  · go_simp
    refine hK _ _ (fun _ => BX2.out.cells 7 _ rfl) ?_
    clear hK K
    refine Gate.takes (P := Tryz.prog) (t := 22) (by kernel_rfl) (fun d v c a w h => by cases d <;> exact h) (BX2.out.cells 7 _ rfl) [10, 11] 8 _ _ (by kernel_rfl) ?_
    refine yields_on ?_ rfl (by kernel_rfl) ?_ ?_
    rotate_left
    · intro x hS; go_simp; rfl
    refine yields_on ?_ rfl (by kernel_rfl) ?_ ?_
    rotate_left
    · intro x hS; go_simp; rfl
    refine fork_on (i := 12) (j := 16) (by kernel_rfl) rfl (by kernel_rfl) rfl (by kernel_rfl) (fun K hK => ?_) (fun K hK => ?_)
    · go_simp
      refine hK _ _ (fun _ => BX2.out.cells 7 _ rfl) ?_
      clear hK K
      refine gate_on (i := 16) (by kernel_rfl) rfl (by kernel_rfl) (fun K hK => ?_)
      go_simp
      refine hK _ _ (fun _ => BX2.out.cells 7 _ rfl) ?_
      clear hK K
      refine Gate.takes (P := Tryz.prog) (t := 22) (by kernel_rfl) (fun d v c a w h => by cases d <;> exact h) (BX2.out.cells 7 _ rfl) [17, 18] 4 _ _ (by kernel_rfl) ?_
      refine yields_on ?_ rfl (by kernel_rfl) ?_ ?_
      rotate_left
      · intro x hS; go_simp; rfl
      refine yields_on ?_ rfl (by kernel_rfl) ?_ ?_
      rotate_left
      · intro x hS; go_simp; rfl
      refine gate_on (i := 19) (by kernel_rfl) rfl (by kernel_rfl) (fun K hK => ?_)
      go_simp
      refine hK _ _ (fun _ => BX2.out.cells 7 _ rfl) ?_
      clear hK K
      refine gate_on (i := 20) (by kernel_rfl) rfl (by kernel_rfl) (fun K hK => ?_)
      go_simp
      refine (pair_open_yes PR2.out PH2.out HE.out HP.out rfl HF1.out HG.out.h4 (L2, m2) HR.out).mono ?_; rintro e w3 ⟨rfl, T3, U3, H3, H3', p3, h3, k3⟩
      have PR3 := Lib.hid p3
      have PH3 := Lib.hid h3
      have K3 := Lib.hid (K2.out.trans k3)
      have BX3 := Lib.hid (BX2.out.kp k3)
      refine hK _ _ (fun _ => BX3.out.cells 7 _ rfl) ?_
      clear hK K p3 h3 k3
      refine Gate.next (i := 21) (by kernel_rfl) rfl rfl (fun K hK => ?_)
      go_simp
      refine hK _ _ (fun _ => BX3.out.cells 7 _ rfl) ?_
      clear hK K
      refine Gate.next (i := 22) (by kernel_rfl) rfl rfl (fun K hK => ?_)
      go_simp
      refine hK _ _ (fun h => absurd rfl h) ?_
      clear hK K
      refine Gate.done (by kernel_rfl) ?_
      clear c31 u14 u16
      go_wp2
      go_ret
      exact ⟨rfl, .of PR3.out PH3.out K3.out (by omega) hN HG2.out⟩
    · go_simp
      refine hK _ _ (fun _ => BX2.out.cells 7 _ rfl) ?_
      clear hK K
      refine Gate.takes (P := Tryz.prog) (t := 22) (by kernel_rfl) (fun d v c a w h => by cases d <;> exact h) (BX2.out.cells 7 _ rfl) [17, 18] 5 _ _ (by kernel_rfl) ?_
      refine yields_on ?_ rfl (by kernel_rfl) ?_ ?_
      rotate_left
      · intro x hS; go_simp; rfl
      refine yields_on ?_ rfl (by kernel_rfl) ?_ ?_
      rotate_left
      · intro x hS; go_simp; rfl
      refine fork_on (i := 12) (j := 19) (by kernel_rfl) rfl (by kernel_rfl) rfl (by kernel_rfl) (fun K hK => ?_) (fun K hK => ?_)
      · go_simp
        refine hK _ _ (fun _ => BX2.out.cells 7 _ rfl) ?_
        clear hK K
        refine gate_on (i := 19) (by kernel_rfl) rfl (by kernel_rfl) (fun K hK => ?_)
        go_simp
        refine hK _ _ (fun _ => BX2.out.cells 7 _ rfl) ?_
        clear hK K
        refine gate_on (i := 20) (by kernel_rfl) rfl (by kernel_rfl) (fun K hK => ?_)
        go_simp
        refine (pair_open_yes PR2.out PH2.out HE.out HP.out rfl HF1.out HG.out.h4 (L2, m2) HR.out).mono ?_; rintro e w3 ⟨rfl, T3, U3, H3, H3', p3, h3, k3⟩
        have PR3 := Lib.hid p3
        have PH3 := Lib.hid h3
        have K3 := Lib.hid (K2.out.trans k3)
        have BX3 := Lib.hid (BX2.out.kp k3)
        refine hK _ _ (fun _ => BX3.out.cells 7 _ rfl) ?_
        clear hK K p3 h3 k3
        refine Gate.next (i := 21) (by kernel_rfl) rfl rfl (fun K hK => ?_)
        go_simp
        refine hK _ _ (fun _ => BX3.out.cells 7 _ rfl) ?_
        clear hK K
        refine Gate.next (i := 22) (by kernel_rfl) rfl rfl (fun K hK => ?_)
        go_simp
        refine hK _ _ (fun h => absurd rfl h) ?_
        clear hK K
        refine Gate.done (by kernel_rfl) ?_
        clear c31 u14 u16
        go_wp2
        go_ret
        exact ⟨rfl, .of PR3.out PH3.out K3.out (by omega) hN HG2.out⟩
      · go_simp
        refine hK _ _ (fun _ => BX2.out.cells 7 _ rfl) ?_
        clear hK K
        refine gate_on (i := 12) (by kernel_rfl) rfl (by kernel_rfl) (fun K hK => ?_)
        go_simp
        refine hK _ _ (fun _ => BX2.out.cells 7 _ rfl) ?_
        clear hK K
        refine gate_on (i := 20) (by kernel_rfl) rfl (by kernel_rfl) (fun K hK => ?_)
        go_simp
        refine (pair_open_yes PR2.out PH2.out HE.out HP.out rfl HF1.out HG.out.h4 (L2, m2) HR.out).mono ?_; rintro e w3 ⟨rfl, T3, U3, H3, H3', p3, h3, k3⟩
        have PR3 := Lib.hid p3
        have PH3 := Lib.hid h3
        have K3 := Lib.hid (K2.out.trans k3)
        have BX3 := Lib.hid (BX2.out.kp k3)
        refine hK _ _ (fun _ => BX3.out.cells 7 _ rfl) ?_
        clear hK K p3 h3 k3
        refine Gate.next (i := 21) (by kernel_rfl) rfl rfl (fun K hK => ?_)
        go_simp
        refine hK _ _ (fun _ => BX3.out.cells 7 _ rfl) ?_
        clear hK K
        refine Gate.next (i := 22) (by kernel_rfl) rfl rfl (fun K hK => ?_)
        go_simp
        refine hK _ _ (fun h => absurd rfl h) ?_
        clear hK K
        refine Gate.done (by kernel_rfl) ?_
        clear c31 u14 u16
        go_wp2
        go_ret
        exact ⟨rfl, .of PR3.out PH3.out K3.out (by omega) hN HG2.out⟩
  · go_simp
    refine hK _ _ (fun _ => BX2.out.cells 7 _ rfl) ?_
    clear hK K
    refine Gate.takes (P := Tryz.prog) (t := 22) (by kernel_rfl) (fun d v c a w h => by cases d <;> exact h) (BX2.out.cells 7 _ rfl) [17, 18] 8 _ _ (by kernel_rfl) ?_
    refine yields_on ?_ rfl (by kernel_rfl) ?_ ?_
    rotate_left
    · intro x hS; go_simp; rfl
    refine yields_on ?_ rfl (by kernel_rfl) ?_ ?_
    rotate_left
    · intro x hS; go_simp; rfl
    refine fork_on (i := 9) (j := 19) (by kernel_rfl) rfl (by kernel_rfl) rfl (by kernel_rfl) (fun K hK => ?_) (fun K hK => ?_)
    · go_simp
      refine hK _ _ (fun _ => BX2.out.cells 7 _ rfl) ?_
      clear hK K
      refine Gate.takes (P := Tryz.prog) (t := 22) (by kernel_rfl) (fun d v c a w h => by cases d <;> exact h) (BX2.out.cells 7 _ rfl) [10, 11] 5 _ _ (by kernel_rfl) ?_
      refine yields_on ?_ rfl (by kernel_rfl) ?_ ?_
      rotate_left
      · intro x hS; go_simp; rfl
      refine yields_on ?_ rfl (by kernel_rfl) ?_ ?_
      rotate_left
      · intro x hS; go_simp; rfl
      refine fork_on (i := 12) (j := 19) (by kernel_rfl) rfl (by kernel_rfl) rfl (by kernel_rfl) (fun K hK => ?_) (fun K hK => ?_)
      · go_simp
        refine hK _ _ (fun _ => BX2.out.cells 7 _ rfl) ?_
        clear hK K
        refine gate_on (i := 19) (by kernel_rfl) rfl (by kernel_rfl) (fun K hK => ?_)
        go_simp
        refine hK _ _ (fun _ => BX2.out.cells 7 _ rfl) ?_
        clear hK K
        refine gate_on (i := 20) (by kernel_rfl) rfl (by kernel_rfl) (fun K hK => ?_)
        go_simp
        refine (pair_open_yes PR2.out PH2.out HE.out HP.out rfl HF1.out HG.out.h4 (L2, m2) HR.out).mono ?_; rintro e w3 ⟨rfl, T3, U3, H3, H3', p3, h3, k3⟩
        have PR3 := Lib.hid p3
        have PH3 := Lib.hid h3
        have K3 := Lib.hid (K2.out.trans k3)
        have BX3 := Lib.hid (BX2.out.kp k3)
        refine hK _ _ (fun _ => BX3.out.cells 7 _ rfl) ?_
        clear hK K p3 h3 k3
        refine Gate.next (i := 21) (by kernel_rfl) rfl rfl (fun K hK => ?_)
        go_simp
        refine hK _ _ (fun _ => BX3.out.cells 7 _ rfl) ?_
        clear hK K
        refine Gate.next (i := 22) (by kernel_rfl) rfl rfl (fun K hK => ?_)
        go_simp
        refine hK _ _ (fun h => absurd rfl h) ?_
        clear hK K
        refine Gate.done (by kernel_rfl) ?_
        clear c31 u14 u16
        go_wp2
        go_ret
        exact ⟨rfl, .of PR3.out PH3.out K3.out (by omega) hN HG2.out⟩
      · go_simp
        refine hK _ _ (fun _ => BX2.out.cells 7 _ rfl) ?_
        clear hK K
        refine gate_on (i := 12) (by kernel_rfl) rfl (by kernel_rfl) (fun K hK => ?_)
        go_simp
        refine hK _ _ (fun _ => BX2.out.cells 7 _ rfl) ?_
        clear hK K
        refine gate_on (i := 20) (by kernel_rfl) rfl (by kernel_rfl) (fun K hK => ?_)
        go_simp
        refine (pair_open_yes PR2.out PH2.out HE.out HP.out rfl HF1.out HG.out.h4 (L2, m2) HR.out).mono ?_; rintro e w3 ⟨rfl, T3, U3, H3, H3', p3, h3, k3⟩
        have PR3 := Lib.hid p3
        have PH3 := Lib.hid h3
        have K3 := Lib.hid (K2.out.trans k3)
        have BX3 := Lib.hid (BX2.out.kp k3)
        refine hK _ _ (fun _ => BX3.out.cells 7 _ rfl) ?_
        clear hK K p3 h3 k3
        refine Gate.next (i := 21) (by kernel_rfl) rfl rfl (fun K hK => ?_)
        go_simp
        refine hK _ _ (fun _ => BX3.out.cells 7 _ rfl) ?_
        clear hK K
        refine Gate.next (i := 22) (by kernel_rfl) rfl rfl (fun K hK => ?_)
        go_simp
        refine hK _ _ (fun h => absurd rfl h) ?_
        clear hK K
        refine Gate.done (by kernel_rfl) ?_
        clear c31 u14 u16
        go_wp2
        go_ret
        exact ⟨rfl, .of PR3.out PH3.out K3.out (by omega) hN HG2.out⟩
    · go_simp
      refine hK _ _ (fun _ => BX2.out.cells 7 _ rfl) ?_
      clear hK K
      refine gate_on (i := 9) (by kernel_rfl) rfl (by kernel_rfl) (fun K hK => ?_)
      go_simp
      refine hK _ _ (fun _ => BX2.out.cells 7 _ rfl) ?_
      clear hK K
      refine Gate.takes (P := Tryz.prog) (t := 22) (by kernel_rfl) (fun d v c a w h => by cases d <;> exact h) (BX2.out.cells 7 _ rfl) [10, 11] 4 _ _ (by kernel_rfl) ?_
      refine yields_on ?_ rfl (by kernel_rfl) ?_ ?_
      rotate_left
      · intro x hS; go_simp; rfl
      refine yields_on ?_ rfl (by kernel_rfl) ?_ ?_
      rotate_left
      · intro x hS; go_simp; rfl
      refine gate_on (i := 12) (by kernel_rfl) rfl (by kernel_rfl) (fun K hK => ?_)
      go_simp
      refine hK _ _ (fun _ => BX2.out.cells 7 _ rfl) ?_
      clear hK K
      refine gate_on (i := 20) (by kernel_rfl) rfl (by kernel_rfl) (fun K hK => ?_)
      go_simp
      refine (pair_open_yes PR2.out PH2.out HE.out HP.out rfl HF1.out HG.out.h4 (L2, m2) HR.out).mono ?_; rintro e w3 ⟨rfl, T3, U3, H3, H3', p3, h3, k3⟩
      have PR3 := Lib.hid p3
      have PH3 := Lib.hid h3
      have K3 := Lib.hid (K2.out.trans k3)
      have BX3 := Lib.hid (BX2.out.kp k3)
      refine hK _ _ (fun _ => BX3.out.cells 7 _ rfl) ?_
      clear hK K p3 h3 k3
      refine Gate.next (i := 21) (by kernel_rfl) rfl rfl (fun K hK => ?_)
      go_simp
      refine hK _ _ (fun _ => BX3.out.cells 7 _ rfl) ?_
      clear hK K
      refine Gate.next (i := 22) (by kernel_rfl) rfl rfl (fun K hK => ?_)
      go_simp
      refine hK _ _ (fun h => absurd rfl h) ?_
      clear hK K
      refine Gate.done (by kernel_rfl) ?_
      clear c31 u14 u16
      go_wp2
      go_ret
      exact ⟨rfl, .of PR3.out PH3.out K3.out (by omega) hN HG2.out⟩
end
end Go.Proofs.YtikbbikcacoobaaGreatDoor.Pd.Iv

/-! A call on a pair: a record written by hand. No conditions. -/
namespace Go.Proofs.YtikbbikcacoobaaGreatDoor.Pd.Iv
set_option maxRecDepth 100000
open Go.RowKit Oc Dm W Dw Sr Gt
set_option linter.unusedVariables false
set_option maxRecDepth 100000
attribute [local go_sem ↓] Go.wp_at_zero Go.wp_at_succ
section
variable {w0 w : World} {P n N pw D q E la lg B : Nat} {p : Pn.Pl} {T U : Option Addr} {F G H1 H2 : Nat → Prop} {m : Vs} {g : Lg}
set_option maxHeartbeats 8000000 in
theorem do7y (h : Pr w0 P p n N pw D q E T U F G H1 H2 m m (some g) (some g) w) (hh : PHead w P p pw D q E T U) (he : Env w0) (hp : Pln p la lg n) (hg : GOk B lg g) (hB : B + 300 ≤ 1000000000) (hB1 : 1023 ≤ B) (hN : N + 8 ≤ 1000000) (z xt : Int) (gn : Nat) (ma : UInt8) (u v : Nat) (fa : Option Addr) (fl fc : Nat) (fs : List Int) (x : Rc) (hm : MayBe x) :
    Calls Tryz.prog 7 #[.pointer (some ⟨P, 0, none⟩), .agg #[.int .i64 7, .int .i64 z, .int .i64 xt, .int .u64 (gn : Int), .int .u8 (ma.toNat : Int), .int .u64 (u : Int), .int .u64 (v : Int), .slice fa fl fc, .int .u64 (x.q : Int), .int .u64 (x.h : Int), .int .i64 x.x, .int .u64 (x.g : Int), .int .u8 (x.m.toNat : Int)]] w fun e w' => e = .returned (.bool true) ∧ Done w0 P p n (N + 8) (B + 300) lg w (Us F pw G q H1 H2) w' := by
  have H := Lib.hid h
  have HH := Lib.hid hh
  have HE := Lib.hid he
  have HP := Lib.hid hp
  have HG := Lib.hid hg
  have HM := Lib.hid hm
  have HG2 : Hid (GOk (B + 300) lg g) := hg.more (by omega) hB
  have HPB : Hid (∀ b, Us F pw G q H1 H2 b ∨ b = P → b < w.heap.size) := h.uP
  obtain ⟨xs, hxs⟩ : ∃ xs, sect x = xs := ⟨_, rfl⟩
  have HXS := Lib.hid hxs
  have HS : Hid (xs.length = 64) := by show _ = _; rw [← hxs]; exact sect_length x
  obtain ⟨BB, hBB⟩ : ∃ B, tx xs = .string B := ⟨_, rfl⟩
  have HB := Lib.hid hBB
  obtain ⟨s, hs⟩ : ∃ s, atF la lg z = s := ⟨_, rfl⟩
  have HSS := Lib.hid hs
  obtain ⟨ev, m2, hr⟩ : ∃ ev m2, wrz n m s xs = (ev, m2) := ⟨_, _, rfl⟩
  have HR := Lib.hid hr
  clear hm hxs hBB hs hr
  clear h hh he hp hg
  go_enter Tryz.func7, Tryz.ntmps7
  go_wp2_with ((with_reducible refine L_boxAct (cs := #[.int .i64 7, .int .i64 z, .int .i64 xt, .int .u64 (gn : Int), .int .u8 (ma.toNat : Int), .int .u64 (u : Int), .int .u64 (v : Int), .slice fa fl fc, .int .u64 (x.q : Int), .int .u64 (x.h : Int), .int .i64 x.x, .int .u64 (x.g : Int), .int .u8 (x.m.toNat : Int)]) ?_ ?_); exact rfl; intro w1 b1 bx1; have B1 := Lib.hid b1; have PR1 := Lib.hid (H.out.below b1); have PH1 := Lib.hid (HH.out.below b1); have K1 := Lib.hid (Kp'.of_below b1 P (Us F pw G q H1 H2)); have BX1 := Lib.hid (bx1 P (Us F pw G q H1 H2) H.out.uP); have a0 := BX1.out.cells 0 _ rfl; have a1 := BX1.out.cells 1 _ rfl; have a8 := BX1.out.cells 8 _ rfl; have a9 := BX1.out.cells 9 _ rfl; have a10 := BX1.out.cells 10 _ rfl; have a11 := BX1.out.cells 11 _ rfl; have a12 := BX1.out.cells 12 _ rfl; obtain ⟨c26, c27, c28, c29, c30, c31, cf⟩ := phead_all PH1.out; clear b1 bx1)
  refine (rrput_ok x w1 HM.out).mono ?_; rintro e w2 ⟨v2, rfl, o2, b2⟩
  rw [HXS.out] at o2
  obtain ⟨gx, gc, rfl, hg1, hg2, oc2⟩ := own_oct o2 HS.out
  have PR2 := Lib.hid (PR1.out.below b2)
  have PH2 := Lib.hid (PH1.out.below b2)
  have K2 := Lib.hid (K1.out.trans (Kp'.of_below b2 P _))
  have BX2 := Lib.hid (BX1.out.kp (Kp'.of_below b2 P _))
  have OC := Lib.hid oc2
  have GX : Hid (w1.heap.size ≤ gx ∧ gx < w2.heap.size) := ⟨hg1, hg2⟩
  have S1 := B1.out.size
  have S2 := b2.size
  clear a0 a1 a8 a9 a10 a11 a12 c26 c27 c28 c29 c30 c31 cf o2 oc2 hg1 hg2 b2
  have a1 := BX2.out.cells 1 _ rfl
  obtain ⟨c26, c27, c28, c29, c30, c31, cf⟩ := phead_all PH2.out
  have GN : Hid (¬ (Us F pw G q H1 H2 gx ∨ gx = P)) := fun y => by have := HPB.out gx y; have := GX.out.1; omega
  have KA : Hid (∀ y, PHead y P p pw D q E T U → Calls Tryz.prog 40 #[.pointer (some ⟨P, 0, none⟩), .int .i64 z] y fun e y' => e = .returned (.int .i64 s) ∧ Below y.heap.size y y') := fun y hy => by
    have := at_any hy HP.out z
    rwa [HSS.out] at this
  have OK2 : Hid (∀ (y : World) (Z : Nat → Prop), Kp' w2 P (Us F pw G q H1 H2) y Z → Oct y (some ⟨gx, 0, none⟩) 64 xs) := fun y Z k => OC.out.heap fun b off h0 e => by
    injection e with e
    injection e with e
    subst e
    exact (k.at_ _ GX.out.2 GN.out).1
  go_wp2_with fail
  have cv : Hid (∀ y, Oct y (some ⟨gx, 0, none⟩) 64 xs → (convert 88 9 (.slice (some ⟨gx, 0, none⟩) 64 gc)).run Tryz.prog y = .ok (.string BB) y) := fun y hy => by
    have := hy.conv Dm.bt Tryz.underlying9 gc
    rwa [show Value.string (bstr xs) = .string BB from HB.out] at this
  have KB : Hid (∀ y, Below w2.heap.size w2 y → Calls Tryz.prog 39 #[.pointer (some ⟨D, 0, none⟩), .int .i64 s, .slice (some ⟨gx, 0, none⟩) 64 gc] y fun e y' => e = .returned (.int .i64 ev) ∧ Pr w0 P p n (N + 1) pw D q E T U (Ext F y y') G H1 H2 m2 m (some g) (some g) y' ∧ y'.heap[P]? = y.heap[P]? ∧ Kp y (Us F pw G q H1 H2) y' (Us (Ext F y y') pw G q H1 H2)) := fun y hy => by
    have := (PR2.out.below hy).write (c := gc) (by omega) s (OC.out.below hy) (fun b off e hb => by injection e with e; injection e with e; subst e; exact GN.out (.inl (.inl hb)))
    rwa [HR.out] at this
  have cv2 := cv.out w2.drew OC.out.drew
  have KC : Hid (∀ y F' N', N' + 1 ≤ 1000000 → Pr w0 P p n N' pw D q E T U F' G H1 H2 m2 m (some g) (some g) y → Calls Tryz.prog 41 #[.pointer (some ⟨E, 0, none⟩), .int .i64 s, .string BB] y fun e y' => e = .returned (.int .i64 ev) ∧ Pr w0 P p n (N' + 1) pw D q E T U F' (Ext G y y') H1 H2 m2 m2 (some g) (some g) y' ∧ y'.heap[P]? = y.heap[P]? ∧ Kp y (Us F' pw G q H1 H2) y' (Us F' pw (Ext G y y') q H1 H2)) := fun y F' N' hN' hy => by
    have := hy.rwrite hN' s HB.out HS.out
    rwa [HR.out] at this
  go_region_held (fun x => x.cell? ⟨P, 27, none⟩ = some (.pointer (some ⟨D, 0, none⟩)) ∧ x.cell? ⟨P, 30, none⟩ = some (.pointer (some ⟨E, 0, none⟩)) ∧ x.cell? ⟨w.heap.size, 1, none⟩ = some (.int .i64 z)) (first | go_keep | exact ⟨(phead_all PH6.out).2.1, (phead_all PH6.out).2.2.2.2.1, BX6.out.cells 1 _ rfl⟩ | exact ⟨(phead_all PH5.out).2.1, (phead_all PH5.out).2.2.2.2.1, BX5.out.cells 1 _ rfl⟩ | exact ⟨(phead_all PH4.out).2.1, (phead_all PH4.out).2.2.2.2.1, BX4.out.cells 1 _ rfl⟩ | exact ⟨(phead_all PH3.out).2.1, (phead_all PH3.out).2.2.2.2.1, BX3.out.cells 1 _ rfl⟩)
    (first
      | (go_at_call 40; (with_reducible refine (KA.out _ PH4.out).mono ?_); rintro e w5 ⟨rfl, b5⟩; have PR5 := Lib.hid (PR4.out.below b5); have PH5 := Lib.hid (PH4.out.below b5); have K5 := Lib.hid (K4.out.trans (Kp'.of_below b5 P _)); have BX5 := Lib.hid (BX4.out.kp (Kp'.of_below b5 P _)); have cv5 := cv.out w5 (O4.out.below b5); clear b5)
      | (go_at_call 40; (with_reducible refine (KA.out _ (PH2.out.below (bdrew _))).mono ?_); rintro e w3 ⟨rfl, b3⟩; have B3 : Hid (Below w2.heap.size w2 w3) := bthen (bdrew _) b3; have PH3 := Lib.hid (PH2.out.below B3.out); have K3 := Lib.hid (K2.out.trans (Kp'.of_below B3.out P _)); have BX3 := Lib.hid (BX2.out.kp (Kp'.of_below B3.out P _)); have cv3 := cv.out w3 (OC.out.below B3.out); clear b3)
      | (go_at_call 39; (with_reducible refine (KB.out _ B3.out).mono ?_); rintro e w4 ⟨rfl, p4, h4, k4⟩; have PR4 := Lib.hid p4; have PH4 := Lib.hid (PH3.out.of h4); have K4 := Lib.hid (K3.out.trans (k4.but P)); have BX4 := Lib.hid (BX3.out.kp (k4.but P)); have O4 := Lib.hid (OK2.out w4 _ ((Kp'.of_below B3.out P _).trans (k4.but P))); have cv4 := cv.out w4 O4.out; clear p4 h4 k4)
      | (go_at_call 41; (with_reducible refine (KC.out _ _ _ (by omega) PR5.out).mono ?_); rintro e w6 ⟨rfl, p6, h6, k6⟩; have PR6 := Lib.hid p6; have PH6 := Lib.hid (PH5.out.of h6); have K6 := Lib.hid (K5.out.trans (k6.but P)); have BX6 := Lib.hid (BX5.out.kp (k6.but P)); clear p6 h6 k6))
  all_goals
    clear cv3 cv4 cv5 cv2
    go_wp2
  all_goals (go_ret; exact ⟨by simp, .of PR6.out PH6.out K6.out (by omega) hN HG2.out⟩)
set_option maxHeartbeats 8000000 in
theorem do7n (h : Pr w0 P p n N pw D q E T U F G H1 H2 m m (some g) (some g) w) (hh : PHead w P p pw D q E T U) (he : Env w0) (hp : Pln p la lg n) (hg : GOk B lg g) (hB : B + 300 ≤ 1000000000) (hB1 : 1023 ≤ B) (hN : N + 8 ≤ 1000000) (z xt : Int) (gn : Nat) (ma : UInt8) (u v : Nat) (fa : Option Addr) (fl fc : Nat) (fs : List Int) (x : Rc) (hm : ¬ MayBe x) :
    Calls Tryz.prog 7 #[.pointer (some ⟨P, 0, none⟩), .agg #[.int .i64 7, .int .i64 z, .int .i64 xt, .int .u64 (gn : Int), .int .u8 (ma.toNat : Int), .int .u64 (u : Int), .int .u64 (v : Int), .slice fa fl fc, .int .u64 (x.q : Int), .int .u64 (x.h : Int), .int .i64 x.x, .int .u64 (x.g : Int), .int .u8 (x.m.toNat : Int)]] w fun e w' => e = .returned (.bool true) ∧ Done w0 P p n (N + 8) (B + 300) lg w (Us F pw G q H1 H2) w' := by
  have H := Lib.hid h
  have HH := Lib.hid hh
  have HE := Lib.hid he
  have HP := Lib.hid hp
  have HG := Lib.hid hg
  have HM := Lib.hid hm
  have HG2 : Hid (GOk (B + 300) lg g) := hg.more (by omega) hB
  clear hm
  clear h hh he hp hg
  go_enter Tryz.func7, Tryz.ntmps7
  go_wp2_with ((with_reducible refine L_boxAct (cs := #[.int .i64 7, .int .i64 z, .int .i64 xt, .int .u64 (gn : Int), .int .u8 (ma.toNat : Int), .int .u64 (u : Int), .int .u64 (v : Int), .slice fa fl fc, .int .u64 (x.q : Int), .int .u64 (x.h : Int), .int .i64 x.x, .int .u64 (x.g : Int), .int .u8 (x.m.toNat : Int)]) ?_ ?_); exact rfl; intro w1 b1 bx1; have B1 := Lib.hid b1; have PR1 := Lib.hid (H.out.below b1); have PH1 := Lib.hid (HH.out.below b1); have K1 := Lib.hid (Kp'.of_below b1 P (Us F pw G q H1 H2)); have BX1 := Lib.hid (bx1 P (Us F pw G q H1 H2) H.out.uP); have a0 := BX1.out.cells 0 _ rfl; have a1 := BX1.out.cells 1 _ rfl; have a8 := BX1.out.cells 8 _ rfl; have a9 := BX1.out.cells 9 _ rfl; have a10 := BX1.out.cells 10 _ rfl; have a11 := BX1.out.cells 11 _ rfl; have a12 := BX1.out.cells 12 _ rfl; obtain ⟨c26, c27, c28, c29, c30, c31, cf⟩ := phead_all PH1.out; clear b1 bx1)
  refine (rrput_no x w1 HM.out).mono ?_; rintro e w2 ⟨rfl, b2⟩
  have PR2 := Lib.hid (PR1.out.below b2)
  have PH2 := Lib.hid (PH1.out.below b2)
  have K2 := Lib.hid (K1.out.trans (Kp'.of_below b2 P _))
  clear a0 a1 a8 a9 a10 a11 a12 c26 c27 c28 c29 c30 c31 cf b2
  go_wp2
  go_ret
  exact ⟨rfl, .of PR2.out PH2.out K2.out (by omega) hN HG2.out⟩
end
end Go.Proofs.YtikbbikcacoobaaGreatDoor.Pd.Iv

/-! A call on a pair: Rot. No conditions. -/
namespace Go.Proofs.YtikbbikcacoobaaGreatDoor.Pd.Iv
set_option maxRecDepth 100000
open Go.RowKit Oc Dm W Dw Sr Gt
set_option linter.unusedVariables false
set_option maxRecDepth 100000
attribute [local go_sem ↓] Go.wp_at_zero Go.wp_at_succ
section
variable {w0 w : World} {P n N pw D q E la lg B : Nat} {p : Pn.Pl} {T U : Option Addr} {F G H1 H2 : Nat → Prop} {m : Vs} {g : Lg}
set_option maxHeartbeats 8000000 in
theorem do8 (h : Pr w0 P p n N pw D q E T U F G H1 H2 m m (some g) (some g) w) (hh : PHead w P p pw D q E T U) (he : Env w0) (hp : Pln p la lg n) (hg : GOk B lg g) (hB : B + 300 ≤ 1000000000) (hB1 : 1023 ≤ B) (hN : N + 8 ≤ 1000000) (z xt : Int) (gn : Nat) (ma : UInt8) (u v : Nat) (fa : Option Addr) (fl fc : Nat) (fs : List Int) (x : Rc) :
    Calls Tryz.prog 7 #[.pointer (some ⟨P, 0, none⟩), .agg #[.int .i64 8, .int .i64 z, .int .i64 xt, .int .u64 (gn : Int), .int .u8 (ma.toNat : Int), .int .u64 (u : Int), .int .u64 (v : Int), .slice fa fl fc, .int .u64 (x.q : Int), .int .u64 (x.h : Int), .int .i64 x.x, .int .u64 (x.g : Int), .int .u8 (x.m.toNat : Int)]] w fun e w' => e = .returned (.bool true) ∧ Done w0 P p n (N + 8) (B + 300) lg w (Us F pw G q H1 H2) w' := by
  have H := Lib.hid h
  have HH := Lib.hid hh
  have HE := Lib.hid he
  have HP := Lib.hid hp
  have HG := Lib.hid hg
  have HG2 : Hid (GOk (B + 300) lg g) := hg.more (by omega) hB
  obtain ⟨s, hs⟩ : ∃ s, atF la lg z = s := ⟨_, rfl⟩
  have HSS := Lib.hid hs
  obtain ⟨ev, m2, hr⟩ : ∃ ev m2, rt1 n m s 9 5 = (ev, m2) := ⟨_, _, rfl⟩
  have HR := Lib.hid hr
  have HFL : Hid (∀ i, i < n → (m.S i).fixed.length = 64) := fun i hi => (h.pd.secs.2 i hi).2
  clear hs hr
  clear h hh he hp hg
  go_enter Tryz.func7, Tryz.ntmps7
  go_wp2_with ((with_reducible refine L_boxAct (cs := #[.int .i64 8, .int .i64 z, .int .i64 xt, .int .u64 (gn : Int), .int .u8 (ma.toNat : Int), .int .u64 (u : Int), .int .u64 (v : Int), .slice fa fl fc, .int .u64 (x.q : Int), .int .u64 (x.h : Int), .int .i64 x.x, .int .u64 (x.g : Int), .int .u8 (x.m.toNat : Int)]) ?_ ?_); exact rfl; intro w1 b1 bx1; have B1 := Lib.hid b1; have PR1 := Lib.hid (H.out.below b1); have PH1 := Lib.hid (HH.out.below b1); have K1 := Lib.hid (Kp'.of_below b1 P (Us F pw G q H1 H2)); have BX1 := Lib.hid (bx1 P (Us F pw G q H1 H2) H.out.uP); have a0 := BX1.out.cells 0 _ rfl; have a1 := BX1.out.cells 1 _ rfl; obtain ⟨c26, c27, c28, c29, c30, c31, cf⟩ := phead_all PH1.out; clear b1 bx1)
  have KA : Hid (∀ y, PHead y P p pw D q E T U → Calls Tryz.prog 40 #[.pointer (some ⟨P, 0, none⟩), .int .i64 z] y fun e y' => e = .returned (.int .i64 s) ∧ Below y.heap.size y y') := fun y hy => by
    have := at_any hy HP.out z
    rwa [HSS.out] at this
  have KB : Hid (∀ y, Below w1.heap.size w1 y → Calls Tryz.prog 42 #[.pointer (some ⟨D, 0, none⟩), .int .i64 s, .int .i64 9, .int .u32 5] y fun e y' => e = .returned (.int .i64 ev) ∧ Pr w0 P p n (N + 1) pw D q E T U (Ext F y y') G H1 H2 m2 m (some g) (some g) y' ∧ y'.heap[P]? = y.heap[P]? ∧ Kp y (Us F pw G q H1 H2) y' (Us (Ext F y y') pw G q H1 H2)) := fun y hy => by
    have := (PR1.out.below hy).rot (by omega) s 9 5 (by decide)
    rwa [HR.out] at this
  have KC : Hid (∀ y F' N', Pr w0 P p n N' pw D q E T U F' G H1 H2 m2 m (some g) (some g) y → Calls Tryz.prog 43 #[.pointer (some ⟨E, 0, none⟩), .int .i64 s, .int .i64 9, .int .u32 5] y fun e y' => e = .returned (.int .i64 ev) ∧ Pr w0 P p n N' pw D q E T U F' (Ext G y y') H1 H2 m2 m2 (some g) (some g) y' ∧ y'.heap[P]? = y.heap[P]? ∧ Kp y (Us F' pw G q H1 H2) y' (Us F' pw (Ext G y y') q H1 H2)) := fun y F' N' hy => by
    have := hy.rrot s 9 5 (by decide) HFL.out
    rwa [HR.out] at this
  go_region_held (fun x => x.cell? ⟨P, 27, none⟩ = some (.pointer (some ⟨D, 0, none⟩)) ∧ x.cell? ⟨P, 30, none⟩ = some (.pointer (some ⟨E, 0, none⟩)) ∧ x.cell? ⟨w.heap.size, 1, none⟩ = some (.int .i64 z)) (first | go_keep | exact ⟨(phead_all PH5.out).2.1, (phead_all PH5.out).2.2.2.2.1, BX5.out.cells 1 _ rfl⟩ | exact ⟨(phead_all PH4.out).2.1, (phead_all PH4.out).2.2.2.2.1, BX4.out.cells 1 _ rfl⟩ | exact ⟨(phead_all PH3.out).2.1, (phead_all PH3.out).2.2.2.2.1, BX3.out.cells 1 _ rfl⟩ | exact ⟨(phead_all PH2.out).2.1, (phead_all PH2.out).2.2.2.2.1, BX2.out.cells 1 _ rfl⟩)
    (first
      | (go_at_call 40; (with_reducible refine (KA.out _ PH3.out).mono ?_); rintro e w4 ⟨rfl, b4⟩; have PR4 := Lib.hid (PR3.out.below b4); have PH4 := Lib.hid (PH3.out.below b4); have K4 := Lib.hid (K3.out.trans (Kp'.of_below b4 P _)); have BX4 := Lib.hid (BX3.out.kp (Kp'.of_below b4 P _)); clear b4)
      | (go_at_call 40; (with_reducible refine (KA.out _ (PH1.out.below (bdrew _))).mono ?_); rintro e w2 ⟨rfl, b2⟩; have B2 : Hid (Below w1.heap.size w1 w2) := bthen (bdrew _) b2; have PH2 := Lib.hid (PH1.out.below B2.out); have K2 := Lib.hid (K1.out.trans (Kp'.of_below B2.out P _)); have BX2 := Lib.hid (BX1.out.kp (Kp'.of_below B2.out P _)); clear b2)
      | (go_at_call 42; (with_reducible refine (KB.out _ B2.out).mono ?_); rintro e w3 ⟨rfl, p3, h3, k3⟩; have PR3 := Lib.hid p3; have PH3 := Lib.hid (PH2.out.of h3); have K3 := Lib.hid (K2.out.trans (k3.but P)); have BX3 := Lib.hid (BX2.out.kp (k3.but P)); clear p3 h3 k3)
      | (go_at_call 43; (with_reducible refine (KC.out _ _ _ PR4.out).mono ?_); rintro e w5 ⟨rfl, p5, h5, k5⟩; have PR5 := Lib.hid p5; have PH5 := Lib.hid (PH4.out.of h5); have K5 := Lib.hid (K4.out.trans (k5.but P)); have BX5 := Lib.hid (BX4.out.kp (k5.but P)); clear p5 h5 k5))
  all_goals go_wp2
  all_goals (go_ret; exact ⟨by simp, .of PR5.out PH5.out K5.out (by omega) hN HG2.out⟩)
end
end Go.Proofs.YtikbbikcacoobaaGreatDoor.Pd.Iv

/-! A call on a pair: Open. No conditions. -/
namespace Go.Proofs.YtikbbikcacoobaaGreatDoor.Pd.Iv
set_option maxRecDepth 100000
open Go.RowKit Oc Dm W Dw Sr Gt
set_option linter.unusedVariables false
set_option maxRecDepth 100000
attribute [local go_sem ↓] Go.wp_at_zero Go.wp_at_succ
section
variable {w0 w : World} {P n N pw D q E la lg B : Nat} {p : Pn.Pl} {T U : Option Addr} {F G H1 H2 : Nat → Prop} {m : Vs} {g : Lg}
set_option maxHeartbeats 8000000 in
theorem do9y (h : Pr w0 P p n N pw D q E T U F G H1 H2 m m (some g) (some g) w) (hh : PHead w P p pw D q E T U) (he : Env w0) (hp : Pln p la lg n) (hg : GOk B lg g) (hB : B + 300 ≤ 1000000000) (hB1 : 1023 ≤ B) (hN : N + 8 ≤ 1000000) (z xt : Int) (gn : Nat) (ma : UInt8) (u v : Nat) (fa : Option Addr) (fl fc : Nat) (fs : List Int) (x : Rc) (ho : m.s.off = false) :
    Calls Tryz.prog 7 #[.pointer (some ⟨P, 0, none⟩), .agg #[.int .i64 9, .int .i64 z, .int .i64 xt, .int .u64 (gn : Int), .int .u8 (ma.toNat : Int), .int .u64 (u : Int), .int .u64 (v : Int), .slice fa fl fc, .int .u64 (x.q : Int), .int .u64 (x.h : Int), .int .i64 x.x, .int .u64 (x.g : Int), .int .u8 (x.m.toNat : Int)]] w fun e w' => e = .returned (.bool true) ∧ Done w0 P p n (N + 8) (B + 300) lg w (Us F pw G q H1 H2) w' := by
  have H := Lib.hid h
  have HH := Lib.hid hh
  have HE := Lib.hid he
  have HP := Lib.hid hp
  have HG := Lib.hid hg
  obtain ⟨t, ht, ht2⟩ := and1023 z
  have HT := Lib.hid ht
  obtain ⟨ub, rfl, hub, _⟩ := h.lg2
  have HEP : Hid (g.ep ≤ most) := hg.h4
  have HTM : Hid (t ≤ most) := by show t ≤ 4611686014132420608; omega
  have HO := Lib.hid ho
  obtain ⟨L2, m2, hr⟩ : ∃ L2 m2, rdl la lg g.ep lg t 0 m = (L2, m2) := ⟨_, _, rfl⟩
  have HR := Lib.hid hr
  have HG2 : Hid (GOk (B + 300) lg ⟨t, t + L2.length, g.ep⟩) := by
    have hl := rdl_len (la := la) (lg := lg) (ep := g.ep) lg t 0 m
    rw [hr] at hl
    have h6 := hp.hl2
    exact ⟨Nat.le_add_right _ _, Nat.add_le_add_left hl _, by show t + L2.length ≤ _; have : L2.length ≤ lg := hl; omega, hg.h4, hB⟩
  clear ht hub ho hr
  clear h hh he hp hg
  go_enter Tryz.func7, Tryz.ntmps7
  go_wp2_with ((with_reducible refine L_boxAct (cs := #[.int .i64 9, .int .i64 z, .int .i64 xt, .int .u64 (gn : Int), .int .u8 (ma.toNat : Int), .int .u64 (u : Int), .int .u64 (v : Int), .slice fa fl fc, .int .u64 (x.q : Int), .int .u64 (x.h : Int), .int .i64 x.x, .int .u64 (x.g : Int), .int .u8 (x.m.toNat : Int)]) ?_ ?_); exact rfl; intro w1 b1 bx1; have B1 := Lib.hid b1; have PR1 := Lib.hid (H.out.below b1); have PH1 := Lib.hid (HH.out.below b1); have K1 := Lib.hid (Kp'.of_below b1 P (Us F pw G q H1 H2)); have BX1 := Lib.hid (bx1 P (Us F pw G q H1 H2) H.out.uP); have a0 := BX1.out.cells 0 _ rfl; have a1 := BX1.out.cells 1 _ rfl; obtain ⟨c26, c27, c28, c29, c30, c31, cf⟩ := phead_all PH1.out; clear b1 bx1)
  have u16 : w1.cell? ⟨ub, 16, none⟩ = some (.int .u64 (g.ep : Int)) := by obtain ⟨_, e, _, k⟩ := PR1.out.lg2; injection e with e; injection e with e; subst e; exact k.2.2
  have ht := HT.out
  have hwt : IntKind.u64.wrap (t : Int) = (t : Int) := IntWalk.u64_in _ ⟨by omega, by omega⟩
  have KB : Hid (∀ y, Below w1.heap.size w1 y → Calls Tryz.prog 31 #[.pointer (some ⟨P, 0, none⟩), .int .u64 (t : Int), .int .u64 (g.ep : Int)] y fun e y' => e = .returned (.bool true) ∧ ∃ T' U' H1' H2', Pr w0 P p n N pw D q E (some ⟨T', 0, none⟩) (some ⟨U', 0, none⟩) F G H1' H2' m2 m2 (some ⟨t, t + L2.length, g.ep⟩) (some ⟨t, t + L2.length, g.ep⟩) y' ∧ PHead y' P p pw D q E (some ⟨T', 0, none⟩) (some ⟨U', 0, none⟩) ∧ Kp' w1 P (Us F pw G q H1 H2) y' (Us F pw G q H1' H2')) := fun y hy =>
    (pair_open_yes (PR1.out.below hy) (PH1.out.below hy) HE.out HP.out HO.out HTM.out HEP.out (L2, m2) HR.out).mono fun e y' ⟨e1, T', U', H1', H2', e2, e3, e4⟩ => ⟨e1, T', U', H1', H2', e2, e3, (Kp'.of_below hy P _).trans e4⟩
  go_region_with (first
      | (go_at_call 31; (with_reducible refine (KB.out _ (bdrew _)).mono ?_); rintro e w3 ⟨rfl, T3, U3, H3, H3', p3, h3, k3⟩; have PR3 := Lib.hid p3; have PH3 := Lib.hid h3; have K3 := Lib.hid (K1.out.trans k3); clear p3 h3 k3))
  all_goals go_wp2
  all_goals (go_ret; exact ⟨rfl, .of PR3.out PH3.out K3.out (by omega) hN HG2.out⟩)
set_option maxHeartbeats 8000000 in
theorem do9n (h : Pr w0 P p n N pw D q E T U F G H1 H2 m m (some g) (some g) w) (hh : PHead w P p pw D q E T U) (he : Env w0) (hp : Pln p la lg n) (hg : GOk B lg g) (hB : B + 300 ≤ 1000000000) (hB1 : 1023 ≤ B) (hN : N + 8 ≤ 1000000) (z xt : Int) (gn : Nat) (ma : UInt8) (u v : Nat) (fa : Option Addr) (fl fc : Nat) (fs : List Int) (x : Rc) (ho : m.s.off = true) :
    Calls Tryz.prog 7 #[.pointer (some ⟨P, 0, none⟩), .agg #[.int .i64 9, .int .i64 z, .int .i64 xt, .int .u64 (gn : Int), .int .u8 (ma.toNat : Int), .int .u64 (u : Int), .int .u64 (v : Int), .slice fa fl fc, .int .u64 (x.q : Int), .int .u64 (x.h : Int), .int .i64 x.x, .int .u64 (x.g : Int), .int .u8 (x.m.toNat : Int)]] w fun e w' => e = .returned (.bool true) ∧ Done w0 P p n (N + 8) (B + 300) lg w (Us F pw G q H1 H2) w' := by
  have H := Lib.hid h
  have HH := Lib.hid hh
  have HE := Lib.hid he
  have HP := Lib.hid hp
  have HG := Lib.hid hg
  obtain ⟨t, ht, ht2⟩ := and1023 z
  have HT := Lib.hid ht
  obtain ⟨ub, rfl, hub, _⟩ := h.lg2
  have HEP : Hid (g.ep ≤ most) := hg.h4
  have HTM : Hid (t ≤ most) := by show t ≤ 4611686014132420608; omega
  have HO := Lib.hid ho
  have HG2 : Hid (GOk (B + 300) lg g) := hg.more (by omega) hB
  clear ht hub ho
  clear h hh he hp hg
  go_enter Tryz.func7, Tryz.ntmps7
  go_wp2_with ((with_reducible refine L_boxAct (cs := #[.int .i64 9, .int .i64 z, .int .i64 xt, .int .u64 (gn : Int), .int .u8 (ma.toNat : Int), .int .u64 (u : Int), .int .u64 (v : Int), .slice fa fl fc, .int .u64 (x.q : Int), .int .u64 (x.h : Int), .int .i64 x.x, .int .u64 (x.g : Int), .int .u8 (x.m.toNat : Int)]) ?_ ?_); exact rfl; intro w1 b1 bx1; have B1 := Lib.hid b1; have PR1 := Lib.hid (H.out.below b1); have PH1 := Lib.hid (HH.out.below b1); have K1 := Lib.hid (Kp'.of_below b1 P (Us F pw G q H1 H2)); have BX1 := Lib.hid (bx1 P (Us F pw G q H1 H2) H.out.uP); have a0 := BX1.out.cells 0 _ rfl; have a1 := BX1.out.cells 1 _ rfl; obtain ⟨c26, c27, c28, c29, c30, c31, cf⟩ := phead_all PH1.out; clear b1 bx1)
  have u16 : w1.cell? ⟨ub, 16, none⟩ = some (.int .u64 (g.ep : Int)) := by obtain ⟨_, e, _, k⟩ := PR1.out.lg2; injection e with e; injection e with e; subst e; exact k.2.2
  have ht := HT.out
  have hwt : IntKind.u64.wrap (t : Int) = (t : Int) := IntWalk.u64_in _ ⟨by omega, by omega⟩
  have KB : Hid (∀ y, Below w1.heap.size w1 y → Calls Tryz.prog 31 #[.pointer (some ⟨P, 0, none⟩), .int .u64 (t : Int), .int .u64 (g.ep : Int)] y fun e y' => e = .returned (.bool true) ∧ Below y.heap.size y y') := fun y hy =>
    pair_open_off (PR1.out.below hy) (PH1.out.below hy) HP.out HO.out HTM.out HEP.out
  go_region_with (first
      | (go_at_call 31; (with_reducible refine (KB.out _ (bdrew _)).mono ?_); rintro e w3 ⟨rfl, b3⟩; have B3 : Hid (Below w1.heap.size w1 w3) := bthen (bdrew _) b3; have PR3 := Lib.hid (PR1.out.below B3.out); have PH3 := Lib.hid (PH1.out.below B3.out); have K3 := Lib.hid (K1.out.trans (Kp'.of_below B3.out P _)); clear b3))
  all_goals go_wp2
  all_goals (go_ret; exact ⟨rfl, .of PR3.out PH3.out K3.out (by omega) hN HG2.out⟩)
end
end Go.Proofs.YtikbbikcacoobaaGreatDoor.Pd.Iv

/-! A call on a pair: no such kind. No conditions. -/
namespace Go.Proofs.YtikbbikcacoobaaGreatDoor.Pd.Iv
set_option maxRecDepth 100000
open Go.RowKit Oc Dm W Dw Sr Gt
set_option linter.unusedVariables false
set_option maxRecDepth 100000
attribute [local go_sem ↓] Go.wp_at_zero Go.wp_at_succ
section
variable {w0 w : World} {P n N pw D q E la lg B : Nat} {p : Pn.Pl} {T U : Option Addr} {F G H1 H2 : Nat → Prop} {m : Vs} {g : Lg}
set_option maxHeartbeats 8000000 in
theorem don (h : Pr w0 P p n N pw D q E T U F G H1 H2 m m (some g) (some g) w) (hh : PHead w P p pw D q E T U) (he : Env w0) (hp : Pln p la lg n) (hg : GOk B lg g) (hB : B + 300 ≤ 1000000000) (hB1 : 1023 ≤ B) (hN : N + 8 ≤ 1000000) (z xt : Int) (gn : Nat) (ma : UInt8) (u v : Nat) (fa : Option Addr) (fl fc : Nat) (fs : List Int) (x : Rc) (kd : Int) (k0 : ¬ kd = 0) (k1 : ¬ kd = 1) (k2 : ¬ kd = 2) (k3 : ¬ kd = 3) (k4 : ¬ kd = 4) (k5 : ¬ kd = 5) (k6 : ¬ kd = 6) (k7 : ¬ kd = 7) (k8 : ¬ kd = 8) (k9 : ¬ kd = 9) :
    Calls Tryz.prog 7 #[.pointer (some ⟨P, 0, none⟩), .agg #[.int .i64 kd, .int .i64 z, .int .i64 xt, .int .u64 (gn : Int), .int .u8 (ma.toNat : Int), .int .u64 (u : Int), .int .u64 (v : Int), .slice fa fl fc, .int .u64 (x.q : Int), .int .u64 (x.h : Int), .int .i64 x.x, .int .u64 (x.g : Int), .int .u8 (x.m.toNat : Int)]] w fun e w' => e = .returned (.bool true) ∧ Done w0 P p n (N + 8) (B + 300) lg w (Us F pw G q H1 H2) w' := by
  have H := Lib.hid h
  have HH := Lib.hid hh
  have HE := Lib.hid he
  have HP := Lib.hid hp
  have HG := Lib.hid hg
  have HG2 : Hid (GOk (B + 300) lg g) := hg.more (by omega) hB
  clear h hh he hp hg
  go_enter Tryz.func7, Tryz.ntmps7
  go_wp2_with ((with_reducible refine L_boxAct (cs := #[.int .i64 kd, .int .i64 z, .int .i64 xt, .int .u64 (gn : Int), .int .u8 (ma.toNat : Int), .int .u64 (u : Int), .int .u64 (v : Int), .slice fa fl fc, .int .u64 (x.q : Int), .int .u64 (x.h : Int), .int .i64 x.x, .int .u64 (x.g : Int), .int .u8 (x.m.toNat : Int)]) ?_ ?_); exact rfl; intro w1 b1 bx1; have B1 := Lib.hid b1; have PR1 := Lib.hid (H.out.below b1); have PH1 := Lib.hid (HH.out.below b1); have K1 := Lib.hid (Kp'.of_below b1 P (Us F pw G q H1 H2)); have BX1 := Lib.hid (bx1 P (Us F pw G q H1 H2) H.out.uP); have a0 := BX1.out.cells 0 _ rfl; obtain ⟨c26, c27, c28, c29, c30, c31, cf⟩ := phead_all PH1.out; clear b1 bx1)
  go_ret
  exact ⟨rfl, .of PR1.out PH1.out K1.out (by omega) hN HG2.out⟩
end
end Go.Proofs.YtikbbikcacoobaaGreatDoor.Pd.Iv

/-! Any call on a pair; what is told of it. No conditions. -/
namespace Go.Proofs.YtikbbikcacoobaaGreatDoor.Pd.Iv
set_option maxRecDepth 100000
open Go.RowKit Oc Dm W Dw Sr Gt
set_option linter.unusedVariables false
section
variable {w0 w w' w1 : World} {P n N pw D q E la lg B : Nat} {p : Pn.Pl} {T U : Option Addr} {F G H1 H2 Z1 : Nat → Prop} {m : Vs} {g : Lg}
theorem do_any (h : Pr w0 P p n N pw D q E T U F G H1 H2 m m (some g) (some g) w) (hh : PHead w P p pw D q E T U) (he : Env w0) (hp : Pln p la lg n) (hg : GOk B lg g) (hB : B + 300 ≤ 1000000000) (hB1 : 1023 ≤ B) (hN : N + 8 ≤ 1000000) (a : ActV) (ha : ActOk w0 a) :
    Calls Tryz.prog 7 #[.pointer (some ⟨P, 0, none⟩), .agg a.cells.toArray] w fun e w' => e = .returned (.bool true) ∧ Done w0 P p n (N + 8) (B + 300) lg w (Us F pw G q H1 H2) w' := by
  obtain ⟨kind, z, xt, gn, ma, u, v, fa, fl, fc, fs, x⟩ := a
  obtain ⟨hf, ⟨h1, h2, h3⟩, h4, h5, h6⟩ := ha
  by_cases k0 : kind = 0
  · subst k0; exact do0 h hh he hp hg hB hB1 hN z xt gn ma u v fa fl fc fs x
  by_cases k1 : kind = 1
  · subst k1; exact do1 h hh he hp hg hB hB1 hN z xt gn ma u v fa fl fc fs x
  by_cases k2 : kind = 2
  · subst k2; exact do2 h hh he hp hg hB hB1 hN z xt gn ma u v fa fl fc fs x
  by_cases k3 : kind = 3
  · subst k3; exact do3 h hh he hp hg hB hB1 hN z xt gn ma u v fa fl fc fs x
  by_cases k4 : kind = 4
  · subst k4; exact do4 h hh he hp hg hB hB1 hN z xt gn ma u v fa fl fc fs x h2 h3
  by_cases k5 : kind = 5
  · subst k5; exact do5 h hh he hp hg hB hB1 hN z xt gn ma u v fa fl fc fs x
  by_cases k6 : kind = 6
  · subst k6; exact do6 h hh he hp hg hB hB1 hN z xt gn ma u v fa fl fc fs x hf (Nat.le_trans h4 h5)
  by_cases k7 : kind = 7
  · subst k7
    by_cases hm : MayBe x
    · exact do7y h hh he hp hg hB hB1 hN z xt gn ma u v fa fl fc fs x hm
    · exact do7n h hh he hp hg hB hB1 hN z xt gn ma u v fa fl fc fs x hm
  by_cases k8 : kind = 8
  · subst k8; exact do8 h hh he hp hg hB hB1 hN z xt gn ma u v fa fl fc fs x
  by_cases k9 : kind = 9
  · subst k9
    cases ho : m.s.off
    · exact do9y h hh he hp hg hB hB1 hN z xt gn ma u v fa fl fc fs x ho
    · exact do9n h hh he hp hg hB hB1 hN z xt gn ma u v fa fl fc fs x ho
  exact don h hh he hp hg hB hB1 hN z xt gn ma u v fa fl fc fs x kind k0 k1 k2 k3 k4 k5 k6 k7 k8 k9
/-- one act more -/
theorem st_do (h : St w0 P p n N m m (some g) (some g) w1 Z1 w) (he : Env w0) (hp : Pln p la lg n) (hg : GOk B lg g) (hB : B + 300 ≤ 1000000000) (hB1 : 1023 ≤ B) (hN : N + 8 ≤ 1000000) (a : ActV) (ha : ActOk w0 a) :
    Calls Tryz.prog 7 #[.pointer (some ⟨P, 0, none⟩), .agg a.cells.toArray] w fun e w' => e = .returned (.bool true) ∧ Done w0 P p n (N + 8) (B + 300) lg w1 Z1 w' := by
  obtain ⟨pw, D, q, E, T, U, F, G, H1, H2, r, h2, k⟩ := h
  refine (do_any r h2 he hp hg hB hB1 hN a ha).mono fun e w' ⟨e1, m', g', ⟨pw', D', q', E', T', U', F', G', H1', H2', r', h2', k'⟩, hw⟩ => ⟨e1, m', g', ⟨pw', D', q', E', T', U', F', G', H1', H2', r', h2', k.trans k'⟩, hw⟩
end
end Go.Proofs.YtikbbikcacoobaaGreatDoor.Pd.Iv

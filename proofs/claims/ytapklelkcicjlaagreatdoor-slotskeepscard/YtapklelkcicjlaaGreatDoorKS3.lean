/-
  Elder texts, one behind the other: SlDo3, SlDo7, SlDoN. No conditions.
-/
import Derived.Test.YtapklelkcicjlaaGreatDoorKSr
import Derived.BigQuiet
import Derived.Deep.RegionHeld
import Derived.Deep.DrawnRows
/-! A call on a pair: Fault. No conditions. -/
namespace Go.Proofs.YtapklelkcicjlaaGreatDoor.Pd.Sl
set_option maxRecDepth 100000
open Go.RowKit Oc Dm W Dw Sr Gt W.Hd
set_option linter.unusedVariables false
set_option maxRecDepth 100000
attribute [local go_sem ↓] Go.wp_at_zero Go.wp_at_succ
section
variable {w0 w : World} {P n N pw D q E la ns B : Nat} {p : Pn.Pl} {T U : Option Addr} {F G H1 H2 : Nat → Prop} {m : Vs} {L : List Slt}
set_option maxHeartbeats 8000000 in
theorem do3 (h : Pr w0 P p n N pw D q E T U F G H1 H2 m m (some L) (some L) w) (hh : PHead w P p pw D q E T U) (he : EnvH w0) (hp : Pln p la ns n) (hL : L.length = ns) (hs : small L B) (hB : B + 1 ≤ 900000) (hN : N + 12 ≤ 1000000) (sl lb : Int) (gn : Nat) (fi : UInt8) (sz z bit : Int) (tn u v : Nat) (fa : Option Addr) (fl fc : Nat) (fs : List Int) (x : Hd) :
    Calls Tryz.prog 8 #[.pointer (some ⟨P, 0, none⟩), .agg #[.int .i64 3, .int .i64 sl, .int .i64 lb, .int .u64 (gn : Int), .int .u8 (fi.toNat : Int), .int .i64 sz, .int .i64 z, .int .i64 bit, .int .u32 (tn : Int), .int .u64 (u : Int), .int .u64 (v : Int), .slice fa fl fc, .bool x.u, .int .i64 x.l, .int .u64 (x.g : Int), .int .u32 (x.s.toNat : Int), .int .u32 (x.r.toNat : Int)]] w fun e w' => e = .returned (.bool true) ∧ Done w0 P p n (N + 12) (B + 1) ns w (Us F pw G q H1 H2) w' := by
  have H := Lib.hid h
  have HH := Lib.hid hh
  have HE := Lib.hid he
  have HP := Lib.hid hp
  have HL := Lib.hid hL
  have HS := Lib.hid hs
  have HS9 : Hid (small L 999999) := hs.more (by omega)
  have HQ : Hid ((Sl.fault L sl).length = ns ∧ small (Sl.fault L sl) (B + 1)) := ⟨(fault_small hs).2.trans hL, (fault_small hs).1⟩
  obtain ⟨bb, hb⟩ : ∃ bb, badZ (Sl.fault L sl) sl = bb := ⟨_, rfl⟩
  have HBB := Lib.hid hb
  clear hb
  clear h hh he hp hL hs
  go_enter Tryz.func8, Tryz.ntmps8
  go_wp2_with ((with_reducible refine L_boxAct (cs := #[.int .i64 3, .int .i64 sl, .int .i64 lb, .int .u64 (gn : Int), .int .u8 (fi.toNat : Int), .int .i64 sz, .int .i64 z, .int .i64 bit, .int .u32 (tn : Int), .int .u64 (u : Int), .int .u64 (v : Int), .slice fa fl fc, .bool x.u, .int .i64 x.l, .int .u64 (x.g : Int), .int .u32 (x.s.toNat : Int), .int .u32 (x.r.toNat : Int)]) ?_ ?_); exact rfl; intro w1 b1 bx1; have B1 := Lib.hid b1; have PR1 := Lib.hid (H.out.below b1); have PH1 := Lib.hid (HH.out.below b1); have K1 := Lib.hid (Kp'.of_below b1 P (Us F pw G q H1 H2)); have BX1 := Lib.hid (bx1 P (Us F pw G q H1 H2) H.out.uP); have a0 := BX1.out.cells 0 _ rfl; have a1 := BX1.out.cells 1 _ rfl; obtain ⟨c26, c27, c28, c29, c30, c31, cf⟩ := phead_all PH1.out; clear b1 bx1)
  have KB : Hid (∀ y, Below w1.heap.size w1 y → Calls Tryz.prog 33 #[.pointer T, .int .i64 sl] y fun e y' => e = .returned (.bool (badZ (Sl.fault L sl) sl)) ∧ Pr w0 P p n N pw D q E T U (Ext F y y') G H1 H2 m m (some (Sl.fault L sl)) (some L) y' ∧ y'.heap[P]? = y.heap[P]? ∧ Kp y (Us F pw G q H1 H2) y' (Us (Ext F y y') pw G q H1 H2)) := fun y hy =>
    (PR1.out.below hy).fault sl HS9.out
  go_region_held (fun x => x.cell? ⟨P, 28, none⟩ = some (.pointer T) ∧ x.cell? ⟨P, 31, none⟩ = some (.pointer U) ∧ x.cell? ⟨w.heap.size, 1, none⟩ = some (.int .i64 sl)) (first | go_keep | exact ⟨(phead_all PH3.out).2.2.1, (phead_all PH3.out).2.2.2.2.2.1, BX3.out.cells 1 _ rfl⟩ | exact ⟨(phead_all PH2.out).2.2.1, (phead_all PH2.out).2.2.2.2.2.1, BX2.out.cells 1 _ rfl⟩)
    (first
      | (go_at_call 33; (with_reducible refine (KB.out _ (bdrew _)).mono ?_); rintro e w2 ⟨rfl, p2, h2, k2⟩; have PR2 := Lib.hid p2; have PH2 := Lib.hid ((PH1.out.below (bdrew _)).of h2); have K2 := Lib.hid ((K1.out.trans (Kp'.of_below (bdrew _) P _)).trans (k2.but P)); have BX2 := Lib.hid (BX1.out.kp ((Kp'.of_below (bdrew _) P _).trans (k2.but P))); clear p2 h2 k2)
      | (go_at_call 43; (with_reducible refine (PR2.out.rfault HP.out sl HS9.out).mono ?_); rintro e w3 ⟨rfl, p3, h3, k3⟩; have PR3 := Lib.hid p3; have PH3 := Lib.hid (PH2.out.of h3); have K3 := Lib.hid (K2.out.trans (k3.but P)); have BX3 := Lib.hid (BX2.out.kp (k3.but P)); clear p3 h3 k3))
  all_goals go_wp2
  all_goals (go_ret; exact ⟨by simp, .of PR3.out PH3.out K3.out (by omega) hN HQ.out.1 HQ.out.2⟩)
end
end Go.Proofs.YtapklelkcicjlaaGreatDoor.Pd.Sl

/-! A call on a pair: Fuse. No conditions. -/
namespace Go.Proofs.YtapklelkcicjlaaGreatDoor.Pd.Sl
set_option maxRecDepth 100000
open Go.RowKit Oc Dm W Dw Sr Gt W.Hd
set_option linter.unusedVariables false
set_option maxRecDepth 100000
attribute [local go_sem ↓] Go.wp_at_zero Go.wp_at_succ
section
variable {w0 w : World} {P n N pw D q E la ns B : Nat} {p : Pn.Pl} {T U : Option Addr} {F G H1 H2 : Nat → Prop} {m : Vs} {L : List Slt}
set_option maxHeartbeats 8000000 in
theorem do7 (h : Pr w0 P p n N pw D q E T U F G H1 H2 m m (some L) (some L) w) (hh : PHead w P p pw D q E T U) (he : EnvH w0) (hp : Pln p la ns n) (hL : L.length = ns) (hs : small L B) (hB : B + 1 ≤ 900000) (hN : N + 12 ≤ 1000000) (sl lb : Int) (gn : Nat) (fi : UInt8) (sz z bit : Int) (tn u v : Nat) (fa : Option Addr) (fl fc : Nat) (fs : List Int) (x : Hd) :
    Calls Tryz.prog 8 #[.pointer (some ⟨P, 0, none⟩), .agg #[.int .i64 7, .int .i64 sl, .int .i64 lb, .int .u64 (gn : Int), .int .u8 (fi.toNat : Int), .int .i64 sz, .int .i64 z, .int .i64 bit, .int .u32 (tn : Int), .int .u64 (u : Int), .int .u64 (v : Int), .slice fa fl fc, .bool x.u, .int .i64 x.l, .int .u64 (x.g : Int), .int .u32 (x.s.toNat : Int), .int .u32 (x.r.toNat : Int)]] w fun e w' => e = .returned (.bool true) ∧ Done w0 P p n (N + 12) (B + 1) ns w (Us F pw G q H1 H2) w' := by
  have H := Lib.hid h
  have HH := Lib.hid hh
  have HE := Lib.hid he
  have HP := Lib.hid hp
  have HL := Lib.hid hL
  have HS := Lib.hid hs
  have HS2 : Hid (small L (B + 1)) := hs.more (Nat.le_succ _)
  obtain ⟨ev, hev⟩ : ∃ ev, PS.fuseE m.s z = ev := ⟨_, rfl⟩
  have HV := Lib.hid hev
  clear hev
  clear h hh he hp hL hs
  go_enter Tryz.func8, Tryz.ntmps8
  go_wp2_with ((with_reducible refine L_boxAct (cs := #[.int .i64 7, .int .i64 sl, .int .i64 lb, .int .u64 (gn : Int), .int .u8 (fi.toNat : Int), .int .i64 sz, .int .i64 z, .int .i64 bit, .int .u32 (tn : Int), .int .u64 (u : Int), .int .u64 (v : Int), .slice fa fl fc, .bool x.u, .int .i64 x.l, .int .u64 (x.g : Int), .int .u32 (x.s.toNat : Int), .int .u32 (x.r.toNat : Int)]) ?_ ?_); exact rfl; intro w1 b1 bx1; have B1 := Lib.hid b1; have PR1 := Lib.hid (H.out.below b1); have PH1 := Lib.hid (HH.out.below b1); have K1 := Lib.hid (Kp'.of_below b1 P (Us F pw G q H1 H2)); have BX1 := Lib.hid (bx1 P (Us F pw G q H1 H2) H.out.uP); have a0 := BX1.out.cells 0 _ rfl; have a6 := BX1.out.cells 6 _ rfl; obtain ⟨c26, c27, c28, c29, c30, c31, cf⟩ := phead_all PH1.out; clear b1 bx1)
  have KB : Hid (∀ y, Below w1.heap.size w1 y → Calls Tryz.prog 11 #[.pointer (some ⟨pw, 0, none⟩), .int .i64 z] y fun e y' => e = .returned (.int .i64 (PS.fuseE m.s z)) ∧ Pr w0 P p n N pw D q E T U (Ext F y y') G H1 H2 { m with s := PS.fuseS m.s z } m (some L) (some L) y' ∧ y'.heap[P]? = y.heap[P]? ∧ Kp y (Us F pw G q H1 H2) y' (Us (Ext F y y') pw G q H1 H2)) := fun y hy =>
    (PR1.out.below hy).fuse z
  go_region_held (fun x => x.cell? ⟨P, 26, none⟩ = some (.pointer (some ⟨pw, 0, none⟩)) ∧ x.cell? ⟨P, 29, none⟩ = some (.pointer (some ⟨q, 0, none⟩)) ∧ x.cell? ⟨w.heap.size, 6, none⟩ = some (.int .i64 z)) (first | go_keep | exact ⟨(phead_all PH3.out).1, (phead_all PH3.out).2.2.2.1, BX3.out.cells 6 _ rfl⟩ | exact ⟨(phead_all PH2.out).1, (phead_all PH2.out).2.2.2.1, BX2.out.cells 6 _ rfl⟩)
    (first
      | (go_at_call 11; (with_reducible refine (KB.out _ (bdrew _)).mono ?_); rintro e w2 ⟨rfl, p2, h2, k2⟩; rw [HV.out]; have PR2 := Lib.hid p2; have PH2 := Lib.hid ((PH1.out.below (bdrew _)).of h2); have K2 := Lib.hid ((K1.out.trans (Kp'.of_below (bdrew _) P _)).trans (k2.but P)); have BX2 := Lib.hid (BX1.out.kp ((Kp'.of_below (bdrew _) P _).trans (k2.but P))); clear p2 h2 k2)
      | (go_at_call 47; (with_reducible refine (PR2.out.rfuse z).mono ?_); rintro e w3 ⟨rfl, p3, h3, k3⟩; rw [HV.out]; have PR3 := Lib.hid p3; have PH3 := Lib.hid (PH2.out.of h3); have K3 := Lib.hid (K2.out.trans (k3.but P)); have BX3 := Lib.hid (BX2.out.kp (k3.but P)); clear p3 h3 k3))
  all_goals go_wp2
  all_goals (go_ret; exact ⟨rfl, .of PR3.out PH3.out K3.out (by omega) hN HL.out HS2.out⟩)
end
end Go.Proofs.YtapklelkcicjlaaGreatDoor.Pd.Sl

/-! A call on a pair: no such kind. No conditions. -/
namespace Go.Proofs.YtapklelkcicjlaaGreatDoor.Pd.Sl
set_option maxRecDepth 100000
open Go.RowKit Oc Dm W Dw Sr Gt W.Hd
set_option linter.unusedVariables false
set_option maxRecDepth 100000
attribute [local go_sem ↓] Go.wp_at_zero Go.wp_at_succ
section
variable {w0 w : World} {P n N pw D q E la ns B : Nat} {p : Pn.Pl} {T U : Option Addr} {F G H1 H2 : Nat → Prop} {m : Vs} {L : List Slt}
set_option maxHeartbeats 8000000 in
theorem don (h : Pr w0 P p n N pw D q E T U F G H1 H2 m m (some L) (some L) w) (hh : PHead w P p pw D q E T U) (he : EnvH w0) (hp : Pln p la ns n) (hL : L.length = ns) (hs : small L B) (hB : B + 1 ≤ 900000) (hN : N + 12 ≤ 1000000) (sl lb : Int) (gn : Nat) (fi : UInt8) (sz z bit : Int) (tn u v : Nat) (fa : Option Addr) (fl fc : Nat) (fs : List Int) (x : Hd) (kd : Int) (k0 : ¬ kd = 0) (k1 : ¬ kd = 1) (k2 : ¬ kd = 2) (k3 : ¬ kd = 3) (k4 : ¬ kd = 4) (k5 : ¬ kd = 5) (k6 : ¬ kd = 6) (k7 : ¬ kd = 7) (k8 : ¬ kd = 8) (k9 : ¬ kd = 9) (k10 : ¬ kd = 10) :
    Calls Tryz.prog 8 #[.pointer (some ⟨P, 0, none⟩), .agg #[.int .i64 kd, .int .i64 sl, .int .i64 lb, .int .u64 (gn : Int), .int .u8 (fi.toNat : Int), .int .i64 sz, .int .i64 z, .int .i64 bit, .int .u32 (tn : Int), .int .u64 (u : Int), .int .u64 (v : Int), .slice fa fl fc, .bool x.u, .int .i64 x.l, .int .u64 (x.g : Int), .int .u32 (x.s.toNat : Int), .int .u32 (x.r.toNat : Int)]] w fun e w' => e = .returned (.bool true) ∧ Done w0 P p n (N + 12) (B + 1) ns w (Us F pw G q H1 H2) w' := by
  have H := Lib.hid h
  have HH := Lib.hid hh
  have HE := Lib.hid he
  have HP := Lib.hid hp
  have HL := Lib.hid hL
  have HS := Lib.hid hs
  have HS2 : Hid (small L (B + 1)) := hs.more (Nat.le_succ _)
  clear h hh he hp hL hs
  go_enter Tryz.func8, Tryz.ntmps8
  go_wp2_with ((with_reducible refine L_boxAct (cs := #[.int .i64 kd, .int .i64 sl, .int .i64 lb, .int .u64 (gn : Int), .int .u8 (fi.toNat : Int), .int .i64 sz, .int .i64 z, .int .i64 bit, .int .u32 (tn : Int), .int .u64 (u : Int), .int .u64 (v : Int), .slice fa fl fc, .bool x.u, .int .i64 x.l, .int .u64 (x.g : Int), .int .u32 (x.s.toNat : Int), .int .u32 (x.r.toNat : Int)]) ?_ ?_); exact rfl; intro w1 b1 bx1; have B1 := Lib.hid b1; have PR1 := Lib.hid (H.out.below b1); have PH1 := Lib.hid (HH.out.below b1); have K1 := Lib.hid (Kp'.of_below b1 P (Us F pw G q H1 H2)); have BX1 := Lib.hid (bx1 P (Us F pw G q H1 H2) H.out.uP); have a0 := BX1.out.cells 0 _ rfl; obtain ⟨c26, c27, c28, c29, c30, c31, cf⟩ := phead_all PH1.out; clear b1 bx1)
  go_ret
  exact ⟨rfl, .of PR1.out PH1.out K1.out (by omega) hN HL.out HS2.out⟩
end
end Go.Proofs.YtapklelkcicjlaaGreatDoor.Pd.Sl

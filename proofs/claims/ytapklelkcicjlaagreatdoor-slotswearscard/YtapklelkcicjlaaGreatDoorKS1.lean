/-
  Elder texts, one behind the other: SlDo1, SlDo5, SlDo9. No conditions.
-/
import Derived.Test.YtapklelkcicjlaaGreatDoorKSr
import Derived.BigQuiet
import Derived.Deep.RegionHeld
import Derived.Deep.DrawnRows
/-! A call on a pair: Read. No conditions. -/
namespace Go.Proofs.YtapklelkcicjlaaGreatDoor.Pd.Sl
set_option maxRecDepth 100000
open Go.RowKit Oc Dm W Dw Sr Gt W.Hd
set_option linter.unusedVariables false
set_option maxRecDepth 100000
attribute [local go_sem ↓] Go.wp_at_zero Go.wp_at_succ
section
variable {w0 w : World} {P n N pw D q E la ns B : Nat} {p : Pn.Pl} {T U : Option Addr} {F G H1 H2 : Nat → Prop} {m : Vs} {L : List Slt}
set_option maxHeartbeats 8000000 in
theorem do1 (h : Pr w0 P p n N pw D q E T U F G H1 H2 m m (some L) (some L) w) (hh : PHead w P p pw D q E T U) (he : EnvH w0) (hp : Pln p la ns n) (hL : L.length = ns) (hs : small L B) (hB : B + 1 ≤ 900000) (hN : N + 12 ≤ 1000000) (sl lb : Int) (gn : Nat) (fi : UInt8) (sz z bit : Int) (tn u v : Nat) (fa : Option Addr) (fl fc : Nat) (fs : List Int) (x : Hd) :
    Calls Tryz.prog 8 #[.pointer (some ⟨P, 0, none⟩), .agg #[.int .i64 1, .int .i64 sl, .int .i64 lb, .int .u64 (gn : Int), .int .u8 (fi.toNat : Int), .int .i64 sz, .int .i64 z, .int .i64 bit, .int .u32 (tn : Int), .int .u64 (u : Int), .int .u64 (v : Int), .slice fa fl fc, .bool x.u, .int .i64 x.l, .int .u64 (x.g : Int), .int .u32 (x.s.toNat : Int), .int .u32 (x.r.toNat : Int)]] w fun e w' => e = .returned (.bool true) ∧ Done w0 P p n (N + 12) (B + 1) ns w (Us F pw G q H1 H2) w' := by
  have H := Lib.hid h
  have HH := Lib.hid hh
  have HE := Lib.hid he
  have HP := Lib.hid hp
  have HL := Lib.hid hL
  have HS := Lib.hid hs
  have HS2 : Hid (small L (B + 1)) := hs.more (Nat.le_succ _)
  obtain ⟨ys, gg, ev, m2, hr⟩ : ∃ ys gg ev m2, readS la sl lb L m = ((ys, gg, ev), m2) := ⟨_, _, _, _, rfl⟩
  have HR := Lib.hid hr
  have HST : Hid (∀ i, i < n → (m.S i).stands.length = 64) := fun i hi => h.pd.stand hi
  clear hr
  clear h hh he hp hL hs
  go_enter Tryz.func8, Tryz.ntmps8
  go_wp2_with ((with_reducible refine L_boxAct (cs := #[.int .i64 1, .int .i64 sl, .int .i64 lb, .int .u64 (gn : Int), .int .u8 (fi.toNat : Int), .int .i64 sz, .int .i64 z, .int .i64 bit, .int .u32 (tn : Int), .int .u64 (u : Int), .int .u64 (v : Int), .slice fa fl fc, .bool x.u, .int .i64 x.l, .int .u64 (x.g : Int), .int .u32 (x.s.toNat : Int), .int .u32 (x.r.toNat : Int)]) ?_ ?_); exact rfl; intro w1 b1 bx1; have B1 := Lib.hid b1; have PR1 := Lib.hid (H.out.below b1); have PH1 := Lib.hid (HH.out.below b1); have K1 := Lib.hid (Kp'.of_below b1 P (Us F pw G q H1 H2)); have BX1 := Lib.hid (bx1 P (Us F pw G q H1 H2) H.out.uP); have a0 := BX1.out.cells 0 _ rfl; have a1 := BX1.out.cells 1 _ rfl; have a2 := BX1.out.cells 2 _ rfl; obtain ⟨c26, c27, c28, c29, c30, c31, cf⟩ := phead_all PH1.out; clear b1 bx1)
  have KB : Hid (∀ y, Below w1.heap.size w1 y → Calls Tryz.prog 24 #[.pointer T, .int .i64 sl, .int .i64 lb] y fun e y' => ∃ A l c, e = .returned (.tuple #[.slice A l c, .int .u64 (gg : Int), .int .i64 ev]) ∧ Oct y' A l ys ∧ (∀ b off, 0 < l → A = some ⟨b, off, none⟩ → y.heap.size ≤ b) ∧ Pr w0 P p n N pw D q E T U F G H1 H2 m2 m (some L) (some L) y' ∧ y'.heap[P]? = y.heap[P]? ∧ Kp y (Us F pw G q H1 H2) y' (Us F pw G q H1 H2)) := fun y hy =>
    ((PR1.out.below hy).read HE.out HP.out HL.out sl lb ((ys, gg, ev), m2) HR.out).mono fun e y' ⟨⟨A, l, c, e1, e2, _, _, e3⟩, e4, e5, e6⟩ => ⟨A, l, c, e1, e2, e3, e4, e5, e6⟩
  have KC : Hid (∀ y, Pr w0 P p n N pw D q E T U F G H1 H2 m2 m (some L) (some L) y → Calls Tryz.prog 41 #[.pointer U, .int .i64 sl, .int .i64 lb] y fun e y' => ∃ BB, e = .returned (.tuple #[.string BB, .int .u64 (gg : Int), .int .i64 ev]) ∧ tx ys = .string BB ∧ Pr w0 P p n N pw D q E T U F G H1 H2 m2 m2 (some L) (some L) y' ∧ y'.heap[P]? = y.heap[P]? ∧ Kp y (Us F pw G q H1 H2) y' (Us F pw G q H1 H2)) := fun y hy =>
    (hy.rread HP.out HL.out HST.out sl lb ((ys, gg, ev), m2) HR.out).mono fun e y' ⟨⟨BB, e1, e2⟩, e4, e5, e6⟩ => ⟨BB, e1, e2, e4, e5, e6⟩
  go_region_held (fun x => x.cell? ⟨P, 28, none⟩ = some (.pointer T) ∧ x.cell? ⟨w.heap.size, 1, none⟩ = some (.int .i64 sl) ∧ x.cell? ⟨w.heap.size, 2, none⟩ = some (.int .i64 lb)) (first | go_keep | exact ⟨(phead_all PH2.out).2.2.1, BX2.out.cells 1 _ rfl, BX2.out.cells 2 _ rfl⟩)
    (first
      | (go_at_call 24; (with_reducible refine (KB.out _ (bdrew _)).mono ?_); rintro e w2 ⟨A, l, c, rfl, o2, f2, p2, h2, k2⟩; have PR2 := Lib.hid p2; have PH2 := Lib.hid ((PH1.out.below (bdrew _)).of h2); have KK := Lib.hid ((Kp'.of_below (bdrew w1) P (Us F pw G q H1 H2)).trans (k2.but P)); have K2 := Lib.hid (K1.out.trans KK.out); have BX2 := Lib.hid (BX1.out.kp KK.out); have O2 := Lib.hid o2; have GN : Hid (∀ b off, 0 < l → A = some ⟨b, off, none⟩ → ¬ (Us F pw G q H1 H2 b ∨ b = P)) := (fun b off h0 e y => by have := PR1.out.uP b y; have : w1.heap.size ≤ b := f2 b off h0 e; omega); clear p2 h2 k2 o2 f2))
  all_goals
    clear a0 a1 a2 c26 c27 c28 c29 c30 c31 cf
    have a1 := BX2.out.cells 1 _ rfl
    have a2 := BX2.out.cells 2 _ rfl
    obtain ⟨c26, c27, c28, c29, c30, c31, cf⟩ := phead_all PH2.out
    go_wp2_with fail
    go_region_held (fun x => x.cell? ⟨P, 31, none⟩ = some (.pointer U) ∧ x.cell? ⟨w.heap.size, 1, none⟩ = some (.int .i64 sl) ∧ x.cell? ⟨w.heap.size, 2, none⟩ = some (.int .i64 lb)) (first | go_keep | exact ⟨(phead_all PH3.out).2.2.2.2.2.1, BX3.out.cells 1 _ rfl, BX3.out.cells 2 _ rfl⟩)
      (first
        | (go_at_call 41; (with_reducible refine (KC.out _ (PR2.out.below (bdrew _))).mono ?_); rintro e w3 ⟨BB, rfl, t3, p3, h3, k3⟩; have PR3 := Lib.hid p3; have PH3 := Lib.hid ((PH2.out.below (bdrew _)).of h3); have KK3 := Lib.hid ((Kp'.of_below (bdrew w2) P (Us F pw G q H1 H2)).trans (k3.but P)); have K3 := Lib.hid (K2.out.trans KK3.out); have BX3 := Lib.hid (BX2.out.kp KK3.out); have TB := Lib.hid t3; have O3 : Hid (Oct w3 A l ys) := (O2.out.heap fun b off h0 e => (KK3.out.at_ b (O2.out.lt h0 e) (GN.out b off h0 e)).1); clear p3 h3 k3 t3))
    all_goals
      clear a1 a2 c26 c27 c28 c29 c30 c31 cf
      have cv := O3.out.conv Dm.bt Tryz.underlying9 c
      rw [show Value.string (bstr ys) = .string BB from TB.out] at cv
      go_wp2
      go_ret
      exact ⟨by simp, .of PR3.out PH3.out K3.out (by omega) hN HL.out HS2.out⟩
end
end Go.Proofs.YtapklelkcicjlaaGreatDoor.Pd.Sl

/-! A call on a pair: Flush. No conditions. -/
namespace Go.Proofs.YtapklelkcicjlaaGreatDoor.Pd.Sl
set_option maxRecDepth 100000
open Go.RowKit Oc Dm W Dw Sr Gt W.Hd
set_option linter.unusedVariables false
set_option maxRecDepth 100000
attribute [local go_sem ↓] Go.wp_at_zero Go.wp_at_succ
section
variable {w0 w : World} {P n N pw D q E la ns B : Nat} {p : Pn.Pl} {T U : Option Addr} {F G H1 H2 : Nat → Prop} {m : Vs} {L : List Slt}
set_option maxHeartbeats 8000000 in
theorem do5 (h : Pr w0 P p n N pw D q E T U F G H1 H2 m m (some L) (some L) w) (hh : PHead w P p pw D q E T U) (he : EnvH w0) (hp : Pln p la ns n) (hL : L.length = ns) (hs : small L B) (hB : B + 1 ≤ 900000) (hN : N + 12 ≤ 1000000) (sl lb : Int) (gn : Nat) (fi : UInt8) (sz z bit : Int) (tn u v : Nat) (fa : Option Addr) (fl fc : Nat) (fs : List Int) (x : Hd) :
    Calls Tryz.prog 8 #[.pointer (some ⟨P, 0, none⟩), .agg #[.int .i64 5, .int .i64 sl, .int .i64 lb, .int .u64 (gn : Int), .int .u8 (fi.toNat : Int), .int .i64 sz, .int .i64 z, .int .i64 bit, .int .u32 (tn : Int), .int .u64 (u : Int), .int .u64 (v : Int), .slice fa fl fc, .bool x.u, .int .i64 x.l, .int .u64 (x.g : Int), .int .u32 (x.s.toNat : Int), .int .u32 (x.r.toNat : Int)]] w fun e w' => e = .returned (.bool true) ∧ Done w0 P p n (N + 12) (B + 1) ns w (Us F pw G q H1 H2) w' := by
  have H := Lib.hid h
  have HH := Lib.hid hh
  have HE := Lib.hid he
  have HP := Lib.hid hp
  have HL := Lib.hid hL
  have HS := Lib.hid hs
  have HS2 : Hid (small L (B + 1)) := hs.more (Nat.le_succ _)
  obtain ⟨ev, hev⟩ : ∃ ev, (fl1 m).1 = ev := ⟨_, rfl⟩
  have HV := Lib.hid hev
  clear hev
  clear h hh he hp hL hs
  go_enter Tryz.func8, Tryz.ntmps8
  go_wp2_with ((with_reducible refine L_boxAct (cs := #[.int .i64 5, .int .i64 sl, .int .i64 lb, .int .u64 (gn : Int), .int .u8 (fi.toNat : Int), .int .i64 sz, .int .i64 z, .int .i64 bit, .int .u32 (tn : Int), .int .u64 (u : Int), .int .u64 (v : Int), .slice fa fl fc, .bool x.u, .int .i64 x.l, .int .u64 (x.g : Int), .int .u32 (x.s.toNat : Int), .int .u32 (x.r.toNat : Int)]) ?_ ?_); exact rfl; intro w1 b1 bx1; have B1 := Lib.hid b1; have PR1 := Lib.hid (H.out.below b1); have PH1 := Lib.hid (HH.out.below b1); have K1 := Lib.hid (Kp'.of_below b1 P (Us F pw G q H1 H2)); have BX1 := Lib.hid (bx1 P (Us F pw G q H1 H2) H.out.uP); have a0 := BX1.out.cells 0 _ rfl; obtain ⟨c26, c27, c28, c29, c30, c31, cf⟩ := phead_all PH1.out; clear b1 bx1)
  have KB : Hid (∀ y, Below w1.heap.size w1 y → Calls Tryz.prog 16 #[.pointer (some ⟨D, 0, none⟩)] y fun e y' => e = .returned (.int .i64 (fl1 m).1) ∧ Pr w0 P p n (N + 1) pw D q E T U (Ext F y y') G H1 H2 (fl1 m).2 m (some L) (some L) y' ∧ y'.heap[P]? = y.heap[P]? ∧ Kp y (Us F pw G q H1 H2) y' (Us (Ext F y y') pw G q H1 H2)) := fun y hy =>
    (PR1.out.below hy).flush (by omega)
  go_region_held (fun x => x.cell? ⟨P, 27, none⟩ = some (.pointer (some ⟨D, 0, none⟩)) ∧ x.cell? ⟨P, 30, none⟩ = some (.pointer (some ⟨E, 0, none⟩))) (first | go_keep | exact ⟨(phead_all PH3.out).2.1, (phead_all PH3.out).2.2.2.2.1⟩ | exact ⟨(phead_all PH2.out).2.1, (phead_all PH2.out).2.2.2.2.1⟩)
    (first
      | (go_at_call 16; (with_reducible refine (KB.out _ (bdrew _)).mono ?_); rintro e w2 ⟨rfl, p2, h2, k2⟩; rw [HV.out]; have PR2 := Lib.hid p2; have PH2 := Lib.hid ((PH1.out.below (bdrew _)).of h2); have K2 := Lib.hid ((K1.out.trans (Kp'.of_below (bdrew _) P _)).trans (k2.but P)); have BX2 := Lib.hid (BX1.out.kp ((Kp'.of_below (bdrew _) P _).trans (k2.but P))); clear p2 h2 k2)
      | (go_at_call 45; (with_reducible refine (PR2.out.rflush (by omega)).mono ?_); rintro e w3 ⟨rfl, p3, h3, k3⟩; rw [HV.out]; have PR3 := Lib.hid p3; have PH3 := Lib.hid (PH2.out.of h3); have K3 := Lib.hid (K2.out.trans (k3.but P)); have BX3 := Lib.hid (BX2.out.kp (k3.but P)); clear p3 h3 k3))
  all_goals go_wp2
  all_goals (go_ret; exact ⟨rfl, .of PR3.out PH3.out K3.out (by omega) hN HL.out HS2.out⟩)
end
end Go.Proofs.YtapklelkcicjlaaGreatDoor.Pd.Sl

/-! A call on a pair: Rot. No conditions. -/
namespace Go.Proofs.YtapklelkcicjlaaGreatDoor.Pd.Sl
set_option maxRecDepth 100000
open Go.RowKit Oc Dm W Dw Sr Gt W.Hd
set_option linter.unusedVariables false
set_option maxRecDepth 100000
attribute [local go_sem ↓] Go.wp_at_zero Go.wp_at_succ
section
variable {w0 w : World} {P n N pw D q E la ns B : Nat} {p : Pn.Pl} {T U : Option Addr} {F G H1 H2 : Nat → Prop} {m : Vs} {L : List Slt}
set_option maxHeartbeats 8000000 in
theorem do9 (h : Pr w0 P p n N pw D q E T U F G H1 H2 m m (some L) (some L) w) (hh : PHead w P p pw D q E T U) (he : EnvH w0) (hp : Pln p la ns n) (hL : L.length = ns) (hs : small L B) (hB : B + 1 ≤ 900000) (hN : N + 12 ≤ 1000000) (sl lb : Int) (gn : Nat) (fi : UInt8) (sz z bit : Int) (tn u v : Nat) (fa : Option Addr) (fl fc : Nat) (fs : List Int) (x : Hd) (ht : tn < 4294967296) :
    Calls Tryz.prog 8 #[.pointer (some ⟨P, 0, none⟩), .agg #[.int .i64 9, .int .i64 sl, .int .i64 lb, .int .u64 (gn : Int), .int .u8 (fi.toNat : Int), .int .i64 sz, .int .i64 z, .int .i64 bit, .int .u32 (tn : Int), .int .u64 (u : Int), .int .u64 (v : Int), .slice fa fl fc, .bool x.u, .int .i64 x.l, .int .u64 (x.g : Int), .int .u32 (x.s.toNat : Int), .int .u32 (x.r.toNat : Int)]] w fun e w' => e = .returned (.bool true) ∧ Done w0 P p n (N + 12) (B + 1) ns w (Us F pw G q H1 H2) w' := by
  have H := Lib.hid h
  have HH := Lib.hid hh
  have HE := Lib.hid he
  have HP := Lib.hid hp
  have HL := Lib.hid hL
  have HS := Lib.hid hs
  have HS2 : Hid (small L (B + 1)) := hs.more (Nat.le_succ _)
  obtain ⟨s, hs'⟩ : ∃ s, atF la ns z = s := ⟨_, rfl⟩
  have HSS := Lib.hid hs'
  obtain ⟨ev, m2, hr⟩ : ∃ ev m2, rt1 n m s bit tn = (ev, m2) := ⟨_, _, rfl⟩
  have HR := Lib.hid hr
  have HFL : Hid (∀ i, i < n → (m.S i).fixed.length = 64) := fun i hi => (h.pd.secs.2 i hi).2
  clear hs' hr
  clear h hh he hp hL hs
  go_enter Tryz.func8, Tryz.ntmps8
  go_wp2_with ((with_reducible refine L_boxAct (cs := #[.int .i64 9, .int .i64 sl, .int .i64 lb, .int .u64 (gn : Int), .int .u8 (fi.toNat : Int), .int .i64 sz, .int .i64 z, .int .i64 bit, .int .u32 (tn : Int), .int .u64 (u : Int), .int .u64 (v : Int), .slice fa fl fc, .bool x.u, .int .i64 x.l, .int .u64 (x.g : Int), .int .u32 (x.s.toNat : Int), .int .u32 (x.r.toNat : Int)]) ?_ ?_); exact rfl; intro w1 b1 bx1; have B1 := Lib.hid b1; have PR1 := Lib.hid (H.out.below b1); have PH1 := Lib.hid (HH.out.below b1); have K1 := Lib.hid (Kp'.of_below b1 P (Us F pw G q H1 H2)); have BX1 := Lib.hid (bx1 P (Us F pw G q H1 H2) H.out.uP); have a0 := BX1.out.cells 0 _ rfl; have a6 := BX1.out.cells 6 _ rfl; have a7 := BX1.out.cells 7 _ rfl; have a8 := BX1.out.cells 8 _ rfl; obtain ⟨c26, c27, c28, c29, c30, c31, cf⟩ := phead_all PH1.out; clear b1 bx1)
  have KA : Hid (∀ y, PHead y P p pw D q E T U → Calls Tryz.prog 23 #[.pointer (some ⟨P, 0, none⟩), .int .i64 z] y fun e y' => e = .returned (.int .i64 s) ∧ Below y.heap.size y y') := fun y hy => by
    have := at_any hy HP.out z
    rwa [HSS.out] at this
  have KB : Hid (∀ y, Below w1.heap.size w1 y → Calls Tryz.prog 22 #[.pointer (some ⟨D, 0, none⟩), .int .i64 s, .int .i64 bit, .int .u32 (tn : Int)] y fun e y' => e = .returned (.int .i64 ev) ∧ Pr w0 P p n (N + 1) pw D q E T U (Ext F y y') G H1 H2 m2 m (some L) (some L) y' ∧ y'.heap[P]? = y.heap[P]? ∧ Kp y (Us F pw G q H1 H2) y' (Us (Ext F y y') pw G q H1 H2)) := fun y hy => by
    have := (PR1.out.below hy).rot (by omega) s bit tn ht
    rwa [HR.out] at this
  have KC : Hid (∀ y F' N', Pr w0 P p n N' pw D q E T U F' G H1 H2 m2 m (some L) (some L) y → Calls Tryz.prog 49 #[.pointer (some ⟨E, 0, none⟩), .int .i64 s, .int .i64 bit, .int .u32 (tn : Int)] y fun e y' => e = .returned (.int .i64 ev) ∧ Pr w0 P p n N' pw D q E T U F' (Ext G y y') H1 H2 m2 m2 (some L) (some L) y' ∧ y'.heap[P]? = y.heap[P]? ∧ Kp y (Us F' pw G q H1 H2) y' (Us F' pw (Ext G y y') q H1 H2)) := fun y F' N' hy => by
    have := hy.rrot s bit tn ht HFL.out
    rwa [HR.out] at this
  go_region_held (fun x => x.cell? ⟨P, 27, none⟩ = some (.pointer (some ⟨D, 0, none⟩)) ∧ x.cell? ⟨P, 30, none⟩ = some (.pointer (some ⟨E, 0, none⟩)) ∧ x.cell? ⟨w.heap.size, 6, none⟩ = some (.int .i64 z) ∧ x.cell? ⟨w.heap.size, 7, none⟩ = some (.int .i64 bit) ∧ x.cell? ⟨w.heap.size, 8, none⟩ = some (.int .u32 (tn : Int))) (first | go_keep | exact ⟨(phead_all PH5.out).2.1, (phead_all PH5.out).2.2.2.2.1, BX5.out.cells 6 _ rfl, BX5.out.cells 7 _ rfl, BX5.out.cells 8 _ rfl⟩ | exact ⟨(phead_all PH4.out).2.1, (phead_all PH4.out).2.2.2.2.1, BX4.out.cells 6 _ rfl, BX4.out.cells 7 _ rfl, BX4.out.cells 8 _ rfl⟩ | exact ⟨(phead_all PH3.out).2.1, (phead_all PH3.out).2.2.2.2.1, BX3.out.cells 6 _ rfl, BX3.out.cells 7 _ rfl, BX3.out.cells 8 _ rfl⟩ | exact ⟨(phead_all PH2.out).2.1, (phead_all PH2.out).2.2.2.2.1, BX2.out.cells 6 _ rfl, BX2.out.cells 7 _ rfl, BX2.out.cells 8 _ rfl⟩)
    (first
      | (go_at_call 23; (with_reducible refine (KA.out _ PH3.out).mono ?_); rintro e w4 ⟨rfl, b4⟩; have PR4 := Lib.hid (PR3.out.below b4); have PH4 := Lib.hid (PH3.out.below b4); have K4 := Lib.hid (K3.out.trans (Kp'.of_below b4 P _)); have BX4 := Lib.hid (BX3.out.kp (Kp'.of_below b4 P _)); clear b4)
      | (go_at_call 23; (with_reducible refine (KA.out _ (PH1.out.below (bdrew _))).mono ?_); rintro e w2 ⟨rfl, b2⟩; have B2 : Hid (Below w1.heap.size w1 w2) := bthen (bdrew _) b2; have PH2 := Lib.hid (PH1.out.below B2.out); have K2 := Lib.hid (K1.out.trans (Kp'.of_below B2.out P _)); have BX2 := Lib.hid (BX1.out.kp (Kp'.of_below B2.out P _)); clear b2)
      | (go_at_call 22; (with_reducible refine (KB.out _ B2.out).mono ?_); rintro e w3 ⟨rfl, p3, h3, k3⟩; have PR3 := Lib.hid p3; have PH3 := Lib.hid (PH2.out.of h3); have K3 := Lib.hid (K2.out.trans (k3.but P)); have BX3 := Lib.hid (BX2.out.kp (k3.but P)); clear p3 h3 k3)
      | (go_at_call 49; (with_reducible refine (KC.out _ _ _ PR4.out).mono ?_); rintro e w5 ⟨rfl, p5, h5, k5⟩; have PR5 := Lib.hid p5; have PH5 := Lib.hid (PH4.out.of h5); have K5 := Lib.hid (K4.out.trans (k5.but P)); have BX5 := Lib.hid (BX4.out.kp (k5.but P)); clear p5 h5 k5))
  all_goals go_wp2
  all_goals (go_ret; exact ⟨by simp, .of PR5.out PH5.out K5.out (by omega) hN HL.out HS2.out⟩)
end
end Go.Proofs.YtapklelkcicjlaaGreatDoor.Pd.Sl

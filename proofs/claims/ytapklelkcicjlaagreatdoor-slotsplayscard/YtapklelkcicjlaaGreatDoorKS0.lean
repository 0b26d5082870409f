/-
  Elder texts, one behind the other: SlDo0, SlDo4, SlDo8. No conditions.
-/
import Derived.Test.YtapklelkcicjlaaGreatDoorKSr
import Derived.BigQuiet
import Derived.Deep.RegionHeld
import Derived.Deep.DrawnRows
/-! A call on a pair: Fill. No conditions. -/
namespace Go.Proofs.YtapklelkcicjlaaGreatDoor.Pd.Sl
set_option maxRecDepth 100000
open Go.RowKit Oc Dm W Dw Sr Gt W.Hd
set_option linter.unusedVariables false
set_option maxRecDepth 100000
attribute [local go_sem ↓] Go.wp_at_zero Go.wp_at_succ
section
variable {w0 w : World} {P n N pw D q E la ns B : Nat} {p : Pn.Pl} {T U : Option Addr} {F G H1 H2 : Nat → Prop} {m : Vs} {L : List Slt}
set_option maxHeartbeats 8000000 in
theorem do0 (h : Pr w0 P p n N pw D q E T U F G H1 H2 m m (some L) (some L) w) (hh : PHead w P p pw D q E T U) (he : EnvH w0) (hp : Pln p la ns n) (hL : L.length = ns) (hs : small L B) (hB : B + 1 ≤ 900000) (hN : N + 12 ≤ 1000000) (sl lb : Int) (gn : Nat) (fi : UInt8) (sz z bit : Int) (tn u v : Nat) (fa : Option Addr) (fl fc : Nat) (fs : List Int) (x : Hd) :
    Calls Tryz.prog 8 #[.pointer (some ⟨P, 0, none⟩), .agg #[.int .i64 0, .int .i64 sl, .int .i64 lb, .int .u64 (gn : Int), .int .u8 (fi.toNat : Int), .int .i64 sz, .int .i64 z, .int .i64 bit, .int .u32 (tn : Int), .int .u64 (u : Int), .int .u64 (v : Int), .slice fa fl fc, .bool x.u, .int .i64 x.l, .int .u64 (x.g : Int), .int .u32 (x.s.toNat : Int), .int .u32 (x.r.toNat : Int)]] w fun e w' => e = .returned (.bool true) ∧ Done w0 P p n (N + 12) (B + 1) ns w (Us F pw G q H1 H2) w' := by
  have H := Lib.hid h
  have HH := Lib.hid hh
  have HE := Lib.hid he
  have HP := Lib.hid hp
  have HL := Lib.hid hL
  have HS := Lib.hid hs
  obtain ⟨xs, hxs⟩ : ∃ xs, List.replicate (fillLen sz) fi = xs := ⟨_, rfl⟩
  have hxl : xs.length = fillLen sz := by rw [← hxs, List.length_replicate]
  have hxm : xs.map ov = List.replicate (fillLen sz) (ov fi) := by rw [← hxs, List.map_replicate]
  have HXL := Lib.hid hxl
  have HXM := Lib.hid hxm
  have HK6 : Hid (fillLen sz ≤ 1000000) := Nat.le_trans (fillLen_le sz) (by decide)
  obtain ⟨v0, L2, m2, hr⟩ : ∃ v0 L2 m2, Sl.fill la sl lb gn xs L m = (v0, L2, m2) := ⟨_, _, _, rfl⟩
  have HR := Lib.hid hr
  have HQ : Hid (L2.length = ns ∧ small L2 (B + 1)) := by
    have := fill_small (la := la) (z := sl) (b := lb) (g := gn) (xs := xs) (m := m) hs
    rw [hr] at this
    exact ⟨this.2.trans hL, this.1.more (Nat.le_succ _)⟩
  have HUP : Hid (∀ b, Us F pw G q H1 H2 b ∨ b = P → b < w.heap.size) := h.uP
  have FA := Lib.hid (fun w => Dw.fill_any w fi sz)
  generalize fillLen sz = fk at HXL HXM HK6 FA
  clear hr hxs hxl hxm
  clear h hh he hp hL hs
  go_enter Tryz.func8, Tryz.ntmps8
  go_wp2_with ((with_reducible refine L_boxAct (cs := #[.int .i64 0, .int .i64 sl, .int .i64 lb, .int .u64 (gn : Int), .int .u8 (fi.toNat : Int), .int .i64 sz, .int .i64 z, .int .i64 bit, .int .u32 (tn : Int), .int .u64 (u : Int), .int .u64 (v : Int), .slice fa fl fc, .bool x.u, .int .i64 x.l, .int .u64 (x.g : Int), .int .u32 (x.s.toNat : Int), .int .u32 (x.r.toNat : Int)]) ?_ ?_); exact rfl; intro w1 b1 bx1; have B1 := Lib.hid b1; have PR1 := Lib.hid (H.out.below b1); have PH1 := Lib.hid (HH.out.below b1); have K1 := Lib.hid (Kp'.of_below b1 P (Us F pw G q H1 H2)); have BX1 := Lib.hid (bx1 P (Us F pw G q H1 H2) H.out.uP); have a0 := BX1.out.cells 0 _ rfl; have a1 := BX1.out.cells 1 _ rfl; have a2 := BX1.out.cells 2 _ rfl; have a3 := BX1.out.cells 3 _ rfl; have a4 := BX1.out.cells 4 _ rfl; have a5 := BX1.out.cells 5 _ rfl; obtain ⟨c26, c27, c28, c29, c30, c31, cf⟩ := phead_all PH1.out; clear b1 bx1)
  refine (FA.out _).mono ?_; rintro e w2 ⟨gx, rfl, hgx, o2, b2⟩
  rw [← HXM.out] at o2
  have PR2 := Lib.hid (PR1.out.below b2)
  have PH2 := Lib.hid (PH1.out.below b2)
  have K2 := Lib.hid (K1.out.trans (Kp'.of_below b2 P _))
  have BX2 := Lib.hid (BX1.out.kp (Kp'.of_below b2 P _))
  have OC := Lib.hid (oct_own o2 HXL.out)
  have GN : Hid (¬ (Us F pw G q H1 H2 gx ∨ gx = P)) := fun y => by have := HUP.out gx y; have := B1.out.size; omega
  have GX : Hid (gx < w2.heap.size) := (o2.ge gx rfl).2
  clear a0 a1 a2 a3 a4 a5 c26 c27 c28 c29 c30 c31 cf o2 b2 hgx
  have a1 := BX2.out.cells 1 _ rfl
  have a2 := BX2.out.cells 2 _ rfl
  have a3 := BX2.out.cells 3 _ rfl
  obtain ⟨c26, c27, c28, c29, c30, c31, cf⟩ := phead_all PH2.out
  have KB : Hid (∀ y, Below w2.heap.size w2 y → Calls Tryz.prog 12 #[.pointer T, .int .i64 sl, .int .i64 lb, .int .u64 (gn : Int), .slice (some ⟨gx, 0, none⟩) fk fk] y fun e y' => e = .returned (.int .i64 v0) ∧ Pr w0 P p n (N + 5) pw D q E T U (Ext F y y') G H1 H2 m2 m (some L2) (some L) y' ∧ y'.heap[P]? = y.heap[P]? ∧ Kp y (Us F pw G q H1 H2) y' (Us (Ext F y y') pw G q H1 H2)) := fun y hy =>
    (PR2.out.below hy).fill HE.out HP.out HL.out (by omega) sl lb gn HK6.out (OC.out.below hy) (fun b off h0 e => by injection e with e; injection e with e; subst e; exact ⟨fun hb => GN.out (.inl (.inl hb)), fun hb => GN.out (.inl (.inr (.inr (.inl hb))))⟩) (v0, L2, m2) HR.out
  have KC : Hid (∀ y F', Pr w0 P p n (N + 5) pw D q E T U F' G H1 H2 m2 m (some L2) (some L) y → Oct y (some ⟨gx, 0, none⟩) fk xs → Calls Tryz.prog 38 #[.pointer U, .int .i64 sl, .int .i64 lb, .int .u64 (gn : Int), .slice (some ⟨gx, 0, none⟩) fk fk] y fun e y' => e = .returned (.int .i64 v0) ∧ Pr w0 P p n (N + 10) pw D q E T U F' (Ext G y y') H1 H2 m2 m2 (some L2) (some L2) y' ∧ y'.heap[P]? = y.heap[P]? ∧ Kp y (Us F' pw G q H1 H2) y' (Us F' pw (Ext G y y') q H1 H2)) := fun y F' hy ho =>
    hy.rfill HP.out HL.out (by omega) sl lb gn HK6.out ho (fun b off h0 e => by injection e with e; injection e with e; subst e; exact ⟨fun hb => GN.out (.inl (.inr (.inl hb))), fun hb => GN.out (.inl (.inr (.inr (.inr hb))))⟩) (v0, L2, m2) HR.out
  have OK2 : Hid (∀ (y : World) (Z : Nat → Prop), Kp' w2 P (Us F pw G q H1 H2) y Z → Oct y (some ⟨gx, 0, none⟩) fk xs) := fun y Z k => OC.out.heap fun b off h0 e => by
    injection e with e
    injection e with e
    subst e
    exact (k.at_ _ GX.out GN.out).1
  go_wp2_with fail
  go_region_held (fun x => x.cell? ⟨P, 28, none⟩ = some (.pointer T) ∧ x.cell? ⟨P, 31, none⟩ = some (.pointer U) ∧ x.cell? ⟨w.heap.size, 1, none⟩ = some (.int .i64 sl) ∧ x.cell? ⟨w.heap.size, 2, none⟩ = some (.int .i64 lb) ∧ x.cell? ⟨w.heap.size, 3, none⟩ = some (.int .u64 (gn : Int))) (first | go_keep | exact ⟨(phead_all PH4.out).2.2.1, (phead_all PH4.out).2.2.2.2.2.1, BX4.out.cells 1 _ rfl, BX4.out.cells 2 _ rfl, BX4.out.cells 3 _ rfl⟩ | exact ⟨(phead_all PH3.out).2.2.1, (phead_all PH3.out).2.2.2.2.2.1, BX3.out.cells 1 _ rfl, BX3.out.cells 2 _ rfl, BX3.out.cells 3 _ rfl⟩)
    (first
      | (go_at_call 12; (with_reducible refine (KB.out _ (bdrew _)).mono ?_); rintro e w3 ⟨rfl, p3, h3, k3⟩; have PR3 := Lib.hid p3; have PH3 := Lib.hid ((PH2.out.below (bdrew _)).of h3); have KK := Lib.hid ((Kp'.of_below (bdrew w2) P (Us F pw G q H1 H2)).trans (k3.but P)); have K3 := Lib.hid (K2.out.trans KK.out); have BX3 := Lib.hid (BX2.out.kp KK.out); have O3 := Lib.hid (OK2.out _ _ KK.out); clear p3 h3 k3)
      | (go_at_call 38; (with_reducible refine (KC.out _ _ PR3.out O3.out).mono ?_); rintro e w4 ⟨rfl, p4, h4, k4⟩; have PR4 := Lib.hid p4; have PH4 := Lib.hid (PH3.out.of h4); have K4 := Lib.hid (K3.out.trans (k4.but P)); have BX4 := Lib.hid (BX3.out.kp (k4.but P)); clear p4 h4 k4))
  all_goals go_wp2
  all_goals (go_ret; exact ⟨by simp, .of PR4.out PH4.out K4.out (by omega) hN HQ.out.1 HQ.out.2⟩)
end
end Go.Proofs.YtapklelkcicjlaaGreatDoor.Pd.Sl

/-! A call on a pair: Heal. No conditions. -/
namespace Go.Proofs.YtapklelkcicjlaaGreatDoor.Pd.Sl
set_option maxRecDepth 100000
open Go.RowKit Oc Dm W Dw Sr Gt W.Hd
set_option linter.unusedVariables false
set_option maxRecDepth 100000
attribute [local go_sem ↓] Go.wp_at_zero Go.wp_at_succ
section
variable {w0 w : World} {P n N pw D q E la ns B : Nat} {p : Pn.Pl} {T U : Option Addr} {F G H1 H2 : Nat → Prop} {m : Vs} {L : List Slt}
set_option maxHeartbeats 8000000 in
theorem do4 (h : Pr w0 P p n N pw D q E T U F G H1 H2 m m (some L) (some L) w) (hh : PHead w P p pw D q E T U) (he : EnvH w0) (hp : Pln p la ns n) (hL : L.length = ns) (hs : small L B) (hB : B + 1 ≤ 900000) (hN : N + 12 ≤ 1000000) (sl lb : Int) (gn : Nat) (fi : UInt8) (sz z bit : Int) (tn u v : Nat) (fa : Option Addr) (fl fc : Nat) (fs : List Int) (x : Hd) :
    Calls Tryz.prog 8 #[.pointer (some ⟨P, 0, none⟩), .agg #[.int .i64 4, .int .i64 sl, .int .i64 lb, .int .u64 (gn : Int), .int .u8 (fi.toNat : Int), .int .i64 sz, .int .i64 z, .int .i64 bit, .int .u32 (tn : Int), .int .u64 (u : Int), .int .u64 (v : Int), .slice fa fl fc, .bool x.u, .int .i64 x.l, .int .u64 (x.g : Int), .int .u32 (x.s.toNat : Int), .int .u32 (x.r.toNat : Int)]] w fun e w' => e = .returned (.bool true) ∧ Done w0 P p n (N + 12) (B + 1) ns w (Us F pw G q H1 H2) w' := by
  have H := Lib.hid h
  have HH := Lib.hid hh
  have HE := Lib.hid he
  have HP := Lib.hid hp
  have HL := Lib.hid hL
  have HS := Lib.hid hs
  have HQ : Hid ((Sl.heal L).length = ns ∧ small (Sl.heal L) (B + 1)) := ⟨heal_small.2.trans hL, heal_small.1.more (Nat.zero_le _)⟩
  clear h hh he hp hL hs
  go_enter Tryz.func8, Tryz.ntmps8
  go_wp2_with ((with_reducible refine L_boxAct (cs := #[.int .i64 4, .int .i64 sl, .int .i64 lb, .int .u64 (gn : Int), .int .u8 (fi.toNat : Int), .int .i64 sz, .int .i64 z, .int .i64 bit, .int .u32 (tn : Int), .int .u64 (u : Int), .int .u64 (v : Int), .slice fa fl fc, .bool x.u, .int .i64 x.l, .int .u64 (x.g : Int), .int .u32 (x.s.toNat : Int), .int .u32 (x.r.toNat : Int)]) ?_ ?_); exact rfl; intro w1 b1 bx1; have B1 := Lib.hid b1; have PR1 := Lib.hid (H.out.below b1); have PH1 := Lib.hid (HH.out.below b1); have K1 := Lib.hid (Kp'.of_below b1 P (Us F pw G q H1 H2)); have BX1 := Lib.hid (bx1 P (Us F pw G q H1 H2) H.out.uP); have a0 := BX1.out.cells 0 _ rfl; obtain ⟨c26, c27, c28, c29, c30, c31, cf⟩ := phead_all PH1.out; clear b1 bx1)
  have KB : Hid (∀ y, Below w1.heap.size w1 y → Calls Tryz.prog 35 #[.pointer T] y fun e y' => e = .returned (.int .i64 (bads L : Int)) ∧ Pr w0 P p n N pw D q E T U (Ext F y y') G H1 H2 m m (some (Sl.heal L)) (some L) y' ∧ y'.heap[P]? = y.heap[P]? ∧ Kp y (Us F pw G q H1 H2) y' (Us (Ext F y y') pw G q H1 H2)) := fun y hy =>
    (PR1.out.below hy).heal
  go_region_held (fun x => x.cell? ⟨P, 28, none⟩ = some (.pointer T) ∧ x.cell? ⟨P, 31, none⟩ = some (.pointer U)) (first | go_keep | exact ⟨(phead_all PH3.out).2.2.1, (phead_all PH3.out).2.2.2.2.2.1⟩ | exact ⟨(phead_all PH2.out).2.2.1, (phead_all PH2.out).2.2.2.2.2.1⟩)
    (first
      | (go_at_call 35; (with_reducible refine (KB.out _ (bdrew _)).mono ?_); rintro e w2 ⟨rfl, p2, h2, k2⟩; have PR2 := Lib.hid p2; have PH2 := Lib.hid ((PH1.out.below (bdrew _)).of h2); have K2 := Lib.hid ((K1.out.trans (Kp'.of_below (bdrew _) P _)).trans (k2.but P)); have BX2 := Lib.hid (BX1.out.kp ((Kp'.of_below (bdrew _) P _).trans (k2.but P))); clear p2 h2 k2)
      | (go_at_call 44; (with_reducible refine (PR2.out.rheal HP.out).mono ?_); rintro e w3 ⟨rfl, p3, h3, k3⟩; have PR3 := Lib.hid p3; have PH3 := Lib.hid (PH2.out.of h3); have K3 := Lib.hid (K2.out.trans (k3.but P)); have BX3 := Lib.hid (BX2.out.kp (k3.but P)); clear p3 h3 k3))
  all_goals go_wp2
  all_goals (go_ret; exact ⟨by simp, .of PR3.out PH3.out K3.out (by omega) hN HQ.out.1 HQ.out.2⟩)
end
end Go.Proofs.YtapklelkcicjlaaGreatDoor.Pd.Sl

/-! A call on a pair: a crash, and Open. No conditions. -/
namespace Go.Proofs.YtapklelkcicjlaaGreatDoor.Pd.Sl
set_option maxRecDepth 100000
open Go.RowKit Oc Dm W Dw Sr Gt W.Hd
set_option linter.unusedVariables false
set_option maxRecDepth 100000
attribute [local go_sem ↓] Go.wp_at_zero Go.wp_at_succ
section
variable {w0 w : World} {P n N pw D q E la ns B : Nat} {p : Pn.Pl} {T U : Option Addr} {F G H1 H2 : Nat → Prop} {m : Vs} {L : List Slt}
set_option maxHeartbeats 8000000 in
theorem do8 (h : Pr w0 P p n N pw D q E T U F G H1 H2 m m (some L) (some L) w) (hh : PHead w P p pw D q E T U) (he : EnvH w0) (hp : Pln p la ns n) (hL : L.length = ns) (hs : small L B) (hB : B + 1 ≤ 900000) (hN : N + 12 ≤ 1000000) (sl lb : Int) (gn : Nat) (fi : UInt8) (sz z bit : Int) (tn u v : Nat) (fa : Option Addr) (fl fc : Nat) (fs : List Int) (x : Hd) (hf : Fi w0 fa fl fs) (hfl : fl ≤ maxLen) :
    Calls Tryz.prog 8 #[.pointer (some ⟨P, 0, none⟩), .agg #[.int .i64 8, .int .i64 sl, .int .i64 lb, .int .u64 (gn : Int), .int .u8 (fi.toNat : Int), .int .i64 sz, .int .i64 z, .int .i64 bit, .int .u32 (tn : Int), .int .u64 (u : Int), .int .u64 (v : Int), .slice fa fl fc, .bool x.u, .int .i64 x.l, .int .u64 (x.g : Int), .int .u32 (x.s.toNat : Int), .int .u32 (x.r.toNat : Int)]] w fun e w' => e = .returned (.bool true) ∧ Done w0 P p n (N + 12) (B + 1) ns w (Us F pw G q H1 H2) w' := by
  have H := Lib.hid h
  have HH := Lib.hid hh
  have HE := Lib.hid he
  have HP := Lib.hid hp
  have HL := Lib.hid hL
  have HS := Lib.hid hs
  have HF := Lib.hid hf
  obtain ⟨L2, m2, hr⟩ : ∃ L2 m2, opn la ns 0 (crashed n m.S fs) = (L2, m2) := ⟨_, _, rfl⟩
  have HR := Lib.hid hr
  have HQ : Hid (L2.length = ns ∧ small L2 (B + 1)) := by
    have := opn_len2 la ns 0 (crashed n m.S fs)
    rw [hr] at this
    exact ⟨this.1, this.2.more (Nat.zero_le _)⟩
  clear hr hf
  clear h hh he hp hL hs
  go_enter Tryz.func8, Tryz.ntmps8
  go_wp2_with ((with_reducible refine L_boxAct (cs := #[.int .i64 8, .int .i64 sl, .int .i64 lb, .int .u64 (gn : Int), .int .u8 (fi.toNat : Int), .int .i64 sz, .int .i64 z, .int .i64 bit, .int .u32 (tn : Int), .int .u64 (u : Int), .int .u64 (v : Int), .slice fa fl fc, .bool x.u, .int .i64 x.l, .int .u64 (x.g : Int), .int .u32 (x.s.toNat : Int), .int .u32 (x.r.toNat : Int)]) ?_ ?_); exact rfl; intro w1 b1 bx1; have B1 := Lib.hid b1; have PR1 := Lib.hid (H.out.below b1); have PH1 := Lib.hid (HH.out.below b1); have K1 := Lib.hid (Kp'.of_below b1 P (Us F pw G q H1 H2)); have BX1 := Lib.hid (bx1 P (Us F pw G q H1 H2) H.out.uP); have a0 := BX1.out.cells 0 _ rfl; have a11 := BX1.out.cells 11 _ rfl; obtain ⟨c26, c27, c28, c29, c30, c31, cf⟩ := phead_all PH1.out; clear b1 bx1)
  refine (pair_crash PR1.out PH1.out (HF.out.below PR1.out.bel) hfl).mono ?_; rintro e w2 ⟨rfl, pw2, D2, q2, E2, F2, G2, p2, h2, k2, _⟩
  have PR2 := Lib.hid p2
  have PH2 := Lib.hid h2
  have K2 := Lib.hid (K1.out.trans k2)
  clear p2 h2 k2 a0 a11 c26 c27 c28 c29 c30 c31 cf
  go_wp2_with fail
  refine (pair_open_yes PR2.out PH2.out HE.out HP.out rfl (L2, m2) HR.out).mono ?_; rintro e w3 ⟨rfl, T3, U3, H3, H3', p3, h3, k3⟩
  have PR3 := Lib.hid p3
  have PH3 := Lib.hid h3
  have K3 := Lib.hid (K2.out.trans k3)
  clear p3 h3 k3
  go_wp2
  go_ret
  exact ⟨rfl, .of PR3.out PH3.out K3.out (by omega) hN HQ.out.1 HQ.out.2⟩
end
end Go.Proofs.YtapklelkcicjlaaGreatDoor.Pd.Sl

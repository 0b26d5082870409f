/-
  Elder texts, one behind the other: SlDo2, SlDo6, SlDoX. No conditions.
-/
import Derived.Test.YtapklelkcicjlaaGreatDoorKSr
import Derived.BigQuiet
import Derived.Deep.RegionHeld
import Derived.Deep.DrawnRows
/-! A call on a pair: Free. No conditions. -/
namespace Go.Proofs.YtapklelkcicjlaaGreatDoor.Pd.Sl
set_option maxRecDepth 100000
open Go.RowKit Oc Dm W Dw Sr Gt W.Hd
set_option linter.unusedVariables false
set_option maxRecDepth 100000
attribute [local go_sem ↓] Go.wp_at_zero Go.wp_at_succ
section
variable {w0 w : World} {P n N pw D q E la ns B : Nat} {p : Pn.Pl} {T U : Option Addr} {F G H1 H2 : Nat → Prop} {m : Vs} {L : List Slt}
set_option maxHeartbeats 8000000 in
theorem do2 (h : Pr w0 P p n N pw D q E T U F G H1 H2 m m (some L) (some L) w) (hh : PHead w P p pw D q E T U) (he : EnvH w0) (hp : Pln p la ns n) (hL : L.length = ns) (hs : small L B) (hB : B + 1 ≤ 900000) (hN : N + 12 ≤ 1000000) (sl lb : Int) (gn : Nat) (fi : UInt8) (sz z bit : Int) (tn u v : Nat) (fa : Option Addr) (fl fc : Nat) (fs : List Int) (x : Hd) :
    Calls Tryz.prog 8 #[.pointer (some ⟨P, 0, none⟩), .agg #[.int .i64 2, .int .i64 sl, .int .i64 lb, .int .u64 (gn : Int), .int .u8 (fi.toNat : Int), .int .i64 sz, .int .i64 z, .int .i64 bit, .int .u32 (tn : Int), .int .u64 (u : Int), .int .u64 (v : Int), .slice fa fl fc, .bool x.u, .int .i64 x.l, .int .u64 (x.g : Int), .int .u32 (x.s.toNat : Int), .int .u32 (x.r.toNat : Int)]] w fun e w' => e = .returned (.bool true) ∧ Done w0 P p n (N + 12) (B + 1) ns w (Us F pw G q H1 H2) w' := by
  have H := Lib.hid h
  have HH := Lib.hid hh
  have HE := Lib.hid he
  have HP := Lib.hid hp
  have HL := Lib.hid hL
  have HS := Lib.hid hs
  have HS2 : Hid (small L (B + 1)) := hs.more (Nat.le_succ _)
  obtain ⟨v0, m2, hr⟩ : ∃ v0 m2, Sl.free la sl L m = (v0, m2) := ⟨_, _, rfl⟩
  have HR := Lib.hid hr
  clear hr
  clear h hh he hp hL hs
  go_enter Tryz.func8, Tryz.ntmps8
  go_wp2_with ((with_reducible refine L_boxAct (cs := #[.int .i64 2, .int .i64 sl, .int .i64 lb, .int .u64 (gn : Int), .int .u8 (fi.toNat : Int), .int .i64 sz, .int .i64 z, .int .i64 bit, .int .u32 (tn : Int), .int .u64 (u : Int), .int .u64 (v : Int), .slice fa fl fc, .bool x.u, .int .i64 x.l, .int .u64 (x.g : Int), .int .u32 (x.s.toNat : Int), .int .u32 (x.r.toNat : Int)]) ?_ ?_); exact rfl; intro w1 b1 bx1; have B1 := Lib.hid b1; have PR1 := Lib.hid (H.out.below b1); have PH1 := Lib.hid (HH.out.below b1); have K1 := Lib.hid (Kp'.of_below b1 P (Us F pw G q H1 H2)); have BX1 := Lib.hid (bx1 P (Us F pw G q H1 H2) H.out.uP); have a0 := BX1.out.cells 0 _ rfl; have a1 := BX1.out.cells 1 _ rfl; obtain ⟨c26, c27, c28, c29, c30, c31, cf⟩ := phead_all PH1.out; clear b1 bx1)
  have KB : Hid (∀ y, Below w1.heap.size w1 y → Calls Tryz.prog 32 #[.pointer T, .int .i64 sl] y fun e y' => e = .returned (.int .i64 v0) ∧ Pr w0 P p n (N + 2) pw D q E T U (Ext F y y') G H1 H2 m2 m (some L) (some L) y' ∧ y'.heap[P]? = y.heap[P]? ∧ Kp y (Us F pw G q H1 H2) y' (Us (Ext F y y') pw G q H1 H2)) := fun y hy =>
    (PR1.out.below hy).free HE.out HP.out HL.out (by omega) sl (v0, m2) HR.out
  go_region_held (fun x => x.cell? ⟨P, 28, none⟩ = some (.pointer T) ∧ x.cell? ⟨P, 31, none⟩ = some (.pointer U) ∧ x.cell? ⟨w.heap.size, 1, none⟩ = some (.int .i64 sl)) (first | go_keep | exact ⟨(phead_all PH3.out).2.2.1, (phead_all PH3.out).2.2.2.2.2.1, BX3.out.cells 1 _ rfl⟩ | exact ⟨(phead_all PH2.out).2.2.1, (phead_all PH2.out).2.2.2.2.2.1, BX2.out.cells 1 _ rfl⟩)
    (first
      | (go_at_call 32; (with_reducible refine (KB.out _ (bdrew _)).mono ?_); rintro e w2 ⟨rfl, p2, h2, k2⟩; have PR2 := Lib.hid p2; have PH2 := Lib.hid ((PH1.out.below (bdrew _)).of h2); have K2 := Lib.hid ((K1.out.trans (Kp'.of_below (bdrew _) P _)).trans (k2.but P)); have BX2 := Lib.hid (BX1.out.kp ((Kp'.of_below (bdrew _) P _).trans (k2.but P))); clear p2 h2 k2)
      | (go_at_call 42; (with_reducible refine (PR2.out.rfree HP.out HL.out (by omega) sl (v0, m2) HR.out).mono ?_); rintro e w3 ⟨rfl, p3, h3, k3⟩; have PR3 := Lib.hid p3; have PH3 := Lib.hid (PH2.out.of h3); have K3 := Lib.hid (K2.out.trans (k3.but P)); have BX3 := Lib.hid (BX2.out.kp (k3.but P)); clear p3 h3 k3))
  all_goals go_wp2
  all_goals (go_ret; exact ⟨by simp, .of PR3.out PH3.out K3.out (by omega) hN HL.out HS2.out⟩)
end
end Go.Proofs.YtapklelkcicjlaaGreatDoor.Pd.Sl

/-! A call on a pair: Fail. No conditions. -/
namespace Go.Proofs.YtapklelkcicjlaaGreatDoor.Pd.Sl
set_option maxRecDepth 100000
open Go.RowKit Oc Dm W Dw Sr Gt W.Hd
set_option linter.unusedVariables false
set_option maxRecDepth 100000
attribute [local go_sem ↓] Go.wp_at_zero Go.wp_at_succ
section
variable {w0 w : World} {P n N pw D q E la ns B : Nat} {p : Pn.Pl} {T U : Option Addr} {F G H1 H2 : Nat → Prop} {m : Vs} {L : List Slt}
set_option maxHeartbeats 8000000 in
theorem do6 (h : Pr w0 P p n N pw D q E T U F G H1 H2 m m (some L) (some L) w) (hh : PHead w P p pw D q E T U) (he : EnvH w0) (hp : Pln p la ns n) (hL : L.length = ns) (hs : small L B) (hB : B + 1 ≤ 900000) (hN : N + 12 ≤ 1000000) (sl lb : Int) (gn : Nat) (fi : UInt8) (sz z bit : Int) (tn u v : Nat) (fa : Option Addr) (fl fc : Nat) (fs : List Int) (x : Hd) (hu : u < 18446744073709551616) (hv : v < 18446744073709551616) :
    Calls Tryz.prog 8 #[.pointer (some ⟨P, 0, none⟩), .agg #[.int .i64 6, .int .i64 sl, .int .i64 lb, .int .u64 (gn : Int), .int .u8 (fi.toNat : Int), .int .i64 sz, .int .i64 z, .int .i64 bit, .int .u32 (tn : Int), .int .u64 (u : Int), .int .u64 (v : Int), .slice fa fl fc, .bool x.u, .int .i64 x.l, .int .u64 (x.g : Int), .int .u32 (x.s.toNat : Int), .int .u32 (x.r.toNat : Int)]] w fun e w' => e = .returned (.bool true) ∧ Done w0 P p n (N + 12) (B + 1) ns w (Us F pw G q H1 H2) w' := by
  have H := Lib.hid h
  have HH := Lib.hid hh
  have HE := Lib.hid he
  have HP := Lib.hid hp
  have HL := Lib.hid hL
  have HS := Lib.hid hs
  have HS2 : Hid (small L (B + 1)) := hs.more (Nat.le_succ _)
  clear h hh he hp hL hs
  go_enter Tryz.func8, Tryz.ntmps8
  go_wp2_with ((with_reducible refine L_boxAct (cs := #[.int .i64 6, .int .i64 sl, .int .i64 lb, .int .u64 (gn : Int), .int .u8 (fi.toNat : Int), .int .i64 sz, .int .i64 z, .int .i64 bit, .int .u32 (tn : Int), .int .u64 (u : Int), .int .u64 (v : Int), .slice fa fl fc, .bool x.u, .int .i64 x.l, .int .u64 (x.g : Int), .int .u32 (x.s.toNat : Int), .int .u32 (x.r.toNat : Int)]) ?_ ?_); exact rfl; intro w1 b1 bx1; have B1 := Lib.hid b1; have PR1 := Lib.hid (H.out.below b1); have PH1 := Lib.hid (HH.out.below b1); have K1 := Lib.hid (Kp'.of_below b1 P (Us F pw G q H1 H2)); have BX1 := Lib.hid (bx1 P (Us F pw G q H1 H2) H.out.uP); have a0 := BX1.out.cells 0 _ rfl; have a9 := BX1.out.cells 9 _ rfl; have a10 := BX1.out.cells 10 _ rfl; obtain ⟨c26, c27, c28, c29, c30, c31, cf⟩ := phead_all PH1.out; clear b1 bx1)
  have KB : Hid (∀ y, Below w1.heap.size w1 y → Calls Tryz.prog 46 #[.pointer (some ⟨D, 0, none⟩), .int .u64 (u : Int), .int .u64 (v : Int)] y fun e y' => e = .returned (.tuple #[]) ∧ Pr w0 P p n N pw D q E T U (Ext F y y') G H1 H2 { m with rd := u, wr := v } m (some L) (some L) y' ∧ y'.heap[P]? = y.heap[P]? ∧ Kp y (Us F pw G q H1 H2) y' (Us (Ext F y y') pw G q H1 H2)) := fun y hy =>
    (PR1.out.below hy).fail u v hu hv
  go_region_held (fun x => x.cell? ⟨P, 27, none⟩ = some (.pointer (some ⟨D, 0, none⟩)) ∧ x.cell? ⟨w.heap.size, 9, none⟩ = some (.int .u64 (u : Int)) ∧ x.cell? ⟨w.heap.size, 10, none⟩ = some (.int .u64 (v : Int))) (first | go_keep | exact ⟨(phead_all PH2.out).2.1, BX2.out.cells 9 _ rfl, BX2.out.cells 10 _ rfl⟩)
    (first
      | (go_at_call 46; (with_reducible refine (KB.out _ (bdrew _)).mono ?_); rintro e w2 ⟨rfl, p2, h2, k2⟩; have PR2 := Lib.hid p2; have PH2 := Lib.hid ((PH1.out.below (bdrew _)).of h2); have K2 := Lib.hid ((K1.out.trans (Kp'.of_below (bdrew _) P _)).trans (k2.but P)); have BX2 := Lib.hid (BX1.out.kp ((Kp'.of_below (bdrew _) P _).trans (k2.but P))); clear p2 h2 k2))
  all_goals
    clear a0 a9 a10 c26 c27 c28 c29 c30 c31 cf KB
    have a9 := BX2.out.cells 9 _ rfl
    have a10 := BX2.out.cells 10 _ rfl
    obtain ⟨c26, c27, c28, c29, c30, c31, cf⟩ := phead_all PH2.out
    obtain ⟨gs, vs, rv⟩ := PR2.out.rd.rv
    obtain ⟨e0, e1, e2, e3, ef⟩ := rv.cells
    have hne : w.heap.size ≠ E := fun e => BX2.out.off (.inl (.inr (.inl (.inl (e ▸ rv.inG.1)))))
    have hne2 : E ≠ w.heap.size := fun e => hne e.symm
    have hne3 : P ≠ E := fun e => PR2.out.us (.inr (.inl (.inl (e ▸ rv.inG.1))))
    have hne4 : E ≠ P := fun e => hne3 e.symm
    clear rv
    go_wp2_with fail
    go_region
    obtain ⟨G3, p3, h3, k3⟩ := PR2.out.rset2 u hu
    have PR3 := Lib.hid (p3.below (bdrew _))
    have PH3 := Lib.hid ((PH2.out.of h3).below (bdrew _))
    have K3 := Lib.hid (K2.out.trans ((k3.but P).trans (Kp'.of_below (bdrew _) P _)))
    have BX3 := Lib.hid (BX2.out.kp ((k3.but P).trans (Kp'.of_below (bdrew _) P _)))
    clear p3 h3 k3 a9 a10 c26 c27 c28 c29 c30 c31 cf e0 e1 e2 e3 ef
    generalize (w2.setCell ⟨E, 2, none⟩ (.int .u64 (u : Int))).drew = w3 at PR3 PH3 K3 BX3 ⊢
    have a10 := BX3.out.cells 10 _ rfl
    obtain ⟨c26, c27, c28, c29, c30, c31, cf⟩ := phead_all PH3.out
    obtain ⟨gs, vs, rv⟩ := PR3.out.rd.rv
    obtain ⟨e0, e1, e2, e3, ef⟩ := rv.cells
    clear rv
    go_wp2_with fail
    go_region
    obtain ⟨G4, p4, h4, k4⟩ := PR3.out.rset3 v hv
    have PR4 := Lib.hid (p4.below (bdrew _))
    have PH4 := Lib.hid ((PH3.out.of h4).below (bdrew _))
    have K4 := Lib.hid (K3.out.trans ((k4.but P).trans (Kp'.of_below (bdrew _) P _)))
    clear p4 h4 k4 a10 c26 c27 c28 c29 c30 c31 cf e0 e1 e2 e3 ef
    generalize (w3.setCell ⟨E, 3, none⟩ (.int .u64 (v : Int))).drew = w4 at PR4 PH4 K4 ⊢
    go_wp2
    go_ret
    exact ⟨rfl, .of PR4.out PH4.out K4.out (by omega) hN HL.out HS2.out⟩
end
end Go.Proofs.YtapklelkcicjlaaGreatDoor.Pd.Sl

/-! A call on a pair: a head written by hand. No conditions. -/
namespace Go.Proofs.YtapklelkcicjlaaGreatDoor.Pd.Sl
set_option maxRecDepth 100000
open Go.RowKit Oc Dm W Dw Sr Gt W.Hd
set_option linter.unusedVariables false
set_option maxRecDepth 100000
attribute [local go_sem ↓] Go.wp_at_zero Go.wp_at_succ
section
variable {w0 w : World} {P n N pw D q E la ns B : Nat} {p : Pn.Pl} {T U : Option Addr} {F G H1 H2 : Nat → Prop} {m : Vs} {L : List Slt}
set_option maxHeartbeats 8000000 in
theorem doxy (h : Pr w0 P p n N pw D q E T U F G H1 H2 m m (some L) (some L) w) (hh : PHead w P p pw D q E T U) (he : EnvH w0) (hp : Pln p la ns n) (hL : L.length = ns) (hs : small L B) (hB : B + 1 ≤ 900000) (hN : N + 12 ≤ 1000000) (sl lb : Int) (gn : Nat) (fi : UInt8) (sz z bit : Int) (tn u v : Nat) (fa : Option Addr) (fl fc : Nat) (fs : List Int) (x : Hd) (hz : i64r z) (hm : MayBe x) :
    Calls Tryz.prog 8 #[.pointer (some ⟨P, 0, none⟩), .agg #[.int .i64 10, .int .i64 sl, .int .i64 lb, .int .u64 (gn : Int), .int .u8 (fi.toNat : Int), .int .i64 sz, .int .i64 z, .int .i64 bit, .int .u32 (tn : Int), .int .u64 (u : Int), .int .u64 (v : Int), .slice fa fl fc, .bool x.u, .int .i64 x.l, .int .u64 (x.g : Int), .int .u32 (x.s.toNat : Int), .int .u32 (x.r.toNat : Int)]] w fun e w' => e = .returned (.bool true) ∧ Done w0 P p n (N + 12) (B + 1) ns w (Us F pw G q H1 H2) w' := by
  have H := Lib.hid h
  have HH := Lib.hid hh
  have HE := Lib.hid he
  have HP := Lib.hid hp
  have HL := Lib.hid hL
  have HS := Lib.hid hs
  have HS2 : Hid (small L (B + 1)) := hs.more (Nat.le_succ _)
  have HM := Lib.hid hm
  have HPB : Hid (∀ b, Us F pw G q H1 H2 b ∨ b = P → b < w.heap.size) := h.uP
  obtain ⟨xs, hxs⟩ : ∃ xs, sect x = xs := ⟨_, rfl⟩
  have HXS := Lib.hid hxs
  have HSL : Hid (xs.length = 64) := by show _ = _; rw [← hxs]; exact sect_length x
  obtain ⟨BB, hBB⟩ : ∃ B, tx xs = .string B := ⟨_, rfl⟩
  have HB := Lib.hid hBB
  have hz1 : -2 < z.tmod 2 ∧ z.tmod 2 < 2 := ⟨Int.lt_tmod_of_pos z (by decide), Int.tmod_lt_of_pos z (by decide)⟩
  have hz0 : 0 ≤ z → 0 ≤ z.tmod 2 := fun h => Int.tmod_nonneg 2 h
  have hz2 : z ≤ 0 → z.tmod 2 ≤ 0 := fun h => by have := Int.tmod_nonneg (a := -z) 2 (by omega); rw [Int.neg_tmod] at this; omega
  obtain ⟨r, hr'⟩ : ∃ r, z.tmod 2 = r := ⟨_, rfl⟩
  rw [hr'] at hz1 hz0 hz2
  obtain ⟨s, hs'⟩ : ∃ s, atF la ns (z - r) = s := ⟨_, rfl⟩
  have HSS := Lib.hid hs'
  have HZR : Hid (-9223372036854775808 ≤ z - r ∧ z - r ≤ 9223372036854775807) := by
    obtain ⟨q1, q2⟩ := hz
    rcases Int.lt_or_le z 0 with h0 | h0
    · have := hz2 (by omega); exact ⟨by omega, by omega⟩
    · have := hz0 h0; exact ⟨by omega, by omega⟩
  obtain ⟨ev, m2, hr⟩ : ∃ ev m2, wrz n m s xs = (ev, m2) := ⟨_, _, rfl⟩
  have HR := Lib.hid hr
  have HRR := Lib.hid hr'
  clear hm hxs hBB hs' hr hz0 hz1 hz2 hr' hz
  clear h hh he hp hL hs
  go_enter Tryz.func8, Tryz.ntmps8
  go_wp2_with ((with_reducible refine L_boxAct (cs := #[.int .i64 10, .int .i64 sl, .int .i64 lb, .int .u64 (gn : Int), .int .u8 (fi.toNat : Int), .int .i64 sz, .int .i64 z, .int .i64 bit, .int .u32 (tn : Int), .int .u64 (u : Int), .int .u64 (v : Int), .slice fa fl fc, .bool x.u, .int .i64 x.l, .int .u64 (x.g : Int), .int .u32 (x.s.toNat : Int), .int .u32 (x.r.toNat : Int)]) ?_ ?_); exact rfl; intro w1 b1 bx1; have B1 := Lib.hid b1; have PR1 := Lib.hid (H.out.below b1); have PH1 := Lib.hid (HH.out.below b1); have K1 := Lib.hid (Kp'.of_below b1 P (Us F pw G q H1 H2)); have BX1 := Lib.hid (bx1 P (Us F pw G q H1 H2) H.out.uP); have a0 := BX1.out.cells 0 _ rfl; have a6 := BX1.out.cells 6 _ rfl; have a12 := BX1.out.cells 12 _ rfl; have a13 := BX1.out.cells 13 _ rfl; have a14 := BX1.out.cells 14 _ rfl; have a15 := BX1.out.cells 15 _ rfl; have a16 := BX1.out.cells 16 _ rfl; obtain ⟨c26, c27, c28, c29, c30, c31, cf⟩ := phead_all PH1.out; clear b1 bx1)
  refine (rhput_ok x w1 HM.out).mono ?_; rintro e w2 ⟨v2, rfl, o2, b2⟩
  rw [HXS.out] at o2
  obtain ⟨gx, gc, rfl, hg1, hg2, oc2⟩ := own_oct o2 HSL.out
  have PR2 := Lib.hid (PR1.out.below b2)
  have PH2 := Lib.hid (PH1.out.below b2)
  have K2 := Lib.hid (K1.out.trans (Kp'.of_below b2 P _))
  have BX2 := Lib.hid (BX1.out.kp (Kp'.of_below b2 P _))
  have OC := Lib.hid oc2
  have GX : Hid (w1.heap.size ≤ gx ∧ gx < w2.heap.size) := ⟨hg1, hg2⟩
  have S1 := B1.out.size
  have S2 := b2.size
  clear a0 a6 a12 a13 a14 a15 a16 c26 c27 c28 c29 c30 c31 cf o2 oc2 hg1 hg2 b2
  have a6 := BX2.out.cells 6 _ rfl
  have GN : Hid (¬ (Us F pw G q H1 H2 gx ∨ gx = P)) := fun y => by have := HPB.out gx y; have := GX.out.1; omega
  have KA : Hid (Calls Tryz.prog 23 #[.pointer (some ⟨P, 0, none⟩), .int .i64 (z - r)] w2 fun e y' => e = .returned (.int .i64 s) ∧ Below w2.heap.size w2 y') := by
    have := at_any PH2.out HP.out (z - r)
    rwa [HSS.out] at this
  have hrr := HRR.out
  obtain ⟨q1, q2⟩ := HZR.out
  have hwz : IntKind.i64.wrap (z - r) = z - r := IntWalk.i64_in _ ⟨by omega, by omega⟩
  go_wp2_with fail
  refine KA.out.mono ?_; rintro e w3 ⟨rfl, b3⟩
  have PR3 := Lib.hid (PR2.out.below b3)
  have PH3 := Lib.hid (PH2.out.below b3)
  have K3 := Lib.hid (K2.out.trans (Kp'.of_below b3 P _))
  have OC3 := Lib.hid (OC.out.below b3)
  have GX3 : Hid (gx < w3.heap.size) := Nat.lt_of_lt_of_le GX.out.2 b3.size
  clear a6 b3 hrr hwz
  obtain ⟨c26, c27, c28, c29, c30, c31, cf⟩ := phead_all PH3.out
  have OK2 : Hid (∀ (y : World) (Z : Nat → Prop), Kp' w3 P (Us F pw G q H1 H2) y Z → Oct y (some ⟨gx, 0, none⟩) 64 xs) := fun y Z k => OC3.out.heap fun b off h0 e => by
    injection e with e
    injection e with e
    subst e
    exact (k.at_ _ GX3.out GN.out).1
  have cv : Hid (∀ y, Oct y (some ⟨gx, 0, none⟩) 64 xs → (convert 57 9 (.slice (some ⟨gx, 0, none⟩) 64 gc)).run Tryz.prog y = .ok (.string BB) y) := fun y hy => by
    have := hy.conv Dm.bt Tryz.underlying9 gc
    rwa [show Value.string (bstr xs) = .string BB from HB.out] at this
  have KB : Hid (∀ y, Below w3.heap.size w3 y → Calls Tryz.prog 51 #[.pointer (some ⟨D, 0, none⟩), .int .i64 s, .slice (some ⟨gx, 0, none⟩) 64 gc] y fun e y' => e = .returned (.int .i64 ev) ∧ Pr w0 P p n (N + 1) pw D q E T U (Ext F y y') G H1 H2 m2 m (some L) (some L) y' ∧ y'.heap[P]? = y.heap[P]? ∧ Kp y (Us F pw G q H1 H2) y' (Us (Ext F y y') pw G q H1 H2)) := fun y hy => by
    have := (PR3.out.below hy).write (c := gc) (by omega) s (OC3.out.below hy) (fun b off e hb => by injection e with e; injection e with e; subst e; exact GN.out (.inl (.inl hb)))
    rwa [HR.out] at this
  have KC : Hid (∀ y F' N', N' + 1 ≤ 1000000 → Pr w0 P p n N' pw D q E T U F' G H1 H2 m2 m (some L) (some L) y → Calls Tryz.prog 52 #[.pointer (some ⟨E, 0, none⟩), .int .i64 s, .string BB] y fun e y' => e = .returned (.int .i64 ev) ∧ Pr w0 P p n (N' + 1) pw D q E T U F' (Ext G y y') H1 H2 m2 m2 (some L) (some L) y' ∧ y'.heap[P]? = y.heap[P]? ∧ Kp y (Us F' pw G q H1 H2) y' (Us F' pw (Ext G y y') q H1 H2)) := fun y F' N' hN' hy => by
    have := hy.rwrite hN' s HB.out HSL.out
    rwa [HR.out] at this
  have cv2 := cv.out w3.drew OC3.out.drew
  go_wp2_with fail
  go_region_held (fun x => x.cell? ⟨P, 27, none⟩ = some (.pointer (some ⟨D, 0, none⟩)) ∧ x.cell? ⟨P, 30, none⟩ = some (.pointer (some ⟨E, 0, none⟩))) (first | go_keep | exact ⟨(phead_all PH5.out).2.1, (phead_all PH5.out).2.2.2.2.1⟩ | exact ⟨(phead_all PH4.out).2.1, (phead_all PH4.out).2.2.2.2.1⟩)
    (first
      | (go_at_call 51; (with_reducible refine (KB.out _ (bdrew _)).mono ?_); rintro e w4 ⟨rfl, p4, h4, k4⟩; have PR4 := Lib.hid p4; have PH4 := Lib.hid ((PH3.out.below (bdrew _)).of h4); have KK := Lib.hid ((Kp'.of_below (bdrew w3) P (Us F pw G q H1 H2)).trans (k4.but P)); have K4 := Lib.hid (K3.out.trans KK.out); have O4 := Lib.hid (OK2.out w4 _ KK.out); have cv4 := cv.out w4 O4.out; clear p4 h4 k4)
      | (go_at_call 52; (with_reducible refine (KC.out _ _ _ (by omega) PR4.out).mono ?_); rintro e w5 ⟨rfl, p5, h5, k5⟩; have PR5 := Lib.hid p5; have PH5 := Lib.hid (PH4.out.of h5); have K5 := Lib.hid (K4.out.trans (k5.but P)); clear p5 h5 k5))
  all_goals
    clear cv4 cv2
    go_wp2
  all_goals (go_ret; exact ⟨by simp, .of PR5.out PH5.out K5.out (by omega) hN HL.out HS2.out⟩)
set_option maxHeartbeats 8000000 in
theorem doxn (h : Pr w0 P p n N pw D q E T U F G H1 H2 m m (some L) (some L) w) (hh : PHead w P p pw D q E T U) (he : EnvH w0) (hp : Pln p la ns n) (hL : L.length = ns) (hs : small L B) (hB : B + 1 ≤ 900000) (hN : N + 12 ≤ 1000000) (sl lb : Int) (gn : Nat) (fi : UInt8) (sz z bit : Int) (tn u v : Nat) (fa : Option Addr) (fl fc : Nat) (fs : List Int) (x : Hd) (hm : ¬ MayBe x) :
    Calls Tryz.prog 8 #[.pointer (some ⟨P, 0, none⟩), .agg #[.int .i64 10, .int .i64 sl, .int .i64 lb, .int .u64 (gn : Int), .int .u8 (fi.toNat : Int), .int .i64 sz, .int .i64 z, .int .i64 bit, .int .u32 (tn : Int), .int .u64 (u : Int), .int .u64 (v : Int), .slice fa fl fc, .bool x.u, .int .i64 x.l, .int .u64 (x.g : Int), .int .u32 (x.s.toNat : Int), .int .u32 (x.r.toNat : Int)]] w fun e w' => e = .returned (.bool true) ∧ Done w0 P p n (N + 12) (B + 1) ns w (Us F pw G q H1 H2) w' := by
  have H := Lib.hid h
  have HH := Lib.hid hh
  have HE := Lib.hid he
  have HP := Lib.hid hp
  have HL := Lib.hid hL
  have HS := Lib.hid hs
  have HS2 : Hid (small L (B + 1)) := hs.more (Nat.le_succ _)
  have HM := Lib.hid hm
  clear hm
  clear h hh he hp hL hs
  go_enter Tryz.func8, Tryz.ntmps8
  go_wp2_with ((with_reducible refine L_boxAct (cs := #[.int .i64 10, .int .i64 sl, .int .i64 lb, .int .u64 (gn : Int), .int .u8 (fi.toNat : Int), .int .i64 sz, .int .i64 z, .int .i64 bit, .int .u32 (tn : Int), .int .u64 (u : Int), .int .u64 (v : Int), .slice fa fl fc, .bool x.u, .int .i64 x.l, .int .u64 (x.g : Int), .int .u32 (x.s.toNat : Int), .int .u32 (x.r.toNat : Int)]) ?_ ?_); exact rfl; intro w1 b1 bx1; have B1 := Lib.hid b1; have PR1 := Lib.hid (H.out.below b1); have PH1 := Lib.hid (HH.out.below b1); have K1 := Lib.hid (Kp'.of_below b1 P (Us F pw G q H1 H2)); have BX1 := Lib.hid (bx1 P (Us F pw G q H1 H2) H.out.uP); have a0 := BX1.out.cells 0 _ rfl; have a6 := BX1.out.cells 6 _ rfl; have a12 := BX1.out.cells 12 _ rfl; have a13 := BX1.out.cells 13 _ rfl; have a14 := BX1.out.cells 14 _ rfl; have a15 := BX1.out.cells 15 _ rfl; have a16 := BX1.out.cells 16 _ rfl; obtain ⟨c26, c27, c28, c29, c30, c31, cf⟩ := phead_all PH1.out; clear b1 bx1)
  refine (rhput_no x w1 HM.out).mono ?_; rintro e w2 ⟨rfl, b2⟩
  have PR2 := Lib.hid (PR1.out.below b2)
  have PH2 := Lib.hid (PH1.out.below b2)
  have K2 := Lib.hid (K1.out.trans (Kp'.of_below b2 P _))
  clear a0 a6 a12 a13 a14 a15 a16 c26 c27 c28 c29 c30 c31 cf b2
  go_wp2
  go_ret
  exact ⟨rfl, .of PR2.out PH2.out K2.out (by omega) hN HL.out HS2.out⟩
end
end Go.Proofs.YtapklelkcicjlaaGreatDoor.Pd.Sl

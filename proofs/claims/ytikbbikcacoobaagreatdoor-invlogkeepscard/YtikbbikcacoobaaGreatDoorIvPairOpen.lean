/-
  open, on a pair. No conditions.
-/
import Derived.Test.YtikbbikcacoobaaGreatDoorIvPairDo
import Derived.Deep.RegionHeld
import Derived.Deep.DrawnRows
namespace Go.Proofs.YtikbbikcacoobaaGreatDoor.Pd.Iv
open Go.RowKit Oc Dm W Dw Sr
set_option linter.unusedVariables false
set_option maxRecDepth 100000
attribute [local go_sem ↓] Go.wp_at_zero Go.wp_at_succ
theorem phead_map {w : World} {P pw D q E : Nat} {p : Pn.Pl} {T U : Option Addr} (h : PHead w P p pw D q E T U) : w.cell? ⟨P, 0, none⟩ = some (.int .i64 p.a0) ∧ w.cell? ⟨P, 1, none⟩ = some (.int .i64 p.a1) ∧ w.cell? ⟨P, 2, none⟩ = some (.int .i64 p.a2) ∧ w.cell? ⟨P, 3, none⟩ = some (.int .i64 p.a3) ∧ w.cell? ⟨P, 4, none⟩ = some (.int .i64 p.a4) ∧ w.cell? ⟨P, 5, none⟩ = some (.int .i64 p.a5) ∧ w.cell? ⟨P, 6, none⟩ = some (.int .i64 p.a6) ∧ w.cell? ⟨P, 7, none⟩ = some (.int .i64 p.a7) ∧ w.cell? ⟨P, 8, none⟩ = some (.int .i64 p.a8) ∧ w.cell? ⟨P, 9, none⟩ = some (.int .i64 p.a9) ∧ w.cell? ⟨P, 10, none⟩ = some (.int .i64 p.a10) ∧ w.cell? ⟨P, 11, none⟩ = some (.int .i64 p.a11) ∧ w.cell? ⟨P, 12, none⟩ = some (.int .i64 p.a12) ∧ w.cell? ⟨P, 27, none⟩ = some (.pointer (some ⟨D, 0, none⟩)) := by
  refine ⟨?_, ?_, ?_, ?_, ?_, ?_, ?_, ?_, ?_, ?_, ?_, ?_, ?_, ?_⟩ <;> rw [(h.cell _).1] <;> rfl
theorem phead_plan {w : World} {P pw D q E : Nat} {p : Pn.Pl} {T U : Option Addr} (h : PHead w P p pw D q E T U) : w.cell? ⟨P, 13, none⟩ = some (.int .i64 p.a0) ∧ w.cell? ⟨P, 14, none⟩ = some (.int .i64 p.a1) ∧ w.cell? ⟨P, 15, none⟩ = some (.int .i64 p.a2) ∧ w.cell? ⟨P, 16, none⟩ = some (.int .i64 p.a3) ∧ w.cell? ⟨P, 17, none⟩ = some (.int .i64 p.a4) ∧ w.cell? ⟨P, 18, none⟩ = some (.int .i64 p.a5) ∧ w.cell? ⟨P, 19, none⟩ = some (.int .i64 p.a6) ∧ w.cell? ⟨P, 20, none⟩ = some (.int .i64 p.a7) ∧ w.cell? ⟨P, 21, none⟩ = some (.int .i64 p.a8) ∧ w.cell? ⟨P, 22, none⟩ = some (.int .i64 p.a9) ∧ w.cell? ⟨P, 23, none⟩ = some (.int .i64 p.a10) ∧ w.cell? ⟨P, 24, none⟩ = some (.int .i64 p.a11) ∧ w.cell? ⟨P, 25, none⟩ = some (.int .i64 p.a12) ∧ w.cell? ⟨P, 30, none⟩ = some (.pointer (some ⟨E, 0, none⟩)) := by
  refine ⟨?_, ?_, ?_, ?_, ?_, ?_, ?_, ?_, ?_, ?_, ?_, ?_, ?_, ?_⟩ <;> rw [(h.cell _).1] <;> rfl
section
variable {w0 w w' : World} {P n N N' pw D q E la lg f ep : Nat} {p : Pn.Pl} {T U T0 U0 : Option Addr} {F G H1 H2 : Nat → Prop} {m m1 m2 : Vs} {t1 t2 : Option Lg}
set_option maxHeartbeats 8000000 in
theorem pair_open_yes (h : Pr w0 P p n N pw D q E T U F G H1 H2 m m t1 t2 w) (hh : PHead w P p pw D q E T0 U0) (he : Env w0) (hp : Pln p la lg n) (ho : m.s.off = false) (hf : f ≤ most) (hep : ep ≤ most) (R : List Rc × Vs) (hR : rdl la lg ep lg f 0 m = R) :
    Calls Tryz.prog 31 #[.pointer (some ⟨P, 0, none⟩), .int .u64 (f : Int), .int .u64 (ep : Int)] w fun e w' => e = .returned (.bool true) ∧ ∃ T' U' H1' H2', Pr w0 P p n N pw D q E (some ⟨T', 0, none⟩) (some ⟨U', 0, none⟩) F G H1' H2' R.2 R.2 (some ⟨f, f + R.1.length, ep⟩) (some ⟨f, f + R.1.length, ep⟩) w' ∧ PHead w' P p pw D q E (some ⟨T', 0, none⟩) (some ⟨U', 0, none⟩) ∧ Kp' w P (Us F pw G q H1 H2) w' (Us F pw G q H1' H2') := by
  have H := Lib.hid h
  have HH := Lib.hid hh
  have HUB : Hid (∀ b, Us F pw G q H1 H2 b → b < w.heap.size) := fun b x => (h.ubound x).2
  have HPL : Hid (P < w.heap.size) := h.lt.1
  have KO : Hid (∀ y, Below w.heap.size w y → Calls Tryz.prog 22 #[.pointer (some ⟨D, 0, none⟩), (.agg #[.int .i64 p.a0, .int .i64 p.a1, .int .i64 p.a2, .int .i64 p.a3, .int .i64 p.a4, .int .i64 p.a5, .int .i64 p.a6, .int .i64 p.a7, .int .i64 p.a8, .int .i64 p.a9, .int .i64 p.a10, .int .i64 p.a11, .int .i64 p.a12]), .int .u64 (f : Int), .int .u64 (ep : Int)] y fun e y' => ∃ T' A c, e = .returned (.tuple #[.pointer (some ⟨T', 0, none⟩), .slice A R.1.length c, .int .i64 0]) ∧ OwnS y' 31 5 w.heap.size (.slice A R.1.length c) (R.1.map rcs) ∧ (∀ b, Value.ownBlock (.slice A R.1.length c) = some b → b ≠ T') ∧ Pr w0 P p n N pw D q E (some ⟨T', 0, none⟩) U F G (fun b => b = T') H2 R.2 m (some ⟨f, f + R.1.length, ep⟩) t2 y' ∧ y'.heap[P]? = w.heap[P]? ∧ Kp w (Us F pw G q H1 H2) y' (Us F pw G q (fun b => b = T') H2)) := fun y hy =>
    ((h.below hy).open_ he hp ho hf hep R hR).mono fun e y' ⟨T', A, c, e1, e2, e3, e4, e5, e6⟩ => ⟨T', A, c, e1, e2.more hy.size, e3, e4, e5.trans (hy.block P h.lt.1), (Kp.of_below hy _).trans e6⟩
  have HZ : Hid (∀ i, i < n → (m.S i).stands.length = 64) := fun i hi => h.pd.stand hi
  have HP := Lib.hid hp
  have HR := Lib.hid hR
  have HO := Lib.hid ho
  have HF := Lib.hid hf
  have HEP := Lib.hid hep
  have RL : Hid (R.1.length ≤ 256) := by
    have := rdl_len (la := la) (lg := lg) (ep := ep) lg f 0 m
    rw [hR] at this
    exact Nat.le_trans this hp.hl2
  clear h hh he hp hR ho hf hep
  obtain ⟨x0, x1, x2, x3, x4, x5, x6, x7, x8, x9, x10, x11, x12, x13⟩ := phead_map HH.out
  go_enter Tryz.func31, Tryz.ntmps31
  go_wp2_with fail
  go_region_held (fun x => x.cell? ⟨P, 0, none⟩ = some (.int .i64 p.a0) ∧ x.cell? ⟨P, 1, none⟩ = some (.int .i64 p.a1) ∧ x.cell? ⟨P, 2, none⟩ = some (.int .i64 p.a2) ∧ x.cell? ⟨P, 3, none⟩ = some (.int .i64 p.a3) ∧ x.cell? ⟨P, 4, none⟩ = some (.int .i64 p.a4) ∧ x.cell? ⟨P, 5, none⟩ = some (.int .i64 p.a5) ∧ x.cell? ⟨P, 6, none⟩ = some (.int .i64 p.a6) ∧ x.cell? ⟨P, 7, none⟩ = some (.int .i64 p.a7) ∧ x.cell? ⟨P, 8, none⟩ = some (.int .i64 p.a8) ∧ x.cell? ⟨P, 9, none⟩ = some (.int .i64 p.a9) ∧ x.cell? ⟨P, 10, none⟩ = some (.int .i64 p.a10) ∧ x.cell? ⟨P, 11, none⟩ = some (.int .i64 p.a11) ∧ x.cell? ⟨P, 12, none⟩ = some (.int .i64 p.a12) ∧ x.cell? ⟨P, 27, none⟩ = some (.pointer (some ⟨D, 0, none⟩))) (first | go_keep | exact phead_map Z1.out)
    (first
      | (go_at_call 22; (with_reducible refine (KO.out _ (bdrew _)).mono ?_); rintro e w1 ⟨T', A1, c1, rfl, o1, n1, p1, z1, k1⟩; have O1 := Lib.hid o1; have N1 := Lib.hid n1; have P1 := Lib.hid p1; have K1 := Lib.hid k1; have Z1 : Hid (PHead w1 P p pw D q E T0 U0) := HH.out.of z1; clear o1 n1 p1 z1 k1))
  all_goals
    clear x0 x1 x2 x3 x4 x5 x6 x7 x8 x9 x10 x11 x12 x13
    obtain ⟨y0, y1, y2, y3, y4, y5, y6, y7, y8, y9, y10, y11, y12, y13⟩ := phead_plan Z1.out
    have RO : Hid (∀ y, Below w1.heap.size w1 y → Calls Tryz.prog 63 #[.pointer (some ⟨E, 0, none⟩), (.agg #[.int .i64 p.a0, .int .i64 p.a1, .int .i64 p.a2, .int .i64 p.a3, .int .i64 p.a4, .int .i64 p.a5, .int .i64 p.a6, .int .i64 p.a7, .int .i64 p.a8, .int .i64 p.a9, .int .i64 p.a10, .int .i64 p.a11, .int .i64 p.a12]), .int .u64 (f : Int), .int .u64 (ep : Int)] y fun e y' => ∃ U' A c, e = .returned (.tuple #[.pointer (some ⟨U', 0, none⟩), .slice A R.1.length c, .int .i64 0]) ∧ OwnS y' 31 5 w1.heap.size (.slice A R.1.length c) (R.1.map rcs) ∧ Pr w0 P p n N pw D q E (some ⟨T', 0, none⟩) (some ⟨U', 0, none⟩) F G (fun b => b = T') (fun b => b = U') R.2 R.2 (some ⟨f, f + R.1.length, ep⟩) (some ⟨f, f + R.1.length, ep⟩) y' ∧ y'.heap[P]? = w1.heap[P]? ∧ Kp w1 (Us F pw G q (fun b => b = T') H2) y' (Us F pw G q (fun b => b = T') (fun b => b = U'))) := fun y hy =>
      ((P1.out.below hy).ropen HZ.out HP.out HO.out HF.out HEP.out R HR.out).mono fun e y' ⟨U', A, c, e1, e2, e4, e5, e6⟩ => ⟨U', A, c, e1, e2.more hy.size, e4, e5.trans (hy.block P P1.out.lt.1), (Kp.of_below hy _).trans e6⟩
    go_wp2_with fail
    go_region_held (fun x => x.cell? ⟨P, 13, none⟩ = some (.int .i64 p.a0) ∧ x.cell? ⟨P, 14, none⟩ = some (.int .i64 p.a1) ∧ x.cell? ⟨P, 15, none⟩ = some (.int .i64 p.a2) ∧ x.cell? ⟨P, 16, none⟩ = some (.int .i64 p.a3) ∧ x.cell? ⟨P, 17, none⟩ = some (.int .i64 p.a4) ∧ x.cell? ⟨P, 18, none⟩ = some (.int .i64 p.a5) ∧ x.cell? ⟨P, 19, none⟩ = some (.int .i64 p.a6) ∧ x.cell? ⟨P, 20, none⟩ = some (.int .i64 p.a7) ∧ x.cell? ⟨P, 21, none⟩ = some (.int .i64 p.a8) ∧ x.cell? ⟨P, 22, none⟩ = some (.int .i64 p.a9) ∧ x.cell? ⟨P, 23, none⟩ = some (.int .i64 p.a10) ∧ x.cell? ⟨P, 24, none⟩ = some (.int .i64 p.a11) ∧ x.cell? ⟨P, 25, none⟩ = some (.int .i64 p.a12) ∧ x.cell? ⟨P, 30, none⟩ = some (.pointer (some ⟨E, 0, none⟩))) (first | go_keep | exact phead_plan Z2.out)
      (first
        | (go_at_call 63; (with_reducible refine (RO.out _ (bdrew _)).mono ?_); rintro e w2 ⟨U', A2, c2, rfl, o2, p2, z2, k2⟩; have O2 := Lib.hid o2; have P2 := Lib.hid p2; have K2 := Lib.hid (K1.out.trans k2); have K12 := Lib.hid k2; have Z2 : Hid (PHead w2 P p pw D q E T0 U0) := Z1.out.of z2; clear o2 p2 z2 k2))
    all_goals
      clear y0 y1 y2 y3 y4 y5 y6 y7 y8 y9 y10 y11 y12 y13
      have c28 := (Z2.out.cell 28).1.trans (show _ = some (.pointer T0) from rfl)
      have c31 := (Z2.out.cell 31).1.trans (show _ = some (.pointer U0) from rfl)
      have f28 := (Z2.out.cell 28).2
      have f31 := (Z2.out.cell 31).2
      have P4 := Lib.hid ((P2.out.store 28 (.pointer (some ⟨T', 0, none⟩))).store 31 (.pointer (some ⟨U', 0, none⟩)))
      have Z4 : Hid (PHead ((w2.setCell ⟨P, 28, none⟩ (.pointer (some ⟨T', 0, none⟩))).setCell ⟨P, 31, none⟩ (.pointer (some ⟨U', 0, none⟩))) P p pw D q E (some ⟨T', 0, none⟩) (some ⟨U', 0, none⟩)) := by
        have e1 : PHead (w2.setCell ⟨P, 28, none⟩ (.pointer (some ⟨T', 0, none⟩))) P p pw D q E (some ⟨T', 0, none⟩) U0 := by
          unfold PHead
          rw [heap_setCell_same _ _ _ _ _ _ Z2.out]
          rfl
        show PHead _ _ _ _ _ _ _ _ _
        unfold PHead
        rw [heap_setCell_same _ _ _ _ _ _ e1]
        rfl
      have K4 : Hid (Kp' w P (Us F pw G q H1 H2) ((w2.setCell ⟨P, 28, none⟩ (.pointer (some ⟨T', 0, none⟩))).setCell ⟨P, 31, none⟩ (.pointer (some ⟨U', 0, none⟩))) (Us F pw G q (fun b => b = T') (fun b => b = U'))) := (K2.out.but P).cell2 _ _ _ _
      have S1 : Hid (w.heap.size ≤ w1.heap.size) := K1.out.size
      have R1 : Hid (Rs ((w2.setCell ⟨P, 28, none⟩ (.pointer (some ⟨T', 0, none⟩))).setCell ⟨P, 31, none⟩ (.pointer (some ⟨U', 0, none⟩))) A1 R.1.length R.1) := rs_own (O1.out.keep (fun b eb => by
        have hb := O1.out.ge b eb
        have hP := HPL.out
        rw [heap_setCell_other _ _ _ _ (show b ≠ P by omega), heap_setCell_other _ _ _ _ (show b ≠ P by omega)]
        refine (K12.out.at_ b hb.2 (fun x => ?_)).1
        have hu := HUB.out b
        rcases x with x | x | x | x
        · have := hu (.inl x); omega
        · have := hu (.inr (.inl x)); omega
        · exact N1.out b eb x
        · have := hu (.inr (.inr (.inr x))); omega)) rfl
      have R2 : Hid (Rs ((w2.setCell ⟨P, 28, none⟩ (.pointer (some ⟨T', 0, none⟩))).setCell ⟨P, 31, none⟩ (.pointer (some ⟨U', 0, none⟩))) A2 R.1.length R.1) := rs_own (O2.out.keep (fun b eb => by
        have hb := O2.out.ge b eb
        have hP := HPL.out
        have := S1.out
        rw [heap_setCell_other _ _ _ _ (show b ≠ P by omega), heap_setCell_other _ _ _ _ (show b ≠ P by omega)])) rfl
      go_wp2_with fail
      refine (rsame_any R1.out R2.out (by have := RL.out; omega)).mono ?_; rintro e w5 ⟨rfl, b5⟩
      have B5 := Lib.hid b5
      clear b5 c28 c31 f28 f31
      go_wp2
      go_ret
      exact ⟨rfl, T', U', _, _, P4.out.below B5.out, Z4.out.below B5.out, K4.out.trans (Kp'.of_below B5.out P _)⟩
theorem rs_nil (w : World) : Rs w none 0 [] := ⟨rfl, fun h => absurd h (by decide)⟩
set_option maxHeartbeats 8000000 in
theorem pair_open_off (h : Pr w0 P p n N pw D q E T U F G H1 H2 m m t1 t2 w) (hh : PHead w P p pw D q E T0 U0) (hp : Pln p la lg n) (ho : m.s.off = true) (hf : f ≤ most) (hep : ep ≤ most) :
    Calls Tryz.prog 31 #[.pointer (some ⟨P, 0, none⟩), .int .u64 (f : Int), .int .u64 (ep : Int)] w fun e w' => e = .returned (.bool true) ∧ Below w.heap.size w w' := by
  have H := Lib.hid h
  have HH := Lib.hid hh
  have HC : (80 : Int) = chk n p.a12 f ep m.s.off := by
    unfold chk
    rw [if_neg, ho]
    · rfl
    · have := hp.h12
      have := hp.hn
      have := hp.hl
      rintro (x | x | x | x) <;> omega
  have KO : Hid (∀ y, Below w.heap.size w y → Calls Tryz.prog 22 #[.pointer (some ⟨D, 0, none⟩), (.agg #[.int .i64 p.a0, .int .i64 p.a1, .int .i64 p.a2, .int .i64 p.a3, .int .i64 p.a4, .int .i64 p.a5, .int .i64 p.a6, .int .i64 p.a7, .int .i64 p.a8, .int .i64 p.a9, .int .i64 p.a10, .int .i64 p.a11, .int .i64 p.a12]), .int .u64 (f : Int), .int .u64 (ep : Int)] y fun e y' => e = .returned (.tuple #[.pointer none, .slice none 0 0, .int .i64 80]) ∧ Below y.heap.size y y') := fun y hy =>
    open_no (h.below hy).pd f ep 80 HC (by decide)
  have RO : Hid (∀ y, Below w.heap.size w y → Calls Tryz.prog 63 #[.pointer (some ⟨E, 0, none⟩), (.agg #[.int .i64 p.a0, .int .i64 p.a1, .int .i64 p.a2, .int .i64 p.a3, .int .i64 p.a4, .int .i64 p.a5, .int .i64 p.a6, .int .i64 p.a7, .int .i64 p.a8, .int .i64 p.a9, .int .i64 p.a10, .int .i64 p.a11, .int .i64 p.a12]), .int .u64 (f : Int), .int .u64 (ep : Int)] y fun e y' => e = .returned (.tuple #[.pointer none, .slice none 0 0, .int .i64 80]) ∧ Below y.heap.size y y') := fun y hy =>
    ropen_off (h.below hy).rd ho f ep
  clear h hh hp ho hf hep HC
  obtain ⟨x0, x1, x2, x3, x4, x5, x6, x7, x8, x9, x10, x11, x12, x13⟩ := phead_map HH.out
  go_enter Tryz.func31, Tryz.ntmps31
  go_wp2_with fail
  go_region_held (fun x => x.cell? ⟨P, 0, none⟩ = some (.int .i64 p.a0) ∧ x.cell? ⟨P, 1, none⟩ = some (.int .i64 p.a1) ∧ x.cell? ⟨P, 2, none⟩ = some (.int .i64 p.a2) ∧ x.cell? ⟨P, 3, none⟩ = some (.int .i64 p.a3) ∧ x.cell? ⟨P, 4, none⟩ = some (.int .i64 p.a4) ∧ x.cell? ⟨P, 5, none⟩ = some (.int .i64 p.a5) ∧ x.cell? ⟨P, 6, none⟩ = some (.int .i64 p.a6) ∧ x.cell? ⟨P, 7, none⟩ = some (.int .i64 p.a7) ∧ x.cell? ⟨P, 8, none⟩ = some (.int .i64 p.a8) ∧ x.cell? ⟨P, 9, none⟩ = some (.int .i64 p.a9) ∧ x.cell? ⟨P, 10, none⟩ = some (.int .i64 p.a10) ∧ x.cell? ⟨P, 11, none⟩ = some (.int .i64 p.a11) ∧ x.cell? ⟨P, 12, none⟩ = some (.int .i64 p.a12) ∧ x.cell? ⟨P, 27, none⟩ = some (.pointer (some ⟨D, 0, none⟩))) (first | go_keep | exact phead_map Z1.out)
    (first
      | (go_at_call 22; (with_reducible refine (KO.out _ (bdrew _)).mono ?_); rintro e w1 ⟨rfl, b1⟩; have B1 : Hid (Below w.heap.size w w1) := bthen (bdrew _) b1; have Z1 : Hid (PHead w1 P p pw D q E T0 U0) := HH.out.below B1.out; clear b1))
  all_goals
    clear x0 x1 x2 x3 x4 x5 x6 x7 x8 x9 x10 x11 x12 x13
    obtain ⟨y0, y1, y2, y3, y4, y5, y6, y7, y8, y9, y10, y11, y12, y13⟩ := phead_plan Z1.out
    go_wp2_with fail
    go_region_held (fun x => x.cell? ⟨P, 13, none⟩ = some (.int .i64 p.a0) ∧ x.cell? ⟨P, 14, none⟩ = some (.int .i64 p.a1) ∧ x.cell? ⟨P, 15, none⟩ = some (.int .i64 p.a2) ∧ x.cell? ⟨P, 16, none⟩ = some (.int .i64 p.a3) ∧ x.cell? ⟨P, 17, none⟩ = some (.int .i64 p.a4) ∧ x.cell? ⟨P, 18, none⟩ = some (.int .i64 p.a5) ∧ x.cell? ⟨P, 19, none⟩ = some (.int .i64 p.a6) ∧ x.cell? ⟨P, 20, none⟩ = some (.int .i64 p.a7) ∧ x.cell? ⟨P, 21, none⟩ = some (.int .i64 p.a8) ∧ x.cell? ⟨P, 22, none⟩ = some (.int .i64 p.a9) ∧ x.cell? ⟨P, 23, none⟩ = some (.int .i64 p.a10) ∧ x.cell? ⟨P, 24, none⟩ = some (.int .i64 p.a11) ∧ x.cell? ⟨P, 25, none⟩ = some (.int .i64 p.a12) ∧ x.cell? ⟨P, 30, none⟩ = some (.pointer (some ⟨E, 0, none⟩))) (first | go_keep | exact phead_plan Z2.out)
      (first
        | (go_at_call 63; (with_reducible refine (RO.out _ (bthen B1.out (bdrew _))).mono ?_); rintro e w2 ⟨rfl, b2⟩; have B2 : Hid (Below w.heap.size w w2) := bthen (bthen B1.out (bdrew _)) b2; have Z2 : Hid (PHead w2 P p pw D q E T0 U0) := HH.out.below B2.out; clear b2))
    all_goals
      clear y0 y1 y2 y3 y4 y5 y6 y7 y8 y9 y10 y11 y12 y13
      go_wp2_with fail
      refine (rsame_any (rs_nil w2) (rs_nil w2) (by decide)).mono ?_; rintro e w5 ⟨rfl, b5⟩
      have B5 := Lib.hid (bthen B2.out b5)
      clear b5
      go_wp2
      go_ret
      exact ⟨rfl, B5.out⟩
end
end Go.Proofs.YtikbbikcacoobaaGreatDoor.Pd.Iv

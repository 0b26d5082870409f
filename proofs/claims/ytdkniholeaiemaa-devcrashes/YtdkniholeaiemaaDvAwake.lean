/-
  The page's example. No conditions.
-/
import Derived.Test.YtdkniholeaiemaaDvNil
import Derived.Deep.RegionHeld
import Derived.Deep.DrawnRows
namespace Go.Proofs.Ytdkniholeaiemaa.W
open Go.RowKit Oc Dm
set_option linter.unusedVariables false
attribute [local go_sem ↓] Go.wp_at_zero Go.wp_at_succ

theorem below_drewN {B : Nat} {a w : World} (h : Below B a w) (n : Nat) : Below B a (w.drewN n) := ⟨h.os, h.tape, h.output, h.size, h.block⟩
theorem below_of_drew {B : Nat} {a b : World} (h : Below B a.drew b) : Below B a b := ⟨h.os, h.tape, h.output, h.size, h.block⟩
theorem balloc (w : World) (o : Obj) : Below w.heap.size w (w.alloc o) := (Below.refl _ w).alloc (Nat.le_refl _) o
/-- the writes of the example -/
def ex1 : List UInt8 := List.replicate 64 1
def ex2 : List UInt8 := List.replicate 64 2
theorem rep_map (c : UInt8) : List.replicate 64 (ov c) = (List.replicate 64 c).map ov := by rw [List.map_replicate]
def exS : Nat → Sec := wrote (wrote (fun _ => sec0) 0 ex1) 0 ex2
theorem ex_loose : (exS 0).loose = [ex1, ex2] := rfl
theorem ex_row : looseOf 2 exS = [(0, 2)] := by
  have h1 : (exS 1).loose = [] := rfl
  unfold looseOf
  rw [show List.range 2 = [0, 1] from rfl]
  simp only [List.filterMap_cons, List.filterMap_nil, h1, if_true, ex_loose]
  rfl
theorem ex_crash : (crashTo 2 exS [1] 1 0).stands = ex1 := by
  rw [crashTo_yes (f := 1) (x := (0, 2)) rfl (by rw [ex_row]; rfl) (by decide), upd_same, Sec.stands_fixed rfl, ex_loose]
  rfl
theorem chg_below {w a b : World} {F : Nat → Prop} (h : Below w.heap.size w a) (c : Chg F a b) (hF : ∀ k, F k → w.heap.size ≤ k) : Below w.heap.size w b := h.trans (c.below h.size (fun k hk x => by have := hF k x; omega))
theorem lo_new (w : World) (a b : Nat) : Lo (w.alloc (.cells #[.int .i64 (a : Int), .int .i64 (b : Int)] 91)) (some ⟨w.heap.size, 0, none⟩) 1 [(a, b)] := by
  refine ⟨rfl, fun _ => ⟨_, rfl, fun j x hx => ?_⟩⟩
  have hj : j = 0 := by
    have := (List.getElem?_eq_some_iff.1 hx).1
    simpa using this
  subst hj
  simp at hx
  subst hx
  refine ⟨?_, ?_⟩ <;> rw [cell_of_row _ _ _ _ _ (0, 0) (heap_alloc_new w _)] <;> rfl
theorem fill1 (w : World) : Calls Try.prog 22 #[.int .u8 1, .int .i64 0] w (Filled w 1 64) := fill_any w 1 0
theorem own_one {w : World} {B b : Nat} (h : Rw.OwnV w 5 B (.slice (some ⟨b, 0, none⟩) 64 64) (List.replicate 64 (ov 1))) : Oct w (some ⟨b, 0, none⟩) 64 ex1 := oct_own (xs := ex1) (rep_map 1 ▸ h) rfl
theorem lo_new2 (w : World) : Lo ((w.alloc (.cells #[.int .i64 0, .int .i64 2] 91)).drew) (some ⟨w.heap.size, 0, none⟩) 1 [(0, 2)] := lo_new w 0 2
theorem fi_new (w : World) (z : Int) : Fi (w.alloc (.cells #[.int .i64 z] 3)) (some ⟨w.heap.size, 0, none⟩) 1 [z] := Rw.Sl.one w 3 (.int .i64 z)
set_option maxRecDepth 100000 in
set_option maxHeartbeats 8000000 in
theorem awake_any (w : World) : Calls Try.prog 10 #[] w fun e w' => e = .returned (.bool true) ∧ Below w.heap.size w w' := by
  go_enter Try.func10, Try.ntmps10
  go_wp2_with fail
  refine (newpower_any w).mono ?_; rintro e w1 ⟨rfl, p1, b1, z1⟩
  have P1 := Lib.hid p1
  have B1 := Lib.hid b1
  have Z1 := Lib.hid z1
  clear p1 b1 z1
  go_wp2_with fail
  refine (new_yes (n := 2) P1.out (by decide)).mono ?_; rintro e w2 ⟨D, fx, m, r, rfl, hD, h2, b2⟩
  have H2 := Lib.hid h2
  have P2 := Lib.hid (P1.out.heap (b2.block _ P1.out.lt))
  have HP2 := Lib.hid (show ¬ Fresh w1 w2 w.heap.size from fun x => by have := x.1; have := Z1.out; omega)
  have B2 := Lib.hid (bthen B1.out b2)
  have HD := Lib.hid hD
  have Z2 := Lib.hid b2.size
  clear h2 b2 hD
  go_wp2_with fail
  refine (fill_any w2 1 0).mono ?_; rintro e w3 ⟨b, rfl, hb, o3, b3⟩
  change Rw.OwnV w3 5 w2.heap.size (.slice (some ⟨b, 0, none⟩) 64 64) (List.replicate 64 (ov 1)) at o3
  rw [rep_map] at o3
  have X3 := Lib.hid (oct_own o3 rfl)
  have H3 := Lib.hid (H2.out.below b3)
  have P3 := Lib.hid (P2.out.heap (b3.block _ P2.out.lt))
  have B3 := Lib.hid (bthen B2.out b3)
  have B23 := Lib.hid b3
  have hbp : b ≠ w.heap.size := by have := P2.out.lt; omega
  have hbF : ¬ Fresh w1 w2 b := fun x => by have := x.2; omega
  have HBP := Lib.hid hbp
  have HBF := Lib.hid hbF
  clear o3 b3 hb hbp hbF
  rw [show fillLen 0 = 64 from rfl]
  go_wp2_with fail
  refine (write_ok (i := 0) (b := b) (off := 0) H3.out (by decide) HP2.out P3.out (by decide) rfl (by decide) rfl rfl rfl X3.out HBP.out HBF.out).mono ?_; rintro e w4 ⟨rfl, p4, d4, c4⟩
  obtain ⟨fx4, m4, r4, g4, d4⟩ := d4
  have P4 := Lib.hid p4
  have H4 := Lib.hid d4
  have hz1 := Z1.out
  have hz3 := (show w2.heap.size ≤ w3.heap.size from B23.out.size)
  have B4 := Lib.hid (chg_below B3.out c4 (fun k x => by
    rcases x with x | x
    · have := x.1; omega
    · omega))
  have HP4 := Lib.hid (show ¬ Ext (Fresh w1 w2) w3 w4 w.heap.size from fun x => by
    rcases x with x | x
    · have := x.1; omega
    · have := x.1; have := Z2.out; omega)
  have FG4 := Lib.hid (show ∀ k, Ext (Fresh w1 w2) w3 w4 k → w.heap.size ≤ k from fun k x => by
    rcases x with x | x
    · have := x.1; omega
    · have := x.1; have := Z2.out; omega)
  generalize Ext (Fresh w1 w2) w3 w4 = F4 at H4 HP4 FG4
  clear p4 d4 c4 hz1 hz3 H3 P3 X3 HBP HBF H2 P2 HP2
  go_wp2_with fail
  refine (fill_any w4 2 0).mono ?_; rintro e w5 ⟨b5, rfl, hb5, o5, bb5⟩
  change Rw.OwnV w5 5 w4.heap.size (.slice (some ⟨b5, 0, none⟩) 64 64) (List.replicate 64 (ov 2)) at o5
  rw [rep_map] at o5
  have X5 := Lib.hid (oct_own o5 rfl)
  have H5 := Lib.hid (H4.out.below bb5)
  have P5 := Lib.hid (P4.out.heap (bb5.block _ P4.out.lt))
  have B5 := Lib.hid (bthen B4.out bb5)
  have HBP5 := Lib.hid (show b5 ≠ w.heap.size by have := P4.out.lt; omega)
  have HBF5 := Lib.hid (show ¬ F4 b5 from fun x => by have := H4.out.bound _ x; omega)
  clear o5 bb5 hb5
  rw [show fillLen 0 = 64 from rfl]
  go_wp2_with fail
  refine (write_ok (i := 0) (b := b5) (off := 0) H5.out (by decide) HP4.out P5.out (by decide) rfl (by decide) rfl rfl rfl X5.out HBP5.out HBF5.out).mono ?_; rintro e w6 ⟨rfl, p6, d6, c6⟩
  obtain ⟨fx6, m6, r6, g6, d6⟩ := d6
  have H6 := Lib.hid d6
  have B6 := Lib.hid (chg_below B5.out c6 (fun k x => by
    rcases x with x | x
    · exact FG4.out k x
    · omega))
  generalize Ext F4 w5 w6 = F6 at H6
  clear p6 d6 c6 H5 P5 X5 HBP5 HBF5 H4 P4 HP4 FG4
  go_wp2_with fail
  refine (loose_any H6.out).mono ?_; rintro e w7 ⟨lb, lk, lc, rfl, lo7, hlb, b7⟩
  have hlk := lo7.1
  change (looseOf 2 exS).length = lk at hlk
  rw [ex_row] at hlk
  change 1 = lk at hlk
  subst hlk
  change Lo w7 _ 1 (looseOf 2 exS) at lo7
  rw [ex_row] at lo7
  have LO7 := Lib.hid lo7
  have H7 := Lib.hid (H6.out.below b7)
  have B7 := Lib.hid (bthen B6.out b7)
  clear lo7 hlb b7 H6
  go_wp2_with fail
  refine (newpower_any w7).mono ?_; rintro e w8 ⟨rfl, p8, b8, z8⟩
  have P8 := Lib.hid p8
  have H8 := Lib.hid (H7.out.below b8)
  have LO8 := Lib.hid (LO7.out.below b8)
  have B8 := Lib.hid (bthen B7.out b8)
  clear p8 b8 z8 H7 LO7
  go_wp2_with fail
  have hF8 := fi_new w8 1
  have b9 := balloc w8 (.cells #[.int .i64 1] 3)
  have H9 := Lib.hid (H8.out.below b9)
  have P9 := Lib.hid (P8.out.heap (b9.block _ P8.out.lt))
  have LO9 := Lib.hid (LO8.out.below b9)
  have B9 := Lib.hid (bthen B8.out b9)
  have F9 := Lib.hid hF8
  generalize w8.alloc (.cells #[.int .i64 1] 3) = w9 at H9 P9 LO9 B9 F9 ⊢
  clear hF8 b9
  refine (crash_ok (fs := [1]) (c := 1) H9.out P9.out F9.out (by show 1 ≤ (looseOf 2 exS).length; rw [ex_row]; decide) (fun j hj f x hf hx => ?_)).mono ?_
  · have : j = 0 := by omega
    subst this
    change (looseOf 2 exS)[0]? = some x at hx
    rw [ex_row] at hx
    rw [← Option.some.inj hf, ← Option.some.inj hx]
    decide
  rintro e w10 ⟨X, fx', m', r', rfl, hX, h10, b10⟩
  have H10 := Lib.hid h10
  have LO10 := Lib.hid (LO9.out.below b10)
  have B10 := Lib.hid (bthen B9.out b10)
  clear hX h10 b10 H9 P9 LO9 F9 H8 P8 LO8
  go_wp2_with fail
  refine (peek_yes H10.out 0 (by decide)).mono ?_; rintro e w11 ⟨pb, rfl, hpb, r11, b11⟩
  change SRow w11 pb 1 1 (fun _ => (crashTo 2 exS [1] 1 0).stands) at r11
  rw [ex_crash] at r11
  have X11 := Lib.hid (r11.oct (i := 0) (by decide))
  change Hid (Oct w11 (some ⟨pb, 0, none⟩) 64 ex1) at X11
  have LO11 := Lib.hid (LO10.out.below b11)
  have B11 := Lib.hid (bthen B10.out b11)
  clear hpb r11 b11 H10 LO10
  go_wp2_with fail
  go_region_held (fun _ => True) (exact trivial) (first | (go_at_call 38; (with_reducible refine (same_lo _ _ _ 1 _ _ [(0, 2)] ?_ ?_ ?_).mono ?_); (exact (by decide)); (exact LO11.out.below ((balloc _ _).drew)); (exact lo_new2 _); rintro e w12 ⟨rfl, q, hq⟩; have C12 : Hid (Below w11.heap.size w11 w12) := (by rw [hq]; exact below_drewN ((balloc _ _).drew) q); have cv12 := (X11.out.below C12.out).conv bt Try.underlying9 64; clear hq) | (go_at_call 22; (with_reducible refine (fill1 w12).mono ?_); rintro e w13 ⟨b13, rfl, hb13, o13, bb13⟩; have X13 := own_one o13; have cv13 := X13.conv bt Try.underlying9 64; have cv14 := ((X11.out.below C12.out).below bb13).conv bt Try.underlying9 64; have B13 : Hid (Below w.heap.size w w13) := bthen (bthen B11.out C12.out) bb13; clear hb13 o13 bb13 X13))
  all_goals go_wp2
  all_goals (go_ret; exact ⟨rfl, B13.out⟩)
end Go.Proofs.Ytdkniholeaiemaa.W

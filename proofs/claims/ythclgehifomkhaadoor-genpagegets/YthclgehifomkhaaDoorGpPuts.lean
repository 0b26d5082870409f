/-
  The walk of the statement on Put. No conditions.
-/
import Derived.Test.YthclgehifomkhaaDoorGpAwake
import Derived.Test.YthclgehifomkhaaDoorGpRnewer
import Derived.IntWalk
namespace Go.Proofs.YthclgehifomkhaaDoor.W
open Go.RowKit Oc
set_option linter.unusedVariables false
attribute [local go_sem] eq6
attribute [local go_sem ↓] Go.wp_at_zero Go.wp_at_succ

theorem bstr_eq (xs ys : List UInt8) (p : Bool) (hp : decide (xs = ys) = p) : ((bstr xs).toList == (bstr ys).toList) = p := by
  rw [ByteArray.toList_eq, ByteArray.toList_eq]
  show (xs == ys) = p
  rw [← hp]
  by_cases h : xs = ys <;> simp [h]

set_option maxRecDepth 100000 in
set_option maxHeartbeats 4000000 in
theorem puts_no (p : Gp) (no : Int) (w : World) (he : Env w) (h : ¬ MayBe p) :
    Calls Tryd.prog 3 #[(.agg #[.int .i64 p.no, .int .u64 (p.v : Int), .int .u64 (p.g 0 : Int), .int .u64 (p.g 1 : Int), .int .u64 (p.g 2 : Int), .int .u64 (p.g 3 : Int), .int .u64 (p.g 4 : Int), .int .u64 (p.g 5 : Int)]), .int .i64 no] w fun e w' => e = .returned (.bool true) ∧ Below w.heap.size w w' := by
  have HE := Lib.hid he
  have HM := Lib.hid h
  clear he h
  go_enter Tryd.func3, Tryd.ntmps3
  go_wp2_with fail
  refine (gput_no p _ HM.out).mono ?_; rintro e w1 ⟨rfl, b1⟩
  have X1 := Lib.hid (kept_below (heap_alloc_new w (.cells #[.int .i64 p.no, .int .u64 (p.v : Int), .int .u64 (p.g 0 : Int), .int .u64 (p.g 1 : Int), .int .u64 (p.g 2 : Int), .int .u64 (p.g 3 : Int), .int .u64 (p.g 4 : Int), .int .u64 (p.g 5 : Int)] 25)) b1)
  have B1 : Hid (Below w.heap.size w w1) := bthen (balloc _ _) b1
  clear b1
  go_wp2_with ((with_reducible apply L_loadGp); exact rfl; exact X1.out; exact rfl)
  refine (rgput_no p _ HM.out).mono ?_; rintro e w2 ⟨rfl, b2⟩
  have B2 : Hid (Below w.heap.size w w2) := bthen B1.out b2
  have cv1 := (Oct.nil w2 none).conv bt Tryd.underlying9 0
  clear b2
  go_wp2_with fail
  refine (awake_any _ (HE.out.below B2.out)).mono ?_; rintro e w3 ⟨rfl, b3⟩
  have B3 : Hid (Below w.heap.size w w3) := bthen B2.out b3
  clear b3
  go_wp2
  go_ret
  exact ⟨rfl, B3.out⟩

set_option maxRecDepth 100000 in
set_option maxHeartbeats 4000000 in
theorem puts_ok (p : Gp) (no : Int) (w : World) (he : Env w) (h : MayBe p) (q : Gp) (E : Int) (hE : GWay (sect p) no q E) (hq : (E == 0) = (no == p.no)) :
    Calls Tryd.prog 3 #[(.agg #[.int .i64 p.no, .int .u64 (p.v : Int), .int .u64 (p.g 0 : Int), .int .u64 (p.g 1 : Int), .int .u64 (p.g 2 : Int), .int .u64 (p.g 3 : Int), .int .u64 (p.g 4 : Int), .int .u64 (p.g 5 : Int)]), .int .i64 no] w fun e w' => e = .returned (.bool true) ∧ Below w.heap.size w w' := by
  have HE := Lib.hid he
  have HM := Lib.hid h
  have HW := Lib.hid hE
  clear he h hE
  have ha := bstr_eq (sect p) (sect p) true (by simp)
  obtain ⟨ss, hss⟩ : ∃ ss, sect p = ss := ⟨_, rfl⟩
  have HS := Lib.hid hss
  have HL : Hid (ss.length = 64) := by show _ = _; rw [← hss]; exact sect_length p
  rw [hss] at ha
  clear hss
  go_enter Tryd.func3, Tryd.ntmps3
  go_wp2_with fail
  refine (gput_ok p _ HM.out (HE.out.alloc _)).mono ?_; rintro e w1 ⟨v1, rfl, o1, b1⟩
  rw [HS.out] at o1
  obtain ⟨A1, c1, rfl, l1, s1⟩ := o1.form HL.out
  have S1 := Lib.hid s1
  have X1 := Lib.hid (kept_below (heap_alloc_new w (.cells #[.int .i64 p.no, .int .u64 (p.v : Int), .int .u64 (p.g 0 : Int), .int .u64 (p.g 1 : Int), .int .u64 (p.g 2 : Int), .int .u64 (p.g 3 : Int), .int .u64 (p.g 4 : Int), .int .u64 (p.g 5 : Int)] 25)) b1)
  have B1 : Hid (Below w.heap.size w w1) := bthen (balloc _ _) b1
  clear b1 s1 o1
  go_wp2_with ((with_reducible apply L_loadGp); exact rfl; exact X1.out; exact rfl)
  refine (rgput_ok p _ HM.out).mono ?_; rintro e w2 ⟨v2, rfl, o2, b2⟩
  rw [HS.out] at o2
  obtain ⟨A2, c2, rfl, l2, s2⟩ := o2.form HL.out
  have S2 := Lib.hid (S1.out.below b2)
  have X2 := Lib.hid (kept_below X1.out b2)
  have B2 : Hid (Below w.heap.size w w2) := bthen B1.out b2
  have cv1 := S2.out.conv bt Tryd.underlying9 c1
  have cv2 := s2.conv bt Tryd.underlying9 c2
  clear b2 o2 s2
  go_wp2_with fail
  refine (awake_any _ (HE.out.below B2.out)).mono ?_; rintro e w3 ⟨rfl, b3⟩
  have S3 := Lib.hid (S2.out.below b3)
  have X3 := Lib.hid (kept_below X2.out b3)
  have B3 : Hid (Below w.heap.size w w3) := bthen B2.out b3
  clear b3 cv1 cv2
  obtain ⟨x0, x1, x2, x3, x4, x5, x6, x7⟩ := gp_cells X3.out
  go_wp2_with fail
  refine (gget_any _ 64 _ ss _ p 0 _ (by omega) l1 S3.out (HE.out.below B3.out) (by rw [← HS.out]; exact way_own HM.out)).mono ?_; rintro e w4 ⟨rfl, b4⟩
  have S4 := Lib.hid (S3.out.below b4)
  have X4 := Lib.hid (kept_below X3.out b4)
  have B4 : Hid (Below w.heap.size w w4) := bthen B3.out b4
  clear b4 x0 x1 x2 x3 x4 x5 x6 x7
  go_wp2_with fail
  refine (gget_any _ 64 _ ss _ q E _ (by omega) l1 (S4.out.alloc _) ((HE.out.below B4.out).alloc _) (by rw [← HS.out]; exact HW.out)).mono ?_; rintro e w5 ⟨rfl, b5⟩
  have X5 := Lib.hid (kept_below (kept_below X4.out (balloc w4 (.cells #[.int .i64 p.no, .int .u64 (p.v : Int), .int .u64 (p.g 0 : Int), .int .u64 (p.g 1 : Int), .int .u64 (p.g 2 : Int), .int .u64 (p.g 3 : Int), .int .u64 (p.g 4 : Int), .int .u64 (p.g 5 : Int)] 25))) b5)
  have Y5 := Lib.hid (kept_below (heap_alloc_new w4 (.cells #[.int .i64 p.no, .int .u64 (p.v : Int), .int .u64 (p.g 0 : Int), .int .u64 (p.g 1 : Int), .int .u64 (p.g 2 : Int), .int .u64 (p.g 3 : Int), .int .u64 (p.g 4 : Int), .int .u64 (p.g 5 : Int)] 25)) b5)
  have B5 : Hid (Below w.heap.size w w5) := bthen (bthen B4.out (balloc w4 (.cells #[.int .i64 p.no, .int .u64 (p.v : Int), .int .u64 (p.g 0 : Int), .int .u64 (p.g 1 : Int), .int .u64 (p.g 2 : Int), .int .u64 (p.g 3 : Int), .int .u64 (p.g 4 : Int), .int .u64 (p.g 5 : Int)] 25))) b5
  clear b5
  have X6 := kept_below X5.out (balloc w5 (.cells #[.int .i64 q.no, .int .u64 (q.v : Int), .int .u64 (q.g 0 : Int), .int .u64 (q.g 1 : Int), .int .u64 (q.g 2 : Int), .int .u64 (q.g 3 : Int), .int .u64 (q.g 4 : Int), .int .u64 (q.g 5 : Int)] 25))
  have Y6 := kept_below Y5.out (balloc w5 (.cells #[.int .i64 q.no, .int .u64 (q.v : Int), .int .u64 (q.g 0 : Int), .int .u64 (q.g 1 : Int), .int .u64 (q.g 2 : Int), .int .u64 (q.g 3 : Int), .int .u64 (q.g 4 : Int), .int .u64 (q.g 5 : Int)] 25))
  have B6 : Hid (Below w.heap.size w (w5.alloc (.cells #[.int .i64 q.no, .int .u64 (q.v : Int), .int .u64 (q.g 0 : Int), .int .u64 (q.g 1 : Int), .int .u64 (q.g 2 : Int), .int .u64 (q.g 3 : Int), .int .u64 (q.g 4 : Int), .int .u64 (q.g 5 : Int)] 25))) := bthen B5.out (balloc w5 (.cells #[.int .i64 q.no, .int .u64 (q.v : Int), .int .u64 (q.g 0 : Int), .int .u64 (q.g 1 : Int), .int .u64 (q.g 2 : Int), .int .u64 (q.g 3 : Int), .int .u64 (q.g 4 : Int), .int .u64 (q.g 5 : Int)] 25))
  obtain ⟨x0, x1, x2, x3, x4, x5, x6, x7⟩ := gp_cells X6
  obtain ⟨y0, y1, y2, y3, y4, y5, y6, y7⟩ := gp_cells Y6
  go_wp2
  go_ret
  exact ⟨rfl, B6.out⟩
theorem puts_law (w : World) (p : Gp) (no : Int) (hno : (Lit.int .i64 no).wf = true) (he : Env w) :
    Calls Tryd.prog 3 #[(.agg #[.int .i64 p.no, .int .u64 (p.v : Int), .int .u64 (p.g 0 : Int), .int .u64 (p.g 1 : Int), .int .u64 (p.g 2 : Int), .int .u64 (p.g 3 : Int), .int .u64 (p.g 4 : Int), .int .u64 (p.g 5 : Int)]), .int .i64 no] w fun e w' => e = .returned (.bool true) ∧ Below w.heap.size w w' := by
  by_cases h : MayBe p
  · by_cases hn : no = p.no
    · subst hn
      exact puts_ok p p.no w he h p 0 (way_own h) (by simp)
    · exact puts_ok p no w he h zp 31 (way_else h hn) (by simp [hn])
  · exact puts_no p no w he h
end Go.Proofs.YthclgehifomkhaaDoor.W

/-
  The walks of the statements on Put and on Follows and Names. No conditions.
-/
import Derived.Test.YtheflapmjopemaaDoorHdAwake
import Derived.Test.YtheflapmjopemaaDoorHdRget
import Derived.IntWalk
import Derived.Deep.QuietTactic
import Derived.BigQuiet
import Derived.Deep.RegionHeld3
namespace Go.Proofs.YtheflapmjopemaaDoor.W.Hd
open Go.RowKit Oc Gt
set_option linter.unusedVariables false
attribute [local go_sem ↓] Go.wp_at_zero Go.wp_at_succ

set_option maxRecDepth 100000 in
set_option maxHeartbeats 4000000 in
theorem puts_no (p : Hd) (w : World) (he : EnvH w) (h : ¬ MayBe p) :
    Calls Tryd.prog 3 #[(.agg #[.bool p.u, .int .i64 p.l, .int .u64 (p.g : Int), .int .u32 (p.s.toNat : Int), .int .u32 (p.r.toNat : Int)])] w fun e w' => e = .returned (.bool true) ∧ Below w.heap.size w w' := by
  have HE := Lib.hid he
  have HM := Lib.hid h
  clear he h
  go_enter Tryd.func3, Tryd.ntmps3
  go_wp2_with fail
  refine (hdput_no p _ HM.out).mono ?_; rintro e w1 ⟨rfl, b1⟩
  have X1 := Lib.hid (kept_below (heap_alloc_new w (.cells #[.bool p.u, .int .i64 p.l, .int .u64 (p.g : Int), .int .u32 (p.s.toNat : Int), .int .u32 (p.r.toNat : Int)] 25)) b1)
  have B1 : Hid (Below w.heap.size w w1) := bthen (balloc _ _) b1
  clear b1
  go_wp2_with ((with_reducible apply L_loadHd); exact rfl; exact X1.out; exact rfl)
  refine (rhput_no p _ HM.out).mono ?_; rintro e w2 ⟨rfl, b2⟩
  have B2 : Hid (Below w.heap.size w w2) := bthen B1.out b2
  clear b2
  go_wp2_with fail
  refine (hget_any none 0 0 [] zr 30 _ (by omega) (by omega) (Oct.nil _ _) (HE.out.below B2.out) way_nil).mono ?_; rintro e w3 ⟨rfl, b3⟩
  have B3 : Hid (Below w.heap.size w (w3.alloc (.cells #[.bool zr.u, .int .i64 zr.l, .int .u64 (zr.g : Int), .int .u32 (zr.s.toNat : Int), .int .u32 (zr.r.toNat : Int)] 25))) := bthen (bthen B2.out b3) (balloc _ _)
  clear b3
  have cv1 : ∀ y : World, (convert 26 9 (.slice none 0 0)).run Tryd.prog y = .ok (.string (bstr [])) y := fun y => (Oct.nil y none).conv bt Tryd.underlying9 0
  have c1 := cv1 (w3.alloc (.cells #[.bool zr.u, .int .i64 zr.l, .int .u64 (zr.g : Int), .int .u32 (zr.s.toNat : Int), .int .u32 (zr.r.toNat : Int)] 25))
  clear cv1
  have hb : ((bstr []).toList == (bstr []).toList) = true := bstr_eq [] [] true rfl
  go_wp2_with fail
  refine (awake_any _ (HE.out.below B3.out)).mono ?_; rintro e w4 ⟨rfl, b4⟩
  have B4 : Hid (Below w.heap.size w w4) := bthen B3.out b4
  clear b4
  go_wp2
  go_ret
  exact ⟨rfl, B4.out⟩

set_option maxRecDepth 100000 in
set_option maxHeartbeats 4000000 in
theorem puts_ok (p : Hd) (w : World) (he : EnvH w) (h : MayBe p) :
    Calls Tryd.prog 3 #[(.agg #[.bool p.u, .int .i64 p.l, .int .u64 (p.g : Int), .int .u32 (p.s.toNat : Int), .int .u32 (p.r.toNat : Int)])] w fun e w' => e = .returned (.bool true) ∧ Below w.heap.size w w' := by
  have HE := Lib.hid he
  have HM := Lib.hid h
  clear he h
  obtain ⟨ss, hss⟩ : ∃ ss, sect p = ss := ⟨_, rfl⟩
  have HS := Lib.hid hss
  have HL : Hid (ss.length = 64) := by show _ = _; rw [← hss]; exact sect_length p
  have hb := bstr_eq ss ss true (by simp)
  clear hss
  go_enter Tryd.func3, Tryd.ntmps3
  go_wp2_with fail
  refine (hdput_ok p _ HM.out (HE.out.alloc _)).mono ?_; rintro e w1 ⟨v1, rfl, o1, b1⟩
  rw [HS.out] at o1
  obtain ⟨A1, c1, rfl, l1, s1⟩ := o1.form HL.out
  have S1 := Lib.hid s1
  have X1 := Lib.hid (kept_below (heap_alloc_new w (.cells #[.bool p.u, .int .i64 p.l, .int .u64 (p.g : Int), .int .u32 (p.s.toNat : Int), .int .u32 (p.r.toNat : Int)] 25)) b1)
  have B1 : Hid (Below w.heap.size w w1) := bthen (balloc _ _) b1
  clear b1 s1 o1
  go_wp2_with ((with_reducible apply L_loadHd); exact rfl; exact X1.out; exact rfl)
  refine (rhput_ok p _ HM.out).mono ?_; rintro e w2 ⟨v2, rfl, o2, b2⟩
  rw [HS.out] at o2
  obtain ⟨A2, c2, rfl, l2, s2⟩ := o2.form HL.out
  have S2 := Lib.hid (S1.out.below b2)
  have T2 := Lib.hid s2
  have X2 := Lib.hid (kept_below X1.out b2)
  have B2 : Hid (Below w.heap.size w w2) := bthen B1.out b2
  clear b2 o2 s2
  go_wp2_with fail
  refine (hget_any A1 64 c1 ss p 0 _ (by omega) l1 S2.out (HE.out.below B2.out) (by rw [← HS.out]; exact way_own HM.out)).mono ?_; rintro e w3 ⟨rfl, b3⟩
  have X3 := Lib.hid (kept_below (kept_below X2.out b3) (balloc w3 (.cells #[.bool p.u, .int .i64 p.l, .int .u64 (p.g : Int), .int .u32 (p.s.toNat : Int), .int .u32 (p.r.toNat : Int)] 25)))
  have Y3 := Lib.hid (heap_alloc_new w3 (.cells #[.bool p.u, .int .i64 p.l, .int .u64 (p.g : Int), .int .u32 (p.s.toNat : Int), .int .u32 (p.r.toNat : Int)] 25))
  have B3 : Hid (Below w.heap.size w (w3.alloc (.cells #[.bool p.u, .int .i64 p.l, .int .u64 (p.g : Int), .int .u32 (p.s.toNat : Int), .int .u32 (p.r.toNat : Int)] 25))) := bthen (bthen B2.out b3) (balloc _ _)
  have cv1 := ((S2.out.below b3).alloc (.cells #[.bool p.u, .int .i64 p.l, .int .u64 (p.g : Int), .int .u32 (p.s.toNat : Int), .int .u32 (p.r.toNat : Int)] 25)).conv bt Tryd.underlying9 c1
  have cv2 := ((T2.out.below b3).alloc (.cells #[.bool p.u, .int .i64 p.l, .int .u64 (p.g : Int), .int .u32 (p.s.toNat : Int), .int .u32 (p.r.toNat : Int)] 25)).conv bt Tryd.underlying9 c2
  clear b3
  obtain ⟨x0, x1, x2, x3, x4⟩ := hd_cells X3.out
  obtain ⟨y0, y1, y2, y3, y4⟩ := hd_cells Y3.out
  go_wp2_with fail
  refine (awake_any _ (HE.out.below B3.out)).mono ?_; rintro e w4 ⟨rfl, b4⟩
  have B4 : Hid (Below w.heap.size w w4) := bthen B3.out b4
  clear b4
  go_wp2
  go_ret
  exact ⟨rfl, B4.out⟩
theorem puts_law (w : World) (p : Hd) (he : EnvH w) : Calls Tryd.prog 3 #[(.agg #[.bool p.u, .int .i64 p.l, .int .u64 (p.g : Int), .int .u32 (p.s.toNat : Int), .int .u32 (p.r.toNat : Int)])] w fun e w' => e = .returned (.bool true) ∧ Below w.heap.size w w' := by
  by_cases h : MayBe p
  · exact puts_ok p w he h
  · exact puts_no p w he h
end Go.Proofs.YtheflapmjopemaaDoor.W.Hd

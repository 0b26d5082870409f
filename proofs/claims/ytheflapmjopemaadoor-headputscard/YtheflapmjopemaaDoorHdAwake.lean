/-
  The page's example holds. No conditions.
-/
import Derived.Test.YtheflapmjopemaaDoorHdGet
namespace Go.Proofs.YtheflapmjopemaaDoor.W.Hd
open Go.RowKit Oc
set_option linter.unusedVariables false

/-- the example's head -/
def fh (z : UInt32) : Hd := ⟨true, 7, 2, z, 5⟩
theorem fh_may (z : UInt32) : MayBe (fh z) := .inl ⟨rfl, by show 0 ≤ (7 : Int) ∧ (7 : Int) < 65536; omega, by show isG 2; unfold isG; omega⟩
/-- its sum -/
theorem nine_some : ∃ z : UInt32, sum [9] = z.toNat ∧ ¬ z.toNat = 0 := by
  refine ⟨UInt32.ofNat (sum [9]), ?_, ?_⟩
  · rw [UInt32.toNat_ofNat_of_lt' (by show _ < 2 ^ 32; exact sum_lt _)]
  · rw [UInt32.toNat_ofNat_of_lt' (by show _ < 2 ^ 32; exact sum_lt _)]
    decide +kernel
theorem none_sum : sum [] = 0 := by decide +kernel
theorem aw_of {z : UInt32} (hz : sum [9] = z.toNat) (y : World) (he : Env y) : Calls Tryd.prog 13 #[.int .i64 7, .int .u64 2, .slice (some ⟨y.heap.size, 0, none⟩) 1 1, .int .u32 5] (y.alloc (.cells #[.int .u8 9] 5)) fun e w' => e = .returned (.agg #[.bool true, .int .i64 7, .int .u64 2, .int .u32 (z.toNat : Int), .int .u32 5]) ∧ Below y.heap.size y w' :=
  (of_any _ 1 1 [9] 7 2 5 z.toNat _ (by omega) (Oct.one y 5 9 9 rfl) (he.alloc _) hz).mono fun e w' h => ⟨h.1, bthen (balloc _ _) h.2⟩
theorem aw_put (z : UInt32) (w : World) (he : EnvH w) : Calls Tryd.prog 6 #[.agg #[.bool true, .int .i64 7, .int .u64 2, .int .u32 (z.toNat : Int), .int .u32 5]] w fun e w' => ∃ v, e = .returned (.tuple #[v, .int .i64 0]) ∧ Own w' 5 w.heap.size v (sect (fh z)) ∧ Below w.heap.size w w' := hdput_ok (fh z) w (fh_may z) he
theorem aw_get (z : UInt32) (A : Option Addr) (c : Nat) (w : World) (hc : 64 ≤ c) (ho : Oct w A 64 (sect (fh z))) (he : EnvH w) : Calls Tryd.prog 8 #[.slice A 64 c] w fun e w' => e = .returned (.tuple #[.agg #[.bool true, .int .i64 7, .int .u64 2, .int .u32 (z.toNat : Int), .int .u32 5], .int .i64 0]) ∧ Below w.heap.size w w' := hget_any A 64 c (sect (fh z)) (fh z) 0 w (by omega) hc ho he (way_own (fh_may z))
theorem aw_m7 {z : UInt32} (hz : sum [9] = z.toNat) (y : World) (b : Nat) (hb : b = y.heap.size) (he : Env y) : Calls Tryd.prog 16 #[.agg #[.bool true, .int .i64 7, .int .u64 2, .int .u32 (z.toNat : Int), .int .u32 5], .int .i64 7, .slice (some ⟨b, 0, none⟩) 1 1] (y.alloc (.cells #[.int .u8 9] 5)) fun e w' => e = .returned (.int .i64 0) ∧ Below y.heap.size y w' := by
  subst hb
  exact (matches_any _ 1 1 [9] true 7 2 z.toNat 5 7 0 z.toNat _ (by omega) (Oct.one y 5 9 9 rfl) (he.alloc _) hz (.inr (.inr (.inr ⟨rfl, rfl, rfl, rfl⟩)))).mono fun e w' h => ⟨h.1, bthen (balloc _ _) h.2⟩
theorem aw_m8 {z : UInt32} (hz : sum [9] = z.toNat) (y : World) (he : Env y) : Calls Tryd.prog 16 #[.agg #[.bool true, .int .i64 7, .int .u64 2, .int .u32 (z.toNat : Int), .int .u32 5], .int .i64 8, .slice (some ⟨y.heap.size, 0, none⟩) 1 1] (y.alloc (.cells #[.int .u8 9] 5)) fun e w' => e = .returned (.int .i64 4) ∧ Below y.heap.size y w' :=
  (matches_any _ 1 1 [9] true 7 2 z.toNat 5 8 4 z.toNat _ (by omega) (Oct.one y 5 9 9 rfl) (he.alloc _) hz (.inr (.inl ⟨rfl, by decide, rfl⟩))).mono fun e w' h => ⟨h.1, bthen (balloc _ _) h.2⟩
theorem aw_mn {z : UInt32} (hz : ¬ z.toNat = 0) (y : World) (he : Env y) : Calls Tryd.prog 16 #[.agg #[.bool true, .int .i64 7, .int .u64 2, .int .u32 (z.toNat : Int), .int .u32 5], .int .i64 7, .slice none 0 0] y fun e w' => e = .returned (.int .i64 40) ∧ Below y.heap.size y w' :=
  matches_any _ 0 0 [] true 7 2 z.toNat 5 7 40 0 _ (by omega) (Oct.nil _ _) he none_sum (.inr (.inr (.inl ⟨rfl, rfl, by omega, rfl⟩)))
theorem fld4 (r : Int) (y : World) : (Instr.field 25 (.agg #[.bool false, .int .i64 0, .int .u64 0, .int .u32 0, .int .u32 r]) 4).run Tryd.prog y = .ok (.int .u32 r) y := by kernel_rfl

set_option maxRecDepth 100000 in
set_option maxHeartbeats 4000000 in
theorem awake_any (w : World) (he : EnvH w) : Calls Tryd.prog 9 #[] w fun e w' => e = .returned (.bool true) ∧ Below w.heap.size w w' := by
  have HE := Lib.hid he
  obtain ⟨z, hz, h0⟩ := nine_some
  have HZ := Lib.hid hz
  have H0 := Lib.hid h0
  clear he hz h0
  go_enter Tryd.func9, Tryd.ntmps9
  go_wp2_with fail
  refine (aw_of HZ.out _ HE.out.1).mono ?_; rintro e w1 ⟨rfl, b1⟩
  obtain ⟨Z, hZ⟩ : ∃ Z : Int, (z.toNat : Int) = Z := ⟨_, rfl⟩
  have PU := Lib.hid (aw_put z)
  have GE := Lib.hid (aw_get z)
  have M7 := Lib.hid (aw_m7 HZ.out)
  have M8 := Lib.hid (aw_m8 HZ.out)
  have MN := Lib.hid (aw_mn H0.out)
  rw [hZ] at PU GE M7 M8 MN ⊢
  clear hZ
  have X1 := Lib.hid (heap_alloc_new w1 (.cells #[.bool true, .int .i64 7, .int .u64 2, .int .u32 Z, .int .u32 5] 25))
  have B1 : Hid (Below w.heap.size w (w1.alloc (.cells #[.bool true, .int .i64 7, .int .u64 2, .int .u32 Z, .int .u32 5] 25))) := bthen b1 (balloc _ _)
  have hlt1 : w.heap.size ≤ w1.heap.size := b1.size
  clear b1
  go_wp2_with fail
  refine (PU.out _ (HE.out.below B1.out)).mono ?_; rintro e w2 ⟨v2, rfl, o2, b2⟩
  obtain ⟨A2, c2, rfl, l2, s2⟩ := o2.form (sect_length (fh z))
  have S2 := Lib.hid s2
  have X2 := Lib.hid (kept_below X1.out b2)
  have B2 : Hid (Below w.heap.size w w2) := bthen B1.out b2
  clear b2 s2 o2
  go_wp2_with fail
  refine (GE.out _ _ _ l2 S2.out (HE.out.below B2.out)).mono ?_; rintro e w3 ⟨rfl, b3⟩
  have X3 := Lib.hid (kept_below (kept_below X2.out b3) (balloc w3 (.cells #[.bool true, .int .i64 7, .int .u64 2, .int .u32 Z, .int .u32 5] 25)))
  have Y3 := Lib.hid (heap_alloc_new w3 (.cells #[.bool true, .int .i64 7, .int .u64 2, .int .u32 Z, .int .u32 5] 25))
  have B3 : Hid (Below w.heap.size w (w3.alloc (.cells #[.bool true, .int .i64 7, .int .u64 2, .int .u32 Z, .int .u32 5] 25))) := bthen (bthen B2.out b3) (balloc _ _)
  obtain ⟨x0, x1, x2, x3, x4⟩ := cells5 X3.out
  obtain ⟨y0, y1, y2, y3, y4⟩ := cells5 Y3.out
  clear b3
  go_wp2_with fail
  refine (M7.out _ _ (by simp) (HE.out.below B3.out).1).mono ?_; rintro e w4 ⟨rfl, b4⟩
  have X4 := Lib.hid (kept_below X3.out b4)
  have B4 : Hid (Below w.heap.size w w4) := bthen B3.out b4
  clear b4 x0 x1 x2 x3 x4 y0 y1 y2 y3 y4
  obtain ⟨x0, x1, x2, x3, x4⟩ := cells5 X4.out
  go_wp2_with fail
  refine (M8.out _ (HE.out.below B4.out).1).mono ?_; rintro e w5 ⟨rfl, b5⟩
  have X5 := Lib.hid (kept_below X4.out b5)
  have B5 : Hid (Below w.heap.size w w5) := bthen B4.out b5
  clear b5 x0 x1 x2 x3 x4
  obtain ⟨x0, x1, x2, x3, x4⟩ := cells5 X5.out
  go_wp2_with fail
  refine (MN.out _ (HE.out.below B5.out).1).mono ?_; rintro e w6 ⟨rfl, b6⟩
  have B6 : Hid (Below w.heap.size w w6) := bthen B5.out b6
  clear b6 x0 x1 x2 x3 x4
  go_wp2_with fail
  refine (free_any 5 _).mono ?_; rintro e w7 ⟨rfl, b7⟩
  have B7 : Hid (Below w.heap.size w w7) := bthen B6.out b7
  clear b7
  have f4 := fld4 5 w7
  go_wp2
  go_ret
  exact ⟨rfl, B7.out⟩
end Go.Proofs.YtheflapmjopemaaDoor.W.Hd

/-
  The page's examples hold. No conditions.
-/
import Derived.Test.YthclgehifomkhaaDoorGpPut
namespace Go.Proofs.YthclgehifomkhaaDoor.W
open Go.RowKit Oc
set_option linter.unusedVariables false
attribute [local go_sem] eq6

/-- the example's two pages -/
def fp : Gp := ⟨3, 1, fun _ => 1⟩
def fq : Gp := ⟨3, 2, fun i => if i = 5 then 9 else 1⟩
theorem fp_may : MayBe fp := ⟨by decide, by decide, fun i _ => by show isG 1; decide⟩
theorem fq_may : MayBe fq := ⟨by decide, by decide, fun i _ => by
  show isG (if i = 5 then 9 else 1)
  split <;> decide⟩

set_option maxRecDepth 100000 in
set_option maxHeartbeats 2000000 in
theorem awake_any (w : World) (he : Env w) : Calls Tryd.prog 8 #[] w fun e w' => e = .returned (.bool true) ∧ Below w.heap.size w w' := by
  have HE := Lib.hid he
  clear he
  go_enter Tryd.func8, Tryd.ntmps8
  go_wp2_with fail
  refine (fresh_any 3 _).mono ?_; rintro e w1 ⟨rfl, b1⟩
  have B1 := Lib.hid b1
  clear b1
  go_wp2_with fail
  have Xa := Lib.hid (heap_alloc2_old w1 (.cells #[.int .i64 3, .int .u64 1, .int .u64 1, .int .u64 1, .int .u64 1, .int .u64 1, .int .u64 1, .int .u64 1] 25) (.cells #[.int .i64 3, .int .u64 2, .int .u64 1, .int .u64 1, .int .u64 1, .int .u64 1, .int .u64 1, .int .u64 9] 25))
  have Ya := Lib.hid (heap_at_next w1 (.cells #[.int .i64 3, .int .u64 1, .int .u64 1, .int .u64 1, .int .u64 1, .int .u64 1, .int .u64 1, .int .u64 1] 25) (.cells #[.int .i64 3, .int .u64 2, .int .u64 1, .int .u64 1, .int .u64 1, .int .u64 1, .int .u64 1, .int .u64 9] 25))
  have Ba : Hid (Below w.heap.size w ((w1.alloc (.cells #[.int .i64 3, .int .u64 1, .int .u64 1, .int .u64 1, .int .u64 1, .int .u64 1, .int .u64 1, .int .u64 1] 25)).alloc (.cells #[.int .i64 3, .int .u64 2, .int .u64 1, .int .u64 1, .int .u64 1, .int .u64 1, .int .u64 1, .int .u64 9] 25))) := bthen (bthen B1.out (balloc _ _)) (balloc _ _)
  refine (gput_ok fp _ fp_may (HE.out.below Ba.out)).mono ?_; rintro e w2 ⟨v2, rfl, o2, b2⟩
  obtain ⟨A2, c2, rfl, l2, s2⟩ := o2.form (sect_length fp)
  have S2 := Lib.hid s2
  have X2 := Lib.hid (kept_below Xa.out b2)
  have Y2 := Lib.hid (kept_below Ya.out b2)
  have B2 : Hid (Below w.heap.size w w2) := bthen Ba.out b2
  clear b2 o2 s2
  go_wp2_with ((with_reducible apply L_loadGp); exact rfl; exact Y2.out; exact rfl)
  refine (gput_ok fq _ fq_may (HE.out.below B2.out)).mono ?_; rintro e w3 ⟨v3, rfl, o3, b3⟩
  obtain ⟨A3, c3, rfl, l3, s3⟩ := o3.form (sect_length fq)
  have S3 := Lib.hid s3
  have T3 := Lib.hid (S2.out.below b3)
  have X3 := Lib.hid (kept_below X2.out b3)
  have Y3 := Lib.hid (kept_below Y2.out b3)
  have B3 : Hid (Below w.heap.size w w3) := bthen B2.out b3
  clear b3 o3 s3
  go_wp2_with fail
  refine (newer_any _ _ 64 _ 64 _ (sect fp) (sect fq) 3 fp fq 0 0 fq 1 true _ (by omega) l2 (by omega) l3 T3.out S3.out (HE.out.below B3.out) (way_own fp_may) (way_own fq_may) (.inr (.inr (.inl ⟨rfl, rfl, by decide, rfl, rfl, rfl⟩)))).mono ?_; rintro e w4 ⟨rfl, b4⟩
  have X4 := Lib.hid (kept_below X3.out b4)
  have Y4 := Lib.hid (kept_below Y3.out b4)
  have B4 : Hid (Below w.heap.size w w4) := bthen B3.out b4
  clear b4
  rw [show ((.agg #[.int .i64 fq.no, .int .u64 (fq.v : Int), .int .u64 (fq.g 0 : Int), .int .u64 (fq.g 1 : Int), .int .u64 (fq.g 2 : Int), .int .u64 (fq.g 3 : Int), .int .u64 (fq.g 4 : Int), .int .u64 (fq.g 5 : Int)]) : Value) = .agg #[.int .i64 3, .int .u64 2, .int .u64 1, .int .u64 1, .int .u64 1, .int .u64 1, .int .u64 1, .int .u64 9] from rfl]
  have X5 := kept_below X4.out (balloc w4 (.cells #[.int .i64 3, .int .u64 2, .int .u64 1, .int .u64 1, .int .u64 1, .int .u64 1, .int .u64 1, .int .u64 9] 25))
  have Y5 := kept_below Y4.out (balloc w4 (.cells #[.int .i64 3, .int .u64 2, .int .u64 1, .int .u64 1, .int .u64 1, .int .u64 1, .int .u64 1, .int .u64 9] 25))
  have B5 : Hid (Below w.heap.size w (w4.alloc (.cells #[.int .i64 3, .int .u64 2, .int .u64 1, .int .u64 1, .int .u64 1, .int .u64 1, .int .u64 1, .int .u64 9] 25))) := bthen B4.out (balloc _ _)
  obtain ⟨x0, x1, x2, x3, x4, x5, x6, x7⟩ := gp_cells (p := fp) X5
  obtain ⟨y0, y1, y2, y3, y4, y5, y6, y7⟩ := gp_cells (p := fq) Y5
  change _ = some (Value.int .i64 3) at x0 y0
  change _ = some (Value.int .u64 1) at x1 x2 x3 x4 x5 x6 x7 y2 y3 y4 y5 y6
  change _ = some (Value.int .u64 2) at y1
  change _ = some (Value.int .u64 9) at y7
  go_wp2
  go_ret
  exact ⟨rfl, B5.out⟩
end Go.Proofs.YthclgehifomkhaaDoor.W

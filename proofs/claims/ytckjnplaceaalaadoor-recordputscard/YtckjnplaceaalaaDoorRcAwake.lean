/-
  The page's example holds. No conditions.
-/
import Derived.Test.YtckjnplaceaalaaDoorRcGet
import Derived.Test.YtckjnplaceaalaaDoorRcNames
namespace Go.Proofs.YtckjnplaceaalaaDoor.W
open Go.RowKit Oc
set_option linter.unusedVariables false

/-- the example's record -/
def fr : Rc := ⟨4, 2, 3, 9, 6⟩
theorem fr_may : MayBe fr := ⟨by decide, by decide, by decide, by decide, by decide⟩
theorem fr_val : ((.agg #[.int .u64 (fr.q : Int), .int .u64 (fr.h : Int), .int .i64 fr.x, .int .u64 (fr.g : Int), .int .u8 (fr.m.toNat : Int)]) : Value) = .agg #[.int .u64 4, .int .u64 2, .int .i64 3, .int .u64 9, .int .u8 6] := rfl
theorem aw_put (w : World) (he : Env w) : Calls Tryd.prog 6 #[.agg #[.int .u64 4, .int .u64 2, .int .i64 3, .int .u64 9, .int .u8 6]] w fun e w' => ∃ v, e = .returned (.tuple #[v, .int .i64 0]) ∧ Own w' 5 w.heap.size v (sect fr) ∧ Below w.heap.size w w' := rcput_ok fr w fr_may he
theorem aw_get (A : Option Addr) (c : Nat) (w : World) (hc : 64 ≤ c) (ho : Oct w A 64 (sect fr)) (he : Env w) : Calls Tryd.prog 8 #[.slice A 64 c] w fun e w' => e = .returned (.tuple #[.agg #[.int .u64 4, .int .u64 2, .int .i64 3, .int .u64 9, .int .u8 6], .int .i64 0]) ∧ Below w.heap.size w w' := rcget_any A 64 c (sect fr) fr 0 w (by omega) hc ho he (way_own fr_may)
theorem aw_name1 (w : World) : Calls Tryd.prog 14 #[.agg #[.int .u64 4, .int .u64 2, .int .i64 3, .int .u64 9, .int .u8 6], .int .i64 3, .int .i64 1] w fun e w' => e = .returned (.bool true) ∧ Below w.heap.size w w' := names_any fr 3 1 true w ⟨fun _ => ⟨rfl, by decide, by decide, by decide⟩, fun _ => rfl⟩
theorem aw_name0 (w : World) : Calls Tryd.prog 14 #[.agg #[.int .u64 4, .int .u64 2, .int .i64 3, .int .u64 9, .int .u8 6], .int .i64 3, .int .i64 0] w fun e w' => e = .returned (.bool false) ∧ Below w.heap.size w w' := names_any fr 3 0 false w ⟨fun h => (by cases h), fun h => absurd h.2.2.2 (by decide)⟩
theorem aw_follow (w : World) : Calls Tryd.prog 13 #[.agg #[.int .u64 4, .int .u64 2, .int .i64 3, .int .u64 9, .int .u8 6], .int .u64 4, .int .u64 1] w fun e w' => e = .returned (.bool true) ∧ Below w.heap.size w w' := follows_any fr 4 1 true w rfl

set_option maxRecDepth 100000 in
set_option maxHeartbeats 2000000 in
theorem awake_any (w : World) (he : Env w) : Calls Tryd.prog 9 #[] w fun e w' => e = .returned (.bool true) ∧ Below w.heap.size w w' := by
  have HE := Lib.hid he
  clear he
  go_enter Tryd.func9, Tryd.ntmps9
  go_wp2_with fail
  have X0 := Lib.hid (heap_alloc_new w (.cells #[.int .u64 4, .int .u64 2, .int .i64 3, .int .u64 9, .int .u8 6] 24))
  have B0 : Hid (Below w.heap.size w (w.alloc (.cells #[.int .u64 4, .int .u64 2, .int .i64 3, .int .u64 9, .int .u8 6] 24))) := balloc _ _
  refine (aw_put _ (HE.out.below B0.out)).mono ?_; rintro e w1 ⟨v1, rfl, o1, b1⟩
  obtain ⟨A1, c1, rfl, l1, s1⟩ := o1.form (sect_length fr)
  have S1 := Lib.hid s1
  have X1 := Lib.hid (kept_below X0.out b1)
  have B1 : Hid (Below w.heap.size w w1) := bthen B0.out b1
  clear b1 o1 s1
  go_wp2_with fail
  refine (aw_get A1 c1 _ l1 S1.out (HE.out.below B1.out)).mono ?_; rintro e w2 ⟨rfl, b2⟩
  have X2 := Lib.hid (kept_below (kept_below X1.out b2) (balloc w2 (.cells #[.int .u64 4, .int .u64 2, .int .i64 3, .int .u64 9, .int .u8 6] 24)))
  have Y2 := Lib.hid (heap_alloc_new w2 (.cells #[.int .u64 4, .int .u64 2, .int .i64 3, .int .u64 9, .int .u8 6] 24))
  have B2 : Hid (Below w.heap.size w (w2.alloc (.cells #[.int .u64 4, .int .u64 2, .int .i64 3, .int .u64 9, .int .u8 6] 24))) := bthen (bthen B1.out b2) (balloc _ _)
  clear b2
  obtain ⟨x0, x1, x2, x3, x4⟩ := rc_cells (p := fr) X2.out
  obtain ⟨y0, y1, y2, y3, y4⟩ := rc_cells (p := fr) Y2.out
  change _ = some (Value.int .u64 4) at x0 y0
  change _ = some (Value.int .u64 2) at x1 y1
  change _ = some (Value.int .i64 3) at x2 y2
  change _ = some (Value.int .u64 9) at x3 y3
  change _ = some (Value.int .u8 6) at x4 y4
  go_wp2_with fail
  refine (aw_name1 _).mono ?_; rintro e w3 ⟨rfl, b3⟩
  have X3 := Lib.hid (kept_below X2.out b3)
  have B3 : Hid (Below w.heap.size w w3) := bthen B2.out b3
  clear b3 x0 x1 x2 x3 x4 y0 y1 y2 y3 y4
  obtain ⟨x0, x1, x2, x3, x4⟩ := rc_cells (p := fr) X3.out
  change _ = some (Value.int .u64 4) at x0
  change _ = some (Value.int .u64 2) at x1
  change _ = some (Value.int .i64 3) at x2
  change _ = some (Value.int .u64 9) at x3
  change _ = some (Value.int .u8 6) at x4
  go_wp2_with fail
  refine (aw_name0 _).mono ?_; rintro e w4 ⟨rfl, b4⟩
  have X4 := Lib.hid (kept_below X3.out b4)
  have B4 : Hid (Below w.heap.size w w4) := bthen B3.out b4
  clear b4 x0 x1 x2 x3 x4
  obtain ⟨x0, x1, x2, x3, x4⟩ := rc_cells (p := fr) X4.out
  change _ = some (Value.int .u64 4) at x0
  change _ = some (Value.int .u64 2) at x1
  change _ = some (Value.int .i64 3) at x2
  change _ = some (Value.int .u64 9) at x3
  change _ = some (Value.int .u8 6) at x4
  go_wp2_with fail
  refine (aw_follow _).mono ?_; rintro e w5 ⟨rfl, b5⟩
  have B5 : Hid (Below w.heap.size w w5) := bthen B4.out b5
  clear b5
  go_wp2
  go_ret
  exact ⟨rfl, B5.out⟩
end Go.Proofs.YtckjnplaceaalaaDoor.W

/-
  What the laws of ratio share: bounds of arguments; calls with a decided answer.
-/
import Derived.Test.YtbfbebcoaaoklaaRatioMore
namespace Go.Proofs.Ytbfbebcoaaoklaa.W
open Go.RowKit Flt

theorem bounds_u64 {n : Int} (h : (Lit.int .u64 n).wf = true) : 0 ≤ n ∧ n ≤ 18446744073709551615 := by
  have h1 : IntKind.u64.min = 0 := by decide
  have h2 : IntKind.u64.max = 18446744073709551615 := by decide
  simpa [Lit.wf, h1, h2] using h
theorem bounds_i64 {n : Int} (h : (Lit.int .i64 n).wf = true) : -9223372036854775808 ≤ n ∧ n ≤ 9223372036854775807 := by
  have h1 : IntKind.i64.min = -9223372036854775808 := by decide
  have h2 : IntKind.i64.max = 9223372036854775807 := by decide
  simpa [Lit.wf, h1, h2] using h

theorem same_yes {a b : Nat} (ha : a < 18446744073709551616) (hb : b < 18446744073709551616) (h : rk a = rk b) (w : World) :
    Calls Try.prog 12 #[.float .f64 a, .float .f64 b] w fun e w' => e = .returned (.bool true) ∧ w = w' := by
  have := same_any a b ha hb w; simpa only [h, decide_true] using this
theorem same_no {a b : Nat} (ha : a < 18446744073709551616) (hb : b < 18446744073709551616) (h : ¬ rk a = rk b) (w : World) :
    Calls Try.prog 12 #[.float .f64 a, .float .f64 b] w fun e w' => e = .returned (.bool false) ∧ w = w' := by
  have := same_any a b ha hb w; simpa only [h, decide_false] using this
theorem rsame_yes {a b : Nat} (ha : a < 18446744073709551616) (hb : b < 18446744073709551616) (h : rk a = rk b) (w : World) :
    Calls Try.prog 13 #[.float .f64 a, .float .f64 b] w fun e w' => e = .returned (.bool true) ∧ w = w' := by
  have := rsame_any a b ha hb w; simpa only [h, decide_true] using this
theorem rsame_no {a b : Nat} (ha : a < 18446744073709551616) (hb : b < 18446744073709551616) (h : ¬ rk a = rk b) (w : World) :
    Calls Try.prog 13 #[.float .f64 a, .float .f64 b] w fun e w' => e = .returned (.bool false) ∧ w = w' := by
  have := rsame_any a b ha hb w; simpa only [h, decide_false] using this

theorem lawf_at {n : Int} {x : Nat} (h : n.toNat = x) (w : World) :
    Calls Try.prog 9 #[.int .u64 n] w fun e w' => e = .returned (.float .f64 x) ∧ w = w' := by
  have := lawf_any n w; rwa [h] at this
end Go.Proofs.Ytbfbebcoaaoklaa.W

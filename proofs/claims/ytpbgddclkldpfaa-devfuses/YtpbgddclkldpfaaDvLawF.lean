/-
  What the frame of DevFuses asks of the walk. No conditions.
-/
import Derived.Test.YtpbgddclkldpfaaDvFuses
namespace Go.Proofs.Ytpbgddclkldpfaa.W
open Go.RowKit Oc Dm
set_option linter.unusedVariables false
theorem fuses_law (W : World) (a0 : Int) (w0 : (Lit.int .u8 a0).wf = true) (D : Option Addr) (n c : Nat) (L : Nat → ActV) (hl : n ≤ c) (hm : c ≤ maxLen) (h : Acts W D n L) :
    Calls Try.prog 5 #[.int .u8 a0, .slice D n c] W fun e w' => e = .returned (.bool true) ∧ Below W.heap.size W w' := by
  have w1 := w0
  simp [Lit.wf, IntKind.min, IntKind.max, IntKind.signed, IntKind.bits] at w1
  obtain ⟨x, rfl⟩ := Int.eq_ofNat_of_zero_le w1.1
  exact fuses_walk x (by omega) D n c L W h
end Go.Proofs.Ytpbgddclkldpfaa.W

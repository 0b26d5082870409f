/-
  What the statements of this layer open their inputs by: the library's table. No conditions.
-/
import Derived.Test.YtmeknghlhfpjnaaDoorRows
import Derived.Test.YtmeknghlhfpjnaaDoorBitMakes
import Derived.WalkKit
import Derived.ProofKit
import Derived.OpenShut
import Derived.ShutString
import Derived.ChangeOld
import Derived.Below
import Derived.Deep.DeepHandedRow
import Derived.Deep.DeepWitnessRowRef
import Derived.Lib.LaidTab
import Derived.MakeChecks
namespace Go.Proofs.YtmeknghlhfpjnaaDoor.W
open Go.ChangeShapes Go.WideShapes Go.ChangeAt Go.RowKit Bt Rw
set_option linter.unusedVariables false

theorem own : ownKnob Tryd.prog.godebug = none := by kernel_rfl
theorem laidOut : laidOutB Tryd.prog = true := by kernel_rfl

theorem gTab : Tryd.prog.globalNamed "math/bits.deBruijn64tab" = some 0 := by kernel_rfl
theorem gTabType : (Tryd.prog.globals[0]?).map (·.type) = some 59 := by kernel_rfl
theorem cellsU : Tryd.prog.cellsOf 5 = 1 := by kernel_rfl
theorem cellsT : Tryd.prog.cellsOf 59 = 64 := by kernel_rfl
theorem tabEq : (Rows.laid_math_bits_deBruijn64tab : DataW Unit) = Lib.tabData .u8 tabL := by kernel_rfl

/-- what the rows' list gives -/
theorem env_of {W : World} (h : laidMetH Tryd.prog [("math/bits.deBruijn64tab", Rows.laid_math_bits_deBruijn64tab)] W) : Env W := by
  have h1 : laidMet Tryd.prog [("math/bits.deBruijn64tab", Rows.laid_math_bits_deBruijn64tab)] W := by
    have e := MakeChecks.laidMetH_plain Tryd.prog [("math/bits.deBruijn64tab", Rows.laid_math_bits_deBruijn64tab)] W (by kernel_rfl)
    rw [e] at h; exact h
  rw [tabEq] at h1
  have hT := Lib.tabIs_of_head gTab gTabType Tryd.underlying59 Tryd.underlying5 cellsU cellsT h1
  unfold Lib.TabIs World.var? at hT
  rw [gTab] at hT
  simp only [Option.bind_some] at hT
  split at hT
  · rename_i cs t fr hh
    injection hT with hT
    subst hT
    exact ⟨t, fr, hh⟩
  · cases hT

def put (c : Array Value) : Obj → Obj
  | .cells _ t frozen => .cells c t frozen
  | o => o
/-- a world for the witness: the settled one, the table holding what its initialiser lays -/
noncomputable def laidWorld (os : Os) : World :=
  let w0 := World.holding Tryd.prog os ⟨#[], #[], []⟩
  { w0 with heap := w0.heap.modify 0 (put tabArr) }
end Go.Proofs.YtmeknghlhfpjnaaDoor.W

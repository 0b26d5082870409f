/-
  What the frame of ListMakes asks of the walk. No conditions.
-/
import Derived.Test.YtngfhcapjonkcaaLsMakes
namespace Go.Proofs.Ytngfhcapjonkcaa.W
open Go.RowKit Rw Ls
set_option linter.unusedVariables false
theorem makes_law (W : World) (a0 : Int) (w0 : (Lit.int .i64 a0).wf = true) (a1 : Int) (w1 : (Lit.int .i64 a1).wf = true) (a2 : Int) (w2 : (Lit.int .i64 a2).wf = true) :
    Calls Try.prog 4 #[.int .i64 a0, .int .i64 a1, .int .i64 a2] W fun e w' => e = .returned (.bool true) ∧ Below W.heap.size W w' := makes_walk a0 a1 a2 W
end Go.Proofs.Ytngfhcapjonkcaa.W

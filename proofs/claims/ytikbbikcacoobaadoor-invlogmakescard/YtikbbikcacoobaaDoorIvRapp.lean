/-
  The document's Append. No conditions.
-/
import Derived.Test.YtikbbikcacoobaaDoorIvRef
namespace Go.Proofs.YtikbbikcacoobaaDoor.Pd.Iv
open Go.RowKit Oc Dm W Dw Sr
set_option linter.unusedVariables false
set_option maxRecDepth 100000
attribute [local go_sem ↓] Go.wp_at_zero Go.wp_at_succ

section
variable {w w' : World} {G : Nat → Prop} {E q n N la lg T B : Nat} {m : Vs} {p : Pn.Pl} {g : Lg}
end
end Go.Proofs.YtikbbikcacoobaaDoor.Pd.Iv

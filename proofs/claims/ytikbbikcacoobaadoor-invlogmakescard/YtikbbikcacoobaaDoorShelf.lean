/-
  Nothing of the library is laid at this seat: no function of it is called here. No conditions.
-/
import Derived.Test.YtikbbikcacoobaaDoorProg
namespace Go.Proofs.YtikbbikcacoobaaDoor
end Go.Proofs.YtikbbikcacoobaaDoor

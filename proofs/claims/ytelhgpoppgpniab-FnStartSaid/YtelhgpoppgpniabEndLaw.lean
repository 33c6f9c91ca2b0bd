/-
  The laws' own helpers on slices of ends.
-/
import Derived.Test.YtelhgpoppgpniabStructs
import Derived.Test.YtelhgpoppgpniabIntLaw
namespace Go.Proofs.Ytelhgpoppgpniab
open Go.RowKit
set_option linter.unusedVariables false
set_option maxRecDepth 100000
end Go.Proofs.Ytelhgpoppgpniab

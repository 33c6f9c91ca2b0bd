/-
  The laws' own helpers on slices of ends.
-/
import Derived.Test.YtgocfpdodbhcaaaStructs
import Derived.Test.YtgocfpdodbhcaaaIntLaw
namespace Go.Proofs.Ytgocfpdodbhcaaa
open Go.RowKit
set_option linter.unusedVariables false
set_option maxRecDepth 100000
end Go.Proofs.Ytgocfpdodbhcaaa

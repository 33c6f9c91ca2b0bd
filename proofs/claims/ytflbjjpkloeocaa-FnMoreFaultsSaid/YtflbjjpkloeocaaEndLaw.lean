/-
  The laws' own helpers on slices of ends.
-/
import Derived.Test.YtflbjjpkloeocaaStructs
import Derived.Test.YtflbjjpkloeocaaIntLaw
namespace Go.Proofs.Ytflbjjpkloeocaa
open Go.RowKit
set_option linter.unusedVariables false
set_option maxRecDepth 100000
end Go.Proofs.Ytflbjjpkloeocaa

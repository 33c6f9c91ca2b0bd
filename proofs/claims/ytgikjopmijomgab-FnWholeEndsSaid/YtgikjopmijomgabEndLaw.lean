/-
  The laws' own helpers on slices of ends.
-/
import Derived.Test.YtgikjopmijomgabStructs
import Derived.Test.YtgikjopmijomgabIntLaw
namespace Go.Proofs.Ytgikjopmijomgab
open Go.RowKit
set_option linter.unusedVariables false
set_option maxRecDepth 100000
end Go.Proofs.Ytgikjopmijomgab

/-
  The laws' own helpers on structs of one slice of int64 (Rows).
-/
import Derived.Test.YtglldmfhjipacaaIntLaw
import Derived.Test.YtglldmfhjipacaaL2Pat
import Derived.Test.YtglldmfhjipacaaL4New
namespace Go.Proofs.Ytglldmfhjipacaa
open Go.RowKit
set_option linter.unusedVariables false
set_option maxRecDepth 100000
end Go.Proofs.Ytglldmfhjipacaa

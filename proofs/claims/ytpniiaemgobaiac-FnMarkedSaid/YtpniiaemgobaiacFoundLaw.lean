/-
  The laws' own helpers on slices of what was found (XRecLaw with the names turned).
-/
import Derived.Test.YtpniiaemgobaiacStructs
import Derived.Test.YtpniiaemgobaiacIntLaw
namespace Go.Proofs.Ytpniiaemgobaiac
open Go.RowKit
set_option linter.unusedVariables false
set_option maxRecDepth 100000
end Go.Proofs.Ytpniiaemgobaiac

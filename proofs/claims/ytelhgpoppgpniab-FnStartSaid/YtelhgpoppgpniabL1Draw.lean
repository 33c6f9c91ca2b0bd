/-
  Chapter 1: what the drawers of chapter 1 hand over, whatever they read.
-/
import Derived.Test.YtelhgpoppgpniabRd
import Derived.Test.YtelhgpoppgpniabL1Folded
namespace Go.Proofs.Ytelhgpoppgpniab
open Go.RowKit
set_option linter.unusedVariables false
set_option maxRecDepth 100000
end Go.Proofs.Ytelhgpoppgpniab

/-
  Chapter 1: what the drawers of chapter 1 hand over, whatever they read.
-/
import Derived.Test.YtgikjopmijomgabRd
import Derived.Test.YtgikjopmijomgabL1Folded
namespace Go.Proofs.Ytgikjopmijomgab
open Go.RowKit
set_option linter.unusedVariables false
set_option maxRecDepth 100000
end Go.Proofs.Ytgikjopmijomgab

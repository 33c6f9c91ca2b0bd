/-
  Chapter 1: what the drawers of chapter 1 hand over, whatever they read.
-/
import Derived.Test.YtgikjopmijomgaaRd
import Derived.Test.YtgikjopmijomgaaL1Folded
namespace Go.Proofs.Ytgikjopmijomgaa
open Go.RowKit
set_option linter.unusedVariables false
set_option maxRecDepth 100000
end Go.Proofs.Ytgikjopmijomgaa

/-
  Chapter 1: what the drawers of chapter 1 hand over, whatever they read.
-/
import Derived.Test.YtpniiaemgobaiaaRd
import Derived.Test.YtpniiaemgobaiaaL1Folded
namespace Go.Proofs.Ytpniiaemgobaiaa
open Go.RowKit
set_option linter.unusedVariables false
set_option maxRecDepth 100000
end Go.Proofs.Ytpniiaemgobaiaa

/-
  Chapter 1: contracts of FoldOf, in the program and in its model.
-/
import Derived.Test.YtpniiaemgobaiaaL1Table
namespace Go.Proofs.Ytpniiaemgobaiaa
open Go.RowKit
set_option linter.unusedVariables false
set_option maxRecDepth 100000
end Go.Proofs.Ytpniiaemgobaiaa

/-
  Chapter 1: contracts of FoldOf, in the program and in its model.
-/
import Derived.Test.YtnmjcoppbkjogaaL1Table
namespace Go.Proofs.Ytnmjcoppbkjogaa
open Go.RowKit
set_option linter.unusedVariables false
set_option maxRecDepth 100000
end Go.Proofs.Ytnmjcoppbkjogaa

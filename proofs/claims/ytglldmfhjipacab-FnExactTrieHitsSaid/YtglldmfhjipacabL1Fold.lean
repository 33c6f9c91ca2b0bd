/-
  Chapter 1: contracts of FoldOf, in the program and in its model.
-/
import Derived.Test.YtglldmfhjipacabL1Table
namespace Go.Proofs.Ytglldmfhjipacab
open Go.RowKit
set_option linter.unusedVariables false
set_option maxRecDepth 100000
end Go.Proofs.Ytglldmfhjipacab

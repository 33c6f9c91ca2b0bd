/-
  Chapter 1: contracts of FoldOf, in the program and in its model.
-/
import Derived.Test.YtgjngnignjbdlacL1Table
namespace Go.Proofs.Ytgjngnignjbdlac
open Go.RowKit
set_option linter.unusedVariables false
end Go.Proofs.Ytgjngnignjbdlac

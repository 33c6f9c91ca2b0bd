/-
  Chapter 1: contracts of Folded, in the program and in its model.
-/
import Derived.Test.YtgjngnignjbdlacL1Fold
import Derived.Test.YtgjngnignjbdlacBytes
import Derived.Outline
namespace Go.Proofs.Ytgjngnignjbdlac
open Go.RowKit
set_option linter.unusedVariables false

end Go.Proofs.Ytgjngnignjbdlac

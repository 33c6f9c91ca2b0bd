/-
  Chapter 1: the table of folds that the program builds for each call.
-/
import Derived.Test.YtgjngnignjbdlacPlain
import Derived.Laws.CopyOwn
namespace Go.Proofs.Ytgjngnignjbdlac
open Go.RowKit
set_option linter.unusedVariables false
end Go.Proofs.Ytgjngnignjbdlac

/-
  Chapter 3: ColOk's model; FnExactColOk's walk.
-/
import Derived.Test.YtgikjopmijomgaaL3Ok
namespace Go.Proofs.Ytgikjopmijomgaa
open Go.RowKit
set_option linter.unusedVariables false
set_option maxRecDepth 100000
end Go.Proofs.Ytgikjopmijomgaa

/-
  Chapter 3: ColOk's model; FnExactColOk's walk.
-/
import Derived.Test.YtnmjcoppbkjogaaL3Ok
namespace Go.Proofs.Ytnmjcoppbkjogaa
open Go.RowKit
set_option linter.unusedVariables false
set_option maxRecDepth 100000
end Go.Proofs.Ytnmjcoppbkjogaa

/-
  Chapter 3: ColOk's model; FnExactColOk's walk.
-/
import Derived.Test.YtpniiaemgobaiaaL3Ok
namespace Go.Proofs.Ytpniiaemgobaiaa
open Go.RowKit
set_option linter.unusedVariables false
set_option maxRecDepth 100000
end Go.Proofs.Ytpniiaemgobaiaa

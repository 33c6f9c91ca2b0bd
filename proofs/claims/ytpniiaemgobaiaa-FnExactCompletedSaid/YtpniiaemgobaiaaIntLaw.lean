/-
  The laws' own helpers on slices of int64: they are held against each other, marked, looked at, copied.
-/
import Derived.Test.YtpniiaemgobaiaaInts
namespace Go.Proofs.Ytpniiaemgobaiaa
open Go.RowKit
set_option linter.unusedVariables false
set_option maxRecDepth 100000
end Go.Proofs.Ytpniiaemgobaiaa

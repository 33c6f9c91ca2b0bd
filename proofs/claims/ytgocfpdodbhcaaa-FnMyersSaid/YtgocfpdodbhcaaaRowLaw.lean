/-
  The laws' own helpers on structs of one slice of int64 (Rows).
-/
import Derived.Test.YtgocfpdodbhcaaaIntLaw
import Derived.Test.YtgocfpdodbhcaaaL2Pat
import Derived.Test.YtgocfpdodbhcaaaL4New
namespace Go.Proofs.Ytgocfpdodbhcaaa
open Go.RowKit
set_option linter.unusedVariables false
set_option maxRecDepth 100000
end Go.Proofs.Ytgocfpdodbhcaaa

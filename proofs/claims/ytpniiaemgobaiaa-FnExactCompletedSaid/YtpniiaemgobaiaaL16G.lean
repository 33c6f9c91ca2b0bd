/-
  Chapter 16's model: the pieces of a text, put in one by one (by wip/tools/mk_grams.py).
-/
import Derived.Test.YtpniiaemgobaiaaStrs
import Derived.Test.YtpniiaemgobaiaaRecAdd
import Derived.Maps.AppendAt
namespace Go.Proofs.Ytpniiaemgobaiaa
open Go.RowKit
set_option linter.unusedVariables false
set_option maxRecDepth 100000
theorem str_info : (Try.prog.info? 9).map (fun i => (i.zero, i.size, i.bytes)) = some (some (.string ⟨#[]⟩), 1, 16) := by kernel_rfl
end Go.Proofs.Ytpniiaemgobaiaa

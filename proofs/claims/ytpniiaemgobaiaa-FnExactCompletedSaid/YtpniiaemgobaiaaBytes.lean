/-
  The element type of a byte slice: its row of the table.
-/
import Derived.Test.YtpniiaemgobaiaaKit
namespace Go.Proofs.Ytpniiaemgobaiaa
theorem byte_info : (Try.prog.info? 5).map (fun i => (i.zero, i.size, i.bytes)) = some (some (.int .u8 0), 1, 1) := by kernel_rfl
end Go.Proofs.Ytpniiaemgobaiaa

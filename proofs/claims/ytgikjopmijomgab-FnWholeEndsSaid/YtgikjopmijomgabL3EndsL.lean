/-
  FnExactEndsOf: the walk.
-/
import Derived.Test.YtgikjopmijomgabL3EndsS
import Derived.Test.YtgikjopmijomgabEndLaw
namespace Go.Proofs.Ytgikjopmijomgab
open Go.RowKit
set_option linter.unusedVariables false
set_option maxRecDepth 100000
theorem endsL_len (s : ByteArray) (K : Int) (f : Bool) (r : ByteArray) : (endsL s K f r).length ≤ 402 := by
  unfold endsL; split
  · rename_i h
    simp only [Bool.and_eq_true, decide_eq_true_eq] at h
    rw [endF_length]
    have := endN_le (lastD s r f) K (r.size + 1)
    omega
  · simp
end Go.Proofs.Ytgikjopmijomgab

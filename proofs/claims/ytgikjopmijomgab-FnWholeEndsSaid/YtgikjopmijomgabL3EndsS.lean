/-
  Chapter 3: EndsOf's model.
-/
import Derived.Test.YtgikjopmijomgabL3Ends
import Derived.Test.YtgikjopmijomgabL3DistS
import Derived.Deep.RegionHeld3
import Derived.Maps.AppendAt
namespace Go.Proofs.Ytgikjopmijomgab
open Go.RowKit
set_option linter.unusedVariables false
set_option maxRecDepth 100000
theorem lastD_bnd (s r : ByteArray) (f : Bool) (k : Nat) : Bnd (colAt (foldIf f s) (foldIf f r) 0 k) s.size (s.size + k) := by
  have h := colAt_bnd (foldIf f s) (foldIf f r) (rise := 0) (by decide) (by decide) k
  rw [foldIf_size] at h; exact h
theorem colAt_head0 (s r : ByteArray) (k : Nat) : colAt s r 0 k 0 = 0 := by
  induction k with
  | zero => rfl
  | succ k ih => simp only [colAt, nextAt]; rw [ih]; rfl
end Go.Proofs.Ytgikjopmijomgab

/-
  Chapter 9: recsOf: ends as records of one pattern.
-/
import Derived.Test.YtpniiaemgobaiaaStructs
import Derived.Maps.AppendAt
namespace Go.Proofs.Ytpniiaemgobaiaa
open Go.RowKit
set_option linter.unusedVariables false
set_option maxRecDepth 100000
/-- the records of the first i of some ends: pattern, place, number in turn -/
def recL (P : Int) (L : List Int) : Nat → List Int
  | 0 => []
  | i + 1 => recL P L i ++ [P, intAt L (i * 2), intAt L (i * 2 + 1)]
theorem recL_length (P : Int) (L : List Int) (i : Nat) : (recL P L i).length = i * 3 := by
  induction i with
  | zero => rfl
  | succ i ih => simp only [recL, List.length_append, ih, List.length_cons, List.length_nil]; omega
end Go.Proofs.Ytpniiaemgobaiaa

/-
  Chapter 2: contracts of PatternOk, in the program and in its model; of the law's own helpers on patterns.
-/
import Derived.Test.YtpniiaemgobaiaaKit
import Derived.Outline
namespace Go.Proofs.Ytpniiaemgobaiaa
open Go.RowKit
set_option linter.unusedVariables false
set_option maxRecDepth 100000
/-- what is left of n behind m, -1: it does not suffice -/
def szI (n m : Int) : Int := if m ≤ n then n - m else -1
theorem szI_yes {n m : Int} (h : m ≤ n) : szI n m = n - m := if_pos h
theorem szI_no {n m : Int} (h : ¬ m ≤ n) : szI n m = -1 := if_neg h
def patOk (s : ByteArray) (k : Int) : Bool := decide (1 ≤ s.size ∧ s.size ≤ 20 ∧ 0 ≤ k ∧ k ≤ 4)
theorem patOk_iff (s : ByteArray) (k : Int) : patOk s k = true ↔ (1 ≤ s.size ∧ s.size ≤ 20 ∧ 0 ≤ k ∧ k ≤ 4) := by simp [patOk]
theorem patOk_yes {s : ByteArray} {k : Int} (h : 1 ≤ s.size ∧ s.size ≤ 20 ∧ 0 ≤ k ∧ k ≤ 4) : patOk s k = true := (patOk_iff s k).2 h
theorem patOk_no {s : ByteArray} {k : Int} (h : ¬ (1 ≤ s.size ∧ s.size ≤ 20 ∧ 0 ≤ k ∧ k ≤ 4)) : patOk s k = false := by simp only [patOk, decide_eq_false_iff_not]; exact h

end Go.Proofs.Ytpniiaemgobaiaa

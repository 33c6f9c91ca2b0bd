/-
  Chapter 3: EndsOf, in the program: a range over the columns that appends.
-/
import Derived.Test.YtgikjopmijomgaaL3Dist
import Derived.Test.YtgikjopmijomgaaStructs
import Derived.Test.YtgikjopmijomgaaL2Pat
import Derived.Maps.OwnIn
namespace Go.Proofs.Ytgikjopmijomgaa
open Go Go.RowKit Go.Shelf
set_option linter.unusedVariables false
set_option maxRecDepth 100000
attribute [local go_sem] Oper.semAt_some
/-- the ends among the first k columns, whose last numbers are d: place and number in turn -/
def endF (d : Nat → Int) (K : Int) : Nat → List Int
  | 0 => []
  | k + 1 => if d k ≤ K then endF d K k ++ [(k : Int), d k] else endF d K k
def endN (d : Nat → Int) (K : Int) : Nat → Nat
  | 0 => 0
  | k + 1 => if d k ≤ K then endN d K k + 1 else endN d K k
theorem endF_length (d : Nat → Int) (K : Int) (k : Nat) : (endF d K k).length = endN d K k * 2 := by
  induction k with
  | zero => rfl
  | succ k ih =>
    simp only [endF, endN]
    split
    · rw [List.length_append, ih]; simp; omega
    · exact ih
theorem endN_le (d : Nat → Int) (K : Int) (k : Nat) : endN d K k ≤ k := by
  induction k with
  | zero => exact Nat.le_refl _
  | succ k ih => simp only [endN]; split <;> omega
def lastD (s r : ByteArray) (f : Bool) (k : Nat) : Int := colAt (foldIf f s) (foldIf f r) 0 k s.size
def endsL (s : ByteArray) (K : Int) (f : Bool) (r : ByteArray) : List Int := if patOk s K && decide (r.size ≤ 200) then endF (lastD s r f) K (r.size + 1) else []
theorem end_info : (Try.prog.info? 63).map (fun i => (i.zero, i.size, i.bytes)) = some (some (.agg #[.int .i64 0, .int .i64 0]), 2, 16) := by kernel_rfl
end Go.Proofs.Ytgikjopmijomgaa

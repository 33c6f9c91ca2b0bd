/-
  Chapter 3: Distance, in the program: a range over the columns.
-/
import Derived.Test.YtodmohepgmhipaaColsIt
import Derived.Test.YtodmohepgmhipaaL1Folded
namespace Go.Proofs.Ytodmohepgmhipaa
open Go Go.RowKit Go.Shelf
set_option linter.unusedVariables false
set_option maxRecDepth 100000
attribute [local go_sem] Oper.semAt_some
theorem impl_columns (s r : ByteArray) (rise : Int) (w : World) :
    Calls Try.prog 106 #[.string s, .string r, .int .i64 rise] w fun e w' => e = .returned (.func (.func 132) #[] #[boxV w.heap.size, boxV (w.heap.size + 1), boxV (w.heap.size + 2)]) ∧ w' = ((w.alloc (.cells #[.string s] 9)).alloc (.cells #[.string r] 9)).alloc (.cells #[.int .i64 rise] 2) := by
  go_enter Try.func106, Try.ntmps106
  go_wp2
  go_ret
  exact ⟨rfl, rfl⟩
def foldIf (f : Bool) (s : ByteArray) : ByteArray := if f then foldS s else s
theorem foldIf_size (f : Bool) (s : ByteArray) : (foldIf f s).size = s.size := by
  cases f
  · rfl
  · exact foldS_size s
def distI (s r : ByteArray) (f : Bool) : Int := if s.size ≤ 200 ∧ r.size ≤ 200 then colAt (foldIf f s) (foldIf f r) 1 r.size s.size else -1
theorem distI_yes {s r : ByteArray} {f : Bool} (h : s.size ≤ 200 ∧ r.size ≤ 200) : distI s r f = colAt (foldIf f s) (foldIf f r) 1 r.size s.size := if_pos h
theorem distI_no {s r : ByteArray} {f : Bool} (h : ¬ (s.size ≤ 200 ∧ r.size ≤ 200)) : distI s r f = -1 := if_neg h
/-- what the variable least holds when k columns have come -/
def leastF (s r : ByteArray) : Nat → Int
  | 0 => 0
  | k + 1 => colAt s r 1 k s.size
end Go.Proofs.Ytodmohepgmhipaa

/-
  Arrays of 201 numbers: the first ones by a function, noughts behind.
-/
import Derived.Test.YtgikjopmijomgabKit
namespace Go.Proofs.Ytgikjopmijomgab
open Go.RowKit
set_option linter.unusedVariables false
set_option maxRecDepth 100000
def rowN (F : Nat → Int) (j : Nat) : Array Value := Array.ofFn (n := 201) fun i => .int .i64 (if i.val < j then F i.val else 0)
theorem rowN_size (F : Nat → Int) (j : Nat) : (rowN F j).size = 201 := by simp [rowN]
theorem rowN_at (F : Nat → Int) (j i : Nat) (h : i < 201) : (rowN F j)[i]? = some (.int .i64 (if i < j then F i else 0)) := by simp [rowN, h]
theorem rowN_below (F : Nat → Int) (j i : Nat) (h : i < 201) (h2 : i < j) : (rowN F j)[i]? = some (.int .i64 (F i)) := by rw [rowN_at F j i h, if_pos h2]
theorem rowN_set (F : Nat → Int) (j : Nat) (h : j < 201) : (rowN F j).setIfInBounds j (.int .i64 (F j)) = rowN F (j + 1) := by
  apply Array.ext_getElem?
  intro i
  rw [Array.getElem?_setIfInBounds]
  by_cases hi : i < 201
  · rw [rowN_at F (j + 1) i hi, rowN_size]
    by_cases e : j = i
    · subst e; rw [if_pos rfl, if_pos h, if_pos (by omega)]
    · rw [if_neg e, rowN_at F j i hi]
      by_cases h2 : i < j
      · rw [if_pos h2, if_pos (by omega)]
      · rw [if_neg h2, if_neg (by omega)]
  · rw [if_neg (by omega)]
    have e1 : (rowN F j)[i]? = none := Array.getElem?_eq_none (by rw [rowN_size]; omega)
    have e2 : (rowN F (j + 1))[i]? = none := Array.getElem?_eq_none (by rw [rowN_size]; omega)
    rw [e1, e2]
theorem rowN_congr {F G : Nat → Int} {j : Nat} (h : ∀ i, i < j → F i = G i) : rowN F j = rowN G j := by
  unfold rowN
  congr 1
  funext i
  by_cases h2 : i.val < j
  · rw [if_pos h2, if_pos h2, h _ h2]
  · rw [if_neg h2, if_neg h2]
theorem rowN_one (F : Nat → Int) (j : Nat) : (rowN F j).all (·.oneCell') = true := by
  rw [Array.all_eq_true]
  intro i hi
  simp [rowN, Value.oneCell']
theorem rowN_zero (F G : Nat → Int) : rowN F 0 = rowN G 0 := rowN_congr fun i hi => by omega
end Go.Proofs.Ytgikjopmijomgab

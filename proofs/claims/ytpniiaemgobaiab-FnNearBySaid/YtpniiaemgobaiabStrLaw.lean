/-
  The law's own helpers on slices of texts: equal, marked, held.
-/
import Derived.Test.YtpniiaemgobaiabMTree
import Derived.Test.YtpniiaemgobaiabMark
import Derived.Deep.RegionLaw
namespace Go.Proofs.Ytpniiaemgobaiab
open Go.RowKit
set_option linter.unusedVariables false
set_option maxRecDepth 100000
/-- the texts t 0 .. t (n - 1) -/
def strL (t : Nat → ByteArray) (n : Nat) : List Value := (List.range n).map fun i => Value.string (t i)
theorem strL_length (t : Nat → ByteArray) (n : Nat) : (strL t n).length = n := by simp [strL]
theorem strL_at (t : Nat → ByteArray) (n i : Nat) (h : i < n) : valAt (strL t n) i = .string (t i) := by simp [valAt, strL, List.getD_eq_getElem?_getD, h]
theorem strL_congr {t u : Nat → ByteArray} {n : Nat} (h : ∀ i, i < n → t i = u i) : strL t n = strL u n := by
  unfold strL
  exact List.map_congr_left fun i hi => by rw [h i (List.mem_range.1 hi)]
theorem strL_set (t : Nat → ByteArray) (n j : Nat) (s : ByteArray) (h : j < n) : (strL t n).set j (.string s) = strL (fun i => if i = j then s else t i) n := by
  apply List.ext_getElem
  · simp [strL]
  · intro i h1 h2
    simp only [strL, List.length_set, List.length_map, List.length_range] at h1
    by_cases e : j = i
    · subst e; simp [strL]
    · have e2 : ¬ i = j := fun h => e h.symm
      simp [strL, e, e2]
theorem strs_strL (L : List (List UInt8)) : strs L = strL (fun i => txt (L.getD i [])) L.length := by
  apply List.ext_getElem
  · simp [strs, strL]
  · intro i h1 h2
    simp only [strs, List.length_map] at h1
    simp [strs, strL, strV, List.getD_eq_getElem?_getD, h1]
def mkTx (k : Int) (t : Nat → ByteArray) (j i : Nat) : ByteArray := if i < j then markS (k + (i : Int)) else t i
theorem mkTx_set (k : Int) (t : Nat → ByteArray) (n j : Nat) (h : j < n) : (strL (mkTx k t j) n).set j (.string (markS (k + (j : Int)))) = strL (mkTx k t (j + 1)) n := by
  rw [strL_set _ _ _ _ h]
  refine strL_congr fun i _ => ?_
  unfold mkTx
  by_cases e : i = j
  · subst e; simp
  · by_cases e2 : i < j
    · rw [if_neg e, if_pos e2, if_pos (by omega)]
    · rw [if_neg e, if_neg e2, if_neg (by omega)]
end Go.Proofs.Ytpniiaemgobaiab

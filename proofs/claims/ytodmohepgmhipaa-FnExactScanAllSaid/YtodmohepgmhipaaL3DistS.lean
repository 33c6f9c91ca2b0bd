/-
  Chapter 3: Distance's model; FnExactDistance's walk.
-/
import Derived.Test.YtodmohepgmhipaaL3Dist
import Derived.Test.YtodmohepgmhipaaL3NextL
namespace Go.Proofs.Ytodmohepgmhipaa
open Go.RowKit
set_option linter.unusedVariables false
set_option maxRecDepth 100000
theorem colAt_head (s r : ByteArray) (k : Nat) : colAt s r 1 k 0 = k := by
  induction k with
  | zero => simp [colAt, idI]
  | succ k ih => simp only [colAt, nextAt]; rw [ih]; omega
theorem foldS_byte (r : ByteArray) (k : Nat) (h : k < r.size) : ((byteAt (foldS r) k).toNat : Int) = foldI ((byteAt r k).toNat : Int) := by
  unfold byteAt foldS foldL
  have h2 : k < r.data.toList.length := by simpa using h
  simp only [List.getD_eq_getElem?_getD, List.getElem?_map, List.getElem?_eq_getElem h2]
  simp [foldB_toNat]
/-- the next column, told apart as the model does -/
theorem colAt_next (s r : ByteArray) (f : Bool) (rise : Int) (k : Nat) (hk : k < r.size) (head : Int) (hh : head = colAt (foldIf f s) (foldIf f r) rise k 0 + rise) :
    tab (nextAt (maskG s f (byteAt r k).toNat) (intAt (tab (colAt (foldIf f s) (foldIf f r) rise k) (s.size + 1))) head) (s.size + 1) = tab (colAt (foldIf f s) (foldIf f r) rise (k + 1)) (s.size + 1) := by
  subst hh
  apply tab_congr
  intro i hi
  simp only [colAt]
  refine nextAt_congr (n := s.size) (fun j hj => ?_) (fun j hj => intAt_tab _ _ _ (by omega)) i (by omega)
  cases f
  · rfl
  · have h2 : j < (foldS s).size := by rw [foldS_size]; exact hj
    show maskG s true _ j = eqP (foldS s) _ j
    rw [maskG_fold s _ j h2, eqP_at _ _ _ h2]
    have := foldS_byte r k hk
    simp only [foldIf, if_true]
    rw [this]
end Go.Proofs.Ytodmohepgmhipaa

/-
  Patterns as cells: one more; a text that is not cut.
-/
import Derived.Test.YtodmohepgmhipaaClones
import Derived.Test.YtodmohepgmhipaaL2Line
namespace Go.Proofs.Ytodmohepgmhipaa
open Go.RowKit
set_option linter.unusedVariables false
set_option maxRecDepth 100000
theorem patsTo_left (acc X : List Pt) (n : Nat) (h : n ≤ acc.length) : patsTo (acc ++ X) n = patsTo acc n := by
  induction n with
  | zero => rfl
  | succ n ih =>
    have hp : ptAt (acc ++ X) n = ptAt acc n := by simp [ptAt, List.getD_eq_getElem?_getD, List.getElem?_append_left (show n < acc.length by omega)]
    simp only [patsTo]
    rw [ih (by omega), hp]
theorem patsTo_snoc (acc : List Pt) (p : Pt) : patsTo (acc ++ [p]) (acc ++ [p]).length = patsTo acc acc.length ++ [.string p.t, .int .i64 p.k, .bool p.f] := by
  have hp : ptAt (acc ++ [p]) acc.length = p := by simp [ptAt, List.getD_eq_getElem?_getD]
  rw [List.length_append, List.length_singleton]
  simp only [patsTo]
  rw [patsTo_left acc [p] acc.length (Nat.le_refl _), hp]
theorem cutA_all {s : ByteArray} {c : Nat} (h : cutF s c = false) : (cutA s c).size = s.size := by
  rw [cutA_size]
  unfold cutF at h
  have := of_decide_eq_false h
  have := cutI_le s c
  omega
end Go.Proofs.Ytodmohepgmhipaa

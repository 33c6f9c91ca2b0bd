/-
  Plain facts: the column's last number is the least by which a piece that ends there differs.
-/
import Derived.Test.YtgikjopmijomgabDistFacts
import Derived.Test.YtgikjopmijomgabL3Ends
namespace Go.Proofs.Ytgikjopmijomgab
open Go.RowKit
set_option linter.unusedVariables false
set_option maxRecDepth 100000
/-- the least of the pieces that begin ahead of place j and end at e, and of the text's length -/
def leastTo (s r : ByteArray) (f : Bool) (e : Nat) : Nat → Int
  | 0 => s.size
  | j + 1 => if distI s (r.extract j e) f < leastTo s r f e j then distI s (r.extract j e) f else leastTo s r f e j
theorem leastTo_le (s r : ByteArray) (f : Bool) (e n : Nat) : ∀ j, j < n → leastTo s r f e n ≤ distI s (r.extract j e) f := by
  induction n with
  | zero => intro j hj; omega
  | succ n ih =>
    intro j hj
    simp only [leastTo]
    by_cases h : j = n
    · subst h; split <;> omega
    · have := ih j (by omega); split <;> omega
theorem leastTo_ge (s r : ByteArray) (f : Bool) (e n : Nat) (x : Int) (h0 : x ≤ s.size) (h : ∀ j, j < n → x ≤ distI s (r.extract j e) f) : x ≤ leastTo s r f e n := by
  induction n with
  | zero => exact h0
  | succ n ih =>
    have := ih fun j hj => h j (by omega)
    have := h n (by omega)
    simp only [leastTo]
    split <;> omega
theorem leastTo_bnd (s r : ByteArray) (f : Bool) (e n : Nat) (hs : s.size ≤ 200) (hr : r.size ≤ 200) : 0 ≤ leastTo s r f e n ∧ leastTo s r f e n ≤ s.size := by
  induction n with
  | zero => simp only [leastTo]; omega
  | succ n ih =>
    have := dist_bnd s (r.extract n e) f hs (by rw [ByteArray.size_extract]; omega)
    simp only [leastTo]; split <;> omega
theorem least_is_last (s r : ByteArray) (f : Bool) (e : Nat) (he : e ≤ r.size) (hs : s.size ≤ 200) (hr : r.size ≤ 200) : leastTo s r f e (e + 1) = lastD s r f e := by
  obtain ⟨low, j, hj, hat⟩ := colAt_least (foldIf f s) (foldIf f r) e s.size (by rw [foldIf_size]; exact he) (by rw [foldIf_size]; exact Nat.le_refl _)
  have e1 : (bl (foldIf f s)).take s.size = fl f s := by rw [bl_foldIf, List.take_of_length_le (by rw [fl_len]; exact Nat.le_refl _)]
  have e2 : ∀ i, distI s (r.extract i e) f = (ed (fl f s) (piece (foldIf f r) i e) : Nat) := by
    intro i
    rw [distI_ed hs (by rw [ByteArray.size_extract]; omega), fl_extract]
    unfold piece
    rw [bl_foldIf]
  rw [e1] at low hat
  have e3 : lastD s r f e = colAt (foldIf f s) (foldIf f r) 0 e s.size := rfl
  have l1 := leastTo_le s r f e (e + 1) j (by omega)
  have l2 := leastTo_ge s r f e (e + 1) (lastD s r f e) (by
    have h := low e (Nat.le_refl _)
    have h2 := ed_nil' (fl f s)
    rw [piece_all _ _ (by rw [foldIf_size]; exact he), h2, fl_len] at h
    rw [e3]; exact h) (fun i hi => by rw [e2, e3]; exact low i (by omega))
  rw [e2] at l1
  omega
end Go.Proofs.Ytgikjopmijomgab

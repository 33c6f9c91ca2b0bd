/-
  Plain facts of chapter 14: pieces that end at a place, read from their ends backward.
-/
import Derived.Test.YtelhgpoppgpniabDistFacts
namespace Go.Proofs.Ytelhgpoppgpniab
open Go.RowKit
set_option linter.unusedVariables false
set_option maxRecDepth 100000
/-- by how much the piece of k bytes that ends at e differs -/
def backD (s r : ByteArray) (f : Bool) (e k : Nat) : Int := distI s (r.extract (e - k) e) f
/-- behind k pieces: where the nearest begins, and by how much it differs -/
def startTo (s r : ByteArray) (f : Bool) (e : Nat) : Nat → Int × Int
  | 0 => (e, s.size)
  | k + 1 => if backD s r f e k < (startTo s r f e k).2 then ((e : Int) - k, backD s r f e k) else startTo s r f e k
theorem startTo_yes {s r : ByteArray} {f : Bool} {e k : Nat} (h : backD s r f e k < (startTo s r f e k).2) : startTo s r f e (k + 1) = ((e : Int) - k, backD s r f e k) := if_pos h
theorem startTo_no {s r : ByteArray} {f : Bool} {e k : Nat} (h : ¬ backD s r f e k < (startTo s r f e k).2) : startTo s r f e (k + 1) = startTo s r f e k := if_neg h
theorem extract_len (r : ByteArray) (i e : Nat) (h : e ≤ r.size) : (r.extract i e).size = e - i := by rw [ByteArray.size_extract]; omega
theorem backD_bnd (s r : ByteArray) (f : Bool) (e k : Nat) (hs : s.size ≤ 200) (he : e ≤ r.size) (hr : r.size ≤ 200) : 0 ≤ backD s r f e k ∧ backD s r f e k ≤ 400 := by
  have h1 := extract_len r (e - k) e he
  have := dist_bnd s (r.extract (e - k) e) f hs (by omega)
  unfold backD
  omega
theorem startTo_bnd (s r : ByteArray) (f : Bool) (e : Nat) (hs : s.size ≤ 200) (he : e ≤ r.size) (hr : r.size ≤ 200) : ∀ k, k ≤ e + 1 → 0 ≤ (startTo s r f e k).1 ∧ (startTo s r f e k).1 ≤ e ∧ 0 ≤ (startTo s r f e k).2 ∧ (startTo s r f e k).2 ≤ s.size := by
  intro k
  induction k with
  | zero => intro _; simp only [startTo]; omega
  | succ k ih =>
    intro hk
    have h1 := ih (by omega)
    have h2 := backD_bnd s r f e k hs he hr
    by_cases h : backD s r f e k < (startTo s r f e k).2
    · rw [startTo_yes h]; simp only; omega
    · rw [startTo_no h]; exact h1
/-- read backward it is the columns' last number -/
theorem backD_col (s r : ByteArray) (f : Bool) (e k : Nat) (hs : s.size ≤ 200) (he : e ≤ r.size) (hr : r.size ≤ 200) (hk : k ≤ e) :
    colAt (foldIf f (backS s)) (foldIf f (backS (r.extract 0 e))) 1 k s.size = backD s r f e k := by
  have hR := extract_len r 0 e he
  rw [colAt_ed _ _ k s.size (by rw [foldIf_size, backS_size, hR]; omega) (by rw [foldIf_size, backS_size]; exact Nat.le_refl _)]
  unfold backD
  rw [distI_ed hs (by rw [extract_len r _ e he]; omega), bl_foldIf, bl_foldIf, fl_back, fl_back, fl_extract, fl_extract]
  rw [List.take_of_length_le (by rw [List.length_reverse, fl_len]; exact Nat.le_refl _), List.drop_zero, List.take_reverse, ed_rev]
  rw [List.length_take, fl_len, Nat.min_eq_left he]
def startS (s : ByteArray) (K : Int) (f : Bool) (r : ByteArray) (e : Int) : Int × Int := if patOk s K = true ∧ r.size ≤ 200 ∧ 0 ≤ e ∧ e ≤ r.size then startTo s r f e.toNat (e.toNat + 1) else (0, -1)
theorem startS_yes {s : ByteArray} {K : Int} {f : Bool} {r : ByteArray} {e : Nat} (h1 : patOk s K = true) (h2 : r.size ≤ 200) (h3 : e ≤ r.size) : startS s K f r (e : Int) = startTo s r f e (e + 1) := by
  unfold startS
  rw [if_pos ⟨h1, h2, by omega, by omega⟩]; rfl
theorem startS_no {s : ByteArray} {K : Int} {f : Bool} {r : ByteArray} {e : Int} (h : ¬ (patOk s K = true ∧ r.size ≤ 200 ∧ 0 ≤ e ∧ e ≤ r.size)) : startS s K f r e = (0, -1) := if_neg h
end Go.Proofs.Ytelhgpoppgpniab

/-
  Chapter 16's model: how many pieces two texts have in common, and whether they may be near; the contracts.
-/
import Derived.Test.YtpniiaemgobaiabMTree
namespace Go.Proofs.Ytpniiaemgobaiab
open Go.RowKit
set_option linter.unusedVariables false
set_option maxRecDepth 100000
def gramOk (s : ByteArray) (q : Int) : Bool := decide (1 ≤ q ∧ q ≤ 10 ∧ s.size ≤ 200)
theorem gramOk_iff {s : ByteArray} {q : Int} : gramOk s q = true ↔ (1 ≤ q ∧ q ≤ 10 ∧ s.size ≤ 200) := by simp [gramOk]
theorem gramOk_no {s : ByteArray} {q : Int} (h : ¬ (1 ≤ q ∧ q ≤ 10 ∧ s.size ≤ 200)) : gramOk s q = false := by simp only [gramOk, decide_eq_false_iff_not]; exact h
theorem drop_getD (L : List (List UInt8)) (i : Nat) (h : i < L.length) : L.drop i = L.getD i [] :: L.drop (i + 1) := by
  rw [List.drop_eq_getElem_cons h]
  simp [List.getD_eq_getElem?_getD, h]
theorem comL_lt {A B : List (List UInt8)} {x y : List UInt8} (h : x < y) : comL (x :: A) (y :: B) = comL A (y :: B) := by rw [comL, if_pos h]
theorem comL_gt {A B : List (List UInt8)} {x y : List UInt8} (h : ¬ x < y) (h2 : y < x) : comL (x :: A) (y :: B) = comL (x :: A) B := by rw [comL, if_neg h, if_pos h2]
theorem comL_same {A B : List (List UInt8)} {x y : List UInt8} (h : ¬ x < y) (h2 : ¬ y < x) : comL (x :: A) (y :: B) = comL A B + 1 := by rw [comL, if_neg h, if_neg h2]
theorem comL_end (A B : List (List UInt8)) (i j : Nat) (h : ¬ (i < A.length ∧ j < B.length)) : comL (A.drop i) (B.drop j) = 0 := by
  by_cases h1 : i < A.length
  · rw [List.drop_of_length_le (l := B) (by omega), comL_nil']
  · rw [List.drop_of_length_le (l := A) (by omega), comL_nil]
theorem comI_no (s t : ByteArray) (q : Int) (h : ¬ (gramOk s q = true ∧ gramOk t q = true)) : gramOk s q = false ∨ gramOk s q = true ∧ gramOk t q = false := by
  cases h1 : gramOk s q
  · exact .inl rfl
  · cases h2 : gramOk t q
    · exact .inr ⟨rfl, rfl⟩
    · exact absurd ⟨h1, h2⟩ h
def comI (s t : ByteArray) (q : Int) : Int := if gramOk s q = true ∧ gramOk t q = true then (comN q.toNat s t : Nat) else -1
theorem comI_yes {s t : ByteArray} {q : Nat} (h1 : gramOk s q = true) (h2 : gramOk t q = true) : comI s t (q : Int) = (comN q s t : Nat) := by
  unfold comI; rw [if_pos ⟨h1, h2⟩]; rfl
theorem comI_else {s t : ByteArray} {q : Int} (h : ¬ (gramOk s q = true ∧ gramOk t q = true)) : comI s t q = -1 := if_neg h
end Go.Proofs.Ytpniiaemgobaiab

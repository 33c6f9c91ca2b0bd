/-
  Chapter 17: what was found as numbers, and back (plain).
-/
import Derived.Test.YtpniiaemgobaiacLeftP
import Derived.Test.YtpniiaemgobaiacL17Ok
namespace Go.Proofs.Ytpniiaemgobaiac
open Go.RowKit
set_option linter.unusedVariables false
set_option maxRecDepth 100000
def FineF (l : List Fd) : Prop := ∀ x ∈ l, 0 ≤ x.f ∧ x.f < x.t ∧ x.t ≤ 200 ∧ 0 ≤ x.w ∧ x.w ≤ 1000
def fdI : List Fd → List Int
  | [] => []
  | r :: l => r.f :: r.t :: r.w :: fdI l
def fdAt (l : List Fd) (i : Nat) : Fd := l.getD i default
theorem fdI_length (L : List Fd) : (fdI L).length = L.length * 3 := by
  induction L with
  | nil => rfl
  | cons r l ih => simp only [fdI, List.length_cons, ih]; omega
theorem fdI_append (L M : List Fd) : fdI (L ++ M) = fdI L ++ fdI M := by
  induction L with
  | nil => rfl
  | cons r l ih => simp only [List.cons_append, fdI, ih]
theorem fdI_at (L : List Fd) : ∀ i, i < L.length → intAt (fdI L) (i * 3) = (fdAt L i).f ∧ intAt (fdI L) (i * 3 + 1) = (fdAt L i).t ∧ intAt (fdI L) (i * 3 + 2) = (fdAt L i).w := by
  induction L with
  | nil => intro i hi; simp at hi
  | cons r l ih =>
    intro i hi
    cases i with
    | zero => exact ⟨rfl, rfl, rfl⟩
    | succ i =>
      have h := ih i (by simpa using hi)
      have e : (i + 1) * 3 = i * 3 + 3 := by omega
      rw [e]
      simpa [fdI, intAt, fdAt, List.getD_eq_getElem?_getD] using h
theorem fdAt_mem {l : List Fd} {i : Nat} (h : i < l.length) : fdAt l i ∈ l := by
  unfold fdAt; rw [List.getD_eq_getElem?_getD, List.getElem?_eq_getElem h]; exact List.getElem_mem h
theorem fdAt_take (l : List Fd) (k : Nat) (h : k < l.length) : l.take (k + 1) = l.take k ++ [fdAt l k] := by
  rw [List.take_succ_eq_append_getElem h]
  unfold fdAt; rw [List.getD_eq_getElem?_getD, List.getElem?_eq_getElem h]; rfl
theorem fdAt_drop (l : List Fd) (k : Nat) (h : k < l.length) : l.drop k = fdAt l k :: l.drop (k + 1) := by
  rw [List.drop_eq_getElem_cons h]
  unfold fdAt; rw [List.getD_eq_getElem?_getD, List.getElem?_eq_getElem h]; rfl
def fdOf (L : List Int) (n : Nat) : List Fd := (List.range n).map fun i => ⟨intAt L (i * 3), intAt L (i * 3 + 1), intAt L (i * 3 + 2)⟩
theorem fdOf_length (L : List Int) (n : Nat) : (fdOf L n).length = n := by simp [fdOf]
theorem fdOf_at (L : List Int) (n i : Nat) (h : i < n) : fdAt (fdOf L n) i = ⟨intAt L (i * 3), intAt L (i * 3 + 1), intAt L (i * 3 + 2)⟩ := by
  simp [fdAt, fdOf, List.getD_eq_getElem?_getD, h]
theorem fdI_of {L : List Int} {n : Nat} (h : L.length = n * 3) : fdI (fdOf L n) = L := by
  have hl : (fdI (fdOf L n)).length = n * 3 := by rw [fdI_length, fdOf_length]
  have h1 : fdI (fdOf L n) = tab (intAt L) (n * 3) := by
    refine tab_of hl fun j hj => ?_
    obtain ⟨e0, e1, e2⟩ := fdI_at (fdOf L n) (j / 3) (by rw [fdOf_length]; omega)
    rw [fdOf_at L n (j / 3) (by omega)] at e0 e1 e2
    have hm : j % 3 = 0 ∨ j % 3 = 1 ∨ j % 3 = 2 := by omega
    rcases hm with hm | hm | hm
    · rw [show j = j / 3 * 3 by omega, e0]
    · rw [show j = j / 3 * 3 + 1 by omega, e1]
    · rw [show j = j / 3 * 3 + 2 by omega, e2]
  rw [h1, ← h, tab_self]
theorem found_fine (l : List Fd) : foundOkB (fdI l) l.length = true ↔ FineF l ∧ l.length ≤ 20 := by
  rw [foundOkB_iff]
  have key : ∀ i, i < l.length → (foundAt (fdI l) i = true ↔ 0 ≤ (fdAt l i).f ∧ (fdAt l i).f < (fdAt l i).t ∧ (fdAt l i).t ≤ 200 ∧ 0 ≤ (fdAt l i).w ∧ (fdAt l i).w ≤ 1000) := by
    intro i hi
    obtain ⟨e0, e1, e2⟩ := fdI_at l i hi
    unfold foundAt foundB
    rw [e0, e1, e2, decide_eq_true_iff]
  constructor
  · rintro ⟨h1, h2⟩
    refine ⟨fun x hx => ?_, h2⟩
    obtain ⟨i, hi, e⟩ := List.getElem_of_mem hx
    have := (key i hi).1 (h1 i hi)
    have e2 : fdAt l i = x := by unfold fdAt; rw [List.getD_eq_getElem?_getD, List.getElem?_eq_getElem hi]; exact e
    rw [e2] at this; exact this
  · rintro ⟨h1, h2⟩
    exact ⟨fun i hi => (key i hi).2 (h1 _ (fdAt_mem hi)), h2⟩
/-- what Leftmost gives -/
def leftV (l : List Fd) : List Fd := if foundOkB (fdI l) l.length = true then leftF l else []
theorem leftV_len (l : List Fd) : (leftV l).length ≤ l.length := by
  unfold leftV
  split
  · exact leftF_len l
  · exact Nat.zero_le _
end Go.Proofs.Ytpniiaemgobaiac

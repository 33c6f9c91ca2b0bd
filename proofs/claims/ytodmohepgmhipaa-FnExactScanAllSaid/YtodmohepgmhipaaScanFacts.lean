/-
  All records of a dictionary's patterns: no two are alike in end and pattern; they are the same as numbers.
-/
import Derived.Test.YtodmohepgmhipaaRecAllF
import Derived.Test.YtodmohepgmhipaaRecsOf
namespace Go.Proofs.Ytodmohepgmhipaa
open Go.RowKit
set_option linter.unusedVariables false
set_option maxRecDepth 100000
theorem at_left {L X : List Int} {j : Nat} (h : j < L.length) : intAt (L ++ X) j = intAt L j := by
  simp [intAt, List.getD_eq_getElem?_getD, List.getElem?_append_left h]
theorem at_right {L X : List Int} {i j : Nat} (h : i = L.length + j) : intAt (L ++ X) i = intAt X j := by
  subst h; simp [intAt, List.getD_eq_getElem?_getD, List.getElem?_append_right]
theorem endF_rise (d : Nat → Int) (K : Int) (n : Nat) : (∀ m, m < endN d K n → 0 ≤ intAt (endF d K n) (m * 2) ∧ intAt (endF d K n) (m * 2) < n) ∧ ∀ i j, i < j → j < endN d K n → intAt (endF d K n) (i * 2) < intAt (endF d K n) (j * 2) := by
  induction n with
  | zero => exact ⟨fun m h => by simp [endN] at h, fun i j _ h => by simp [endN] at h⟩
  | succ n ih =>
    obtain ⟨i1, i2⟩ := ih
    have hl := endF_length d K n
    by_cases h : d n ≤ K
    · have eN : endN d K (n + 1) = endN d K n + 1 := by simp only [endN]; rw [if_pos h]
      have eF : endF d K (n + 1) = endF d K n ++ [(n : Int), d n] := by simp only [endF]; rw [if_pos h]
      rw [eN, eF]
      have last : intAt (endF d K n ++ [(n : Int), d n]) (endN d K n * 2) = n := by rw [at_right (j := 0) (by omega)]; rfl
      have old : ∀ m, m < endN d K n → intAt (endF d K n ++ [(n : Int), d n]) (m * 2) = intAt (endF d K n) (m * 2) := fun m hm => at_left (by omega)
      refine ⟨fun m hm => ?_, fun i j hij hj => ?_⟩
      · by_cases e : m = endN d K n
        · subst e; rw [last]; omega
        · rw [old m (by omega)]; have := i1 m (by omega); omega
      · rw [old i (by omega)]
        by_cases e : j = endN d K n
        · subst e; rw [last]; have := i1 i (by omega); omega
        · rw [old j (by omega)]; exact i2 i j hij (by omega)
    · have eN : endN d K (n + 1) = endN d K n := by simp only [endN]; rw [if_neg h]
      have eF : endF d K (n + 1) = endF d K n := by simp only [endF]; rw [if_neg h]
      rw [eN, eF]
      exact ⟨fun m hm => by have := i1 m hm; omega, i2⟩
theorem recsF_mem (P : Int) (E : List Int) (n : Nat) (x : Rc) (h : x ∈ recsF P E n) : x.p = P ∧ ∃ m, m < n ∧ x.e = intAt E (m * 2) := by
  induction n with
  | zero => simp [recsF] at h
  | succ n ih =>
    simp only [recsF, List.mem_append, List.mem_singleton] at h
    rcases h with h | rfl
    · obtain ⟨a, m, hm, b⟩ := ih h; exact ⟨a, m, by omega, b⟩
    · exact ⟨rfl, n, by omega, rfl⟩
theorem recsF_far (P : Int) (E : List Int) (n : Nat) (h : ∀ i j, i < j → j < n → intAt E (i * 2) < intAt E (j * 2)) : (recsF P E n).Pairwise farR := by
  induction n with
  | zero => exact List.Pairwise.nil
  | succ n ih =>
    simp only [recsF]
    rw [List.pairwise_append]
    refine ⟨ih fun i j hij hj => h i j hij (by omega), by simp, fun x hx y hy => ?_⟩
    simp only [List.mem_singleton] at hy
    subst hy
    obtain ⟨_, m, hm, e⟩ := recsF_mem P E n x hx
    have := h m n hm (by omega)
    unfold farR
    left
    show x.e ≠ intAt E (n * 2)
    omega
theorem allR_mem (L : List Pt) (r : ByteArray) (i : Nat) (x : Rc) (h : x ∈ allR L r i) : x.p < i := by
  induction i with
  | zero => simp [allR] at h
  | succ i ih =>
    simp only [allR, List.mem_append] at h
    rcases h with h | h
    · have := ih h; omega
    · obtain ⟨e, _⟩ := recsF_mem _ _ _ _ h
      omega
theorem allR_far (L : List Pt) (r : ByteArray) (i : Nat) : (allR L r i).Pairwise farR := by
  induction i with
  | zero => exact List.Pairwise.nil
  | succ i ih =>
    simp only [allR]
    rw [List.pairwise_append]
    refine ⟨ih, recsF_far _ _ _ (endF_rise _ _ _).2, fun x hx y hy => ?_⟩
    have h1 := allR_mem L r i x hx
    obtain ⟨h2, _⟩ := recsF_mem _ _ _ _ hy
    unfold farR
    right
    omega
theorem recI_recsF (P : Int) (E : List Int) (n : Nat) : recI (recsF P E n) = recL P E n := by
  induction n with
  | zero => rfl
  | succ n ih => simp only [recsF, recL, recI_append, ih, recI]
end Go.Proofs.Ytodmohepgmhipaa

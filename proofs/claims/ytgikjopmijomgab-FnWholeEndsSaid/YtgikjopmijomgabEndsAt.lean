/-
  Plain facts: the end at a place, in the list of all (as in XEnds).
-/
import Derived.Test.YtgikjopmijomgabEndsPre
namespace Go.Proofs.Ytgikjopmijomgab
open Go.RowKit
set_option linter.unusedVariables false
set_option maxRecDepth 100000
/-- the end at a place, in the list of all -/
theorem endF_at (d : Nat → Int) (K : Int) (k : Nat) (hk : d k ≤ K) : ∀ m, k < m → endN d K k < endN d K m ∧ intAt (endF d K m) (endN d K k * 2) = k ∧ intAt (endF d K m) (endN d K k * 2 + 1) = d k := by
  intro m
  induction m with
  | zero => intro h; omega
  | succ m ih =>
    intro hm
    by_cases e : k = m
    · subst e
      have e0 : endN d K (k + 1) = endN d K k + 1 := by simp only [endN]; rw [if_pos hk]
      have e1 : endF d K (k + 1) = endF d K k ++ [(k : Int), d k] := by simp only [endF]; rw [if_pos hk]
      have hl := endF_length d K k
      refine ⟨by omega, ?_, ?_⟩
      · rw [e1, intAt_right' (j := 0) (by omega)]; rfl
      · rw [e1, intAt_right' (j := 1) (by omega)]; rfl
    · obtain ⟨h1, h2, h3⟩ := ih (by omega)
      have hl := endF_length d K m
      by_cases c : d m ≤ K
      · have e0 : endN d K (m + 1) = endN d K m + 1 := by simp only [endN]; rw [if_pos c]
        have e1 : endF d K (m + 1) = endF d K m ++ [(m : Int), d m] := by simp only [endF]; rw [if_pos c]
        refine ⟨by omega, ?_, ?_⟩
        · rw [e1, intAt_left (by omega)]; exact h2
        · rw [e1, intAt_left (by omega)]; exact h3
      · have e0 : endN d K (m + 1) = endN d K m := by simp only [endN]; rw [if_neg c]
        have e1 : endF d K (m + 1) = endF d K m := by simp only [endF]; rw [if_neg c]
        rw [e0, e1]; exact ⟨h1, h2, h3⟩
theorem endN_yes {d : Nat → Int} {K : Int} {k : Nat} (h : d k ≤ K) : endN d K (k + 1) = endN d K k + 1 := by simp only [endN]; rw [if_pos h]
theorem endN_no {d : Nat → Int} {K : Int} {k : Nat} (h : ¬ d k ≤ K) : endN d K (k + 1) = endN d K k := by simp only [endN]; rw [if_neg h]
end Go.Proofs.Ytgikjopmijomgab

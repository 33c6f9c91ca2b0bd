/-
  Plain facts: the ends with one fault more, and those among them that are near enough without it.
-/
import Derived.Test.YtgikjopmijomgabEndsPre
namespace Go.Proofs.Ytgikjopmijomgab
open Go.RowKit
set_option linter.unusedVariables false
set_option maxRecDepth 100000
/-- how many of the first i ends have no more than K -/
def cntE (L : List Int) (K : Int) : Nat → Nat
  | 0 => 0
  | i + 1 => if intAt L (i * 2 + 1) ≤ K then cntE L K i + 1 else cntE L K i
theorem cntE_congr {L M : List Int} {K : Int} {n : Nat} (h : ∀ i, i < n → intAt L (i * 2 + 1) = intAt M (i * 2 + 1)) : cntE L K n = cntE M K n := by
  induction n with
  | zero => rfl
  | succ n ih => simp only [cntE]; rw [h n (by omega), ih fun i hi => h i (by omega)]
theorem endF_dist (d : Nat → Int) (K : Int) (m i : Nat) (hi : i < endN d K m) : intAt (endF d K m) (i * 2 + 1) ≤ K := by
  induction m with
  | zero => simp [endN] at hi
  | succ m ih =>
    simp only [endN] at hi
    simp only [endF]
    split at hi
    · rename_i hd
      rw [if_pos hd]
      by_cases h1 : i < endN d K m
      · rw [intAt_left (by rw [endF_length]; omega)]; exact ih h1
      · have e : i * 2 + 1 = (endF d K m).length + 1 := by rw [endF_length]; omega
        rw [intAt_right' e]; exact hd
    · rename_i hd
      rw [if_neg hd]; exact ih hi
/-- the ends with one fault more hold the others, in turn -/
theorem more_ends (d : Nat → Int) (K : Int) (m : Nat) :
    cntE (endF d (K + 1) m) K (endN d (K + 1) m) = endN d K m ∧
    ∀ i, i < endN d (K + 1) m → intAt (endF d (K + 1) m) (i * 2 + 1) ≤ K → cntE (endF d (K + 1) m) K i < endN d K m ∧ intAt (endF d K m) (cntE (endF d (K + 1) m) K i * 2) = intAt (endF d (K + 1) m) (i * 2) ∧ intAt (endF d K m) (cntE (endF d (K + 1) m) K i * 2 + 1) = intAt (endF d (K + 1) m) (i * 2 + 1) := by
  induction m with
  | zero => exact ⟨rfl, fun i hi => by simp [endN] at hi⟩
  | succ m ih =>
    obtain ⟨h0, h1⟩ := ih
    have hlM := endF_length d (K + 1) m
    have hlL := endF_length d K m
    by_cases c1 : d m ≤ K
    · have c2 : d m ≤ K + 1 := by omega
      have eM : endF d (K + 1) (m + 1) = endF d (K + 1) m ++ [(m : Int), d m] := by simp [endF, c2]
      have eL : endF d K (m + 1) = endF d K m ++ [(m : Int), d m] := by simp [endF, c1]
      have nM : endN d (K + 1) (m + 1) = endN d (K + 1) m + 1 := by simp [endN, c2]
      have nL : endN d K (m + 1) = endN d K m + 1 := by simp [endN, c1]
      have hc : ∀ i, i ≤ endN d (K + 1) m → cntE (endF d (K + 1) m ++ [(m : Int), d m]) K i = cntE (endF d (K + 1) m) K i := fun i hi => cntE_congr fun j hj => intAt_left (by omega)
      have hlast : intAt (endF d (K + 1) m ++ [(m : Int), d m]) (endN d (K + 1) m * 2 + 1) = d m := by
        rw [intAt_right' (j := 1) (by omega)]; rfl
      have hlast0 : intAt (endF d (K + 1) m ++ [(m : Int), d m]) (endN d (K + 1) m * 2) = m := by
        rw [intAt_right' (j := 0) (by omega)]; rfl
      rw [eM, eL, nM, nL]
      refine ⟨?_, fun i hi hd => ?_⟩
      · simp only [cntE]
        rw [hlast, if_pos c1, hc _ (Nat.le_refl _), h0]
      · by_cases h2 : i < endN d (K + 1) m
        · rw [intAt_left (by omega)] at hd
          obtain ⟨p1, p2, p3⟩ := h1 i h2 hd
          rw [hc i (by omega)]
          refine ⟨by omega, ?_, ?_⟩
          · rw [intAt_left (by omega), intAt_left (by omega)]; exact p2
          · rw [intAt_left (by omega), intAt_left (by omega)]; exact p3
        · obtain rfl : i = endN d (K + 1) m := by omega
          rw [hc _ (Nat.le_refl _), h0, hlast, hlast0]
          refine ⟨by omega, ?_, ?_⟩
          · rw [intAt_right' (j := 0) (by omega)]; rfl
          · rw [intAt_right' (j := 1) (by omega)]; rfl
    · have eL : endF d K (m + 1) = endF d K m := by simp [endF, c1]
      have nL : endN d K (m + 1) = endN d K m := by simp [endN, c1]
      by_cases c2 : d m ≤ K + 1
      · have eM : endF d (K + 1) (m + 1) = endF d (K + 1) m ++ [(m : Int), d m] := by simp [endF, c2]
        have nM : endN d (K + 1) (m + 1) = endN d (K + 1) m + 1 := by simp [endN, c2]
        have hc : ∀ i, i ≤ endN d (K + 1) m → cntE (endF d (K + 1) m ++ [(m : Int), d m]) K i = cntE (endF d (K + 1) m) K i := fun i hi => cntE_congr fun j hj => intAt_left (by omega)
        have hlast : intAt (endF d (K + 1) m ++ [(m : Int), d m]) (endN d (K + 1) m * 2 + 1) = d m := by
          rw [intAt_right' (j := 1) (by omega)]; rfl
        rw [eM, eL, nM, nL]
        refine ⟨?_, fun i hi hd => ?_⟩
        · simp only [cntE]
          rw [hlast, if_neg c1, hc _ (Nat.le_refl _), h0]
        · by_cases h2 : i < endN d (K + 1) m
          · rw [intAt_left (by omega)] at hd
            obtain ⟨p1, p2, p3⟩ := h1 i h2 hd
            rw [hc i (by omega)]
            refine ⟨by omega, ?_, ?_⟩
            · rw [intAt_left (L := endF d (K + 1) m) (by omega)]; exact p2
            · rw [intAt_left (L := endF d (K + 1) m) (by omega)]; exact p3
          · obtain rfl : i = endN d (K + 1) m := by omega
            rw [hlast] at hd; omega
      · have eM : endF d (K + 1) (m + 1) = endF d (K + 1) m := by simp [endF, c2]
        have nM : endN d (K + 1) (m + 1) = endN d (K + 1) m := by simp [endN, c2]
        rw [eM, eL, nM, nL]
        exact ⟨h0, h1⟩
end Go.Proofs.Ytgikjopmijomgab

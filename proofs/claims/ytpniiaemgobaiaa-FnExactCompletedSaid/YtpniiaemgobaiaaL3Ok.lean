/-
  Chapter 3: contracts of ColOk, in the program and in its model.
-/
import Derived.Test.YtpniiaemgobaiaaL3First
namespace Go.Proofs.Ytpniiaemgobaiaa
open Go.RowKit
set_option linter.unusedVariables false
set_option maxRecDepth 100000
theorem spec_l1In (n lo hi : Int) (w : World) :
    Calls Try.prog 59 #[.int .i64 n, .int .i64 lo, .int .i64 hi] w fun e w' => e = .returned (.bool (inB n lo hi)) ∧ w = w' := by
  by_cases h1 : lo ≤ n
  · by_cases h2 : n ≤ hi
    · have H := Lib.hid (inB_yes ⟨h1, h2⟩)
      go_enter Try.func59, Try.ntmps59
      go_wp2
      go_ret
      exact ⟨by rw [H.out]; rfl, rfl⟩
    · have H := Lib.hid (inB_no (n := n) (lo := lo) (hi := hi) (by omega))
      go_enter Try.func59, Try.ntmps59
      go_wp2
      go_ret
      exact ⟨by rw [H.out]; rfl, rfl⟩
  · have H := Lib.hid (inB_no (n := n) (lo := lo) (hi := hi) (by omega))
    go_enter Try.func59, Try.ntmps59
    go_wp2
    go_ret
    exact ⟨by rw [H.out]; rfl, rfl⟩
theorem okAt_yes {L : List Int} {k : Nat} (h : okAt L k = true) : 0 ≤ intAt L k ∧ aheadAt L k - 1 ≤ intAt L k ∧ intAt L k ≤ aheadAt L k + 1 ∧ (k = 0 → intAt L k = 0) := by
  unfold aheadAt
  by_cases e : k = 0
  · subst e; simp [okAt] at h; simp; omega
  · simp [okAt, e] at h; simp [e]; omega
theorem okAt_no {L : List Int} {k : Nat} (h : okAt L k = false) : intAt L k < 0 ∨ (0 ≤ intAt L k ∧ intAt L k < aheadAt L k - 1) ∨ (0 ≤ intAt L k ∧ aheadAt L k - 1 ≤ intAt L k ∧ aheadAt L k + 1 < intAt L k) ∨ (0 ≤ intAt L k ∧ aheadAt L k - 1 ≤ intAt L k ∧ intAt L k ≤ aheadAt L k + 1 ∧ k = 0 ∧ intAt L k ≠ 0) := by
  unfold aheadAt
  by_cases e : k = 0
  · subst e; simp [okAt] at h; simp; omega
  · simp [okAt, e] at h; simp [e]; omega
theorem aheadAt_bnd {L : List Int} {k : Nat} (h : stepsB L k = true) : 0 ≤ aheadAt L k ∧ aheadAt L k ≤ k := by
  unfold aheadAt
  by_cases e : k = 0
  · subst e; simp
  · have := stepsB_bnd h (k - 1) (by omega); simp [e]; omega
theorem stepsB_succ {L : List Int} {k : Nat} (h : stepsB L k = true) (h2 : okAt L k = true) : stepsB L (k + 1) = true := by simp [stepsB, h, h2]

end Go.Proofs.Ytpniiaemgobaiaa

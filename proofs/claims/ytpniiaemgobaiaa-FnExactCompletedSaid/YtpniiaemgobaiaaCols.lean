/-
  Plain facts of chapter 3, without any program: columns.
-/
import Derived.Test.YtpniiaemgobaiaaInts
import Derived.Test.YtpniiaemgobaiaaPlain
namespace Go.Proofs.Ytpniiaemgobaiaa
open Go.RowKit
set_option linter.unusedVariables false
set_option maxRecDepth 100000
/-- the least of three, as it is reckoned -/
def min3 (x y z : Int) : Int := if z < (if y < x then y else x) then z else (if y < x then y else x)
theorem min3_spec (x y z : Int) : min3 x y z ≤ x ∧ min3 x y z ≤ y ∧ min3 x y z ≤ z ∧ (min3 x y z = x ∨ min3 x y z = y ∨ min3 x y z = z) := by
  unfold min3; split <;> split <;> omega
/-- the next column's numbers, out of the column's, and of which bytes are alike -/
def nextAt (eq : Nat → Bool) (C : Nat → Int) (head : Int) : Nat → Int
  | 0 => head
  | i + 1 => min3 (if eq i then C i else C i + 1) (C (i + 1) + 1) (nextAt eq C head i + 1)
def Bnd (C : Nat → Int) (n : Nat) (M : Int) : Prop := ∀ i, i ≤ n → 0 ≤ C i ∧ C i ≤ M
theorem nextAt_bnd {eq : Nat → Bool} {C : Nat → Int} {head M : Int} {n : Nat} (h : Bnd C n M) (h0 : 0 ≤ head) (h1 : head ≤ M + 1) : Bnd (nextAt eq C head) n (M + 1) := by
  intro i
  induction i with
  | zero => intro _; exact ⟨h0, h1⟩
  | succ i ih =>
    intro hi
    obtain ⟨a, b⟩ := ih (by omega)
    obtain ⟨c, d⟩ := h i (by omega)
    obtain ⟨e, f⟩ := h (i + 1) hi
    have m := min3_spec (if eq i then C i else C i + 1) (C (i + 1) + 1) (nextAt eq C head i + 1)
    simp only [nextAt]
    generalize min3 (if eq i then C i else C i + 1) (C (i + 1) + 1) (nextAt eq C head i + 1) = q at m ⊢
    cases hq : eq i <;> simp only [hq, Bool.false_eq_true, if_false, if_true] at m <;> omega
theorem nextAt_congr {eq eq' : Nat → Bool} {C C' : Nat → Int} {head : Int} {n : Nat} (h : ∀ i, i < n → eq i = eq' i) (hC : ∀ i, i ≤ n → C i = C' i) : ∀ i, i ≤ n → nextAt eq C head i = nextAt eq' C' head i := by
  intro i
  induction i with
  | zero => intro _; rfl
  | succ i ih => intro hi; simp only [nextAt]; rw [h i (by omega), hC i (by omega), hC (i + 1) hi, ih (by omega)]
/-- may the number at a place stand behind the one ahead? -/
def okAt (L : List Int) (k : Nat) : Bool := decide (0 ≤ intAt L k ∧ (if k = 0 then intAt L 0 = 0 else intAt L (k - 1) - 1 ≤ intAt L k ∧ intAt L k ≤ intAt L (k - 1) + 1))
def stepsB (L : List Int) : Nat → Bool
  | 0 => true
  | k + 1 => stepsB L k && okAt L k
theorem stepsB_at {L : List Int} {n : Nat} (h : stepsB L n = true) : ∀ i, i < n → okAt L i = true := by
  induction n with
  | zero => intro i hi; omega
  | succ n ih =>
    simp only [stepsB, Bool.and_eq_true] at h
    intro i hi
    by_cases e : i = n
    · subst e; exact h.2
    · exact ih h.1 i (by omega)
theorem stepsB_no {L : List Int} {k n : Nat} (h : okAt L k = false) (hk : k < n) : stepsB L n = false := by
  cases e : stepsB L n
  · rfl
  · have := stepsB_at e k hk; rw [h] at this; cases this
theorem stepsB_bnd {L : List Int} {n : Nat} (h : stepsB L n = true) : ∀ i, i < n → 0 ≤ intAt L i ∧ intAt L i ≤ i := by
  intro i
  induction i with
  | zero =>
    intro hi
    have := stepsB_at h 0 hi
    simp [okAt] at this
    omega
  | succ i ih =>
    intro hi
    have h1 := ih (by omega)
    have := stepsB_at h (i + 1) hi
    simp [okAt] at this
    omega
theorem okAt_zero {L : List Int} : okAt L 0 = decide (intAt L 0 = 0) := by
  unfold okAt
  apply decide_eq_decide.2
  simp
  omega
theorem okAt_succ {L : List Int} {k : Nat} (hk : k ≠ 0) : okAt L k = decide (0 ≤ intAt L k ∧ intAt L (k - 1) - 1 ≤ intAt L k ∧ intAt L k ≤ intAt L (k - 1) + 1) := by
  unfold okAt
  apply decide_eq_decide.2
  simp [hk]
def aheadAt (L : List Int) (k : Nat) : Int := if k = 0 then 0 else intAt L (k - 1)
theorem aheadAt_zero (L : List Int) : aheadAt L 0 = 0 := rfl
theorem aheadAt_succ (L : List Int) (k : Nat) : aheadAt L (k + 1) = intAt L k := rfl
def inB (n lo hi : Int) : Bool := decide (lo ≤ n) && decide (n ≤ hi)
theorem inB_yes {n lo hi : Int} (h : lo ≤ n ∧ n ≤ hi) : inB n lo hi = true := by simp [inB, h.1, h.2]
theorem inB_no {n lo hi : Int} (h : ¬ (lo ≤ n ∧ n ≤ hi)) : inB n lo hi = false := by
  simp only [inB, Bool.and_eq_false_iff, decide_eq_false_iff_not]; omega
/-- is it a column of such a pattern? (ok: the pattern is right; n: its bytes) -/
def colOkB (ok : Bool) (n : Nat) (L : List Int) : Bool := ok && decide (L.length = n + 1) && stepsB L L.length
theorem colOkB_iff (ok : Bool) (n : Nat) (L : List Int) : colOkB ok n L = true ↔ ok = true ∧ L.length = n + 1 ∧ stepsB L L.length = true := by
  simp [colOkB, and_assoc]
end Go.Proofs.Ytpniiaemgobaiaa

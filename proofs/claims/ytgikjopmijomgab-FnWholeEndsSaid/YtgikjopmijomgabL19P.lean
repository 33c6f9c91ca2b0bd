/-
  Plain facts of chapter 19: where the words of a text stand.
-/
import Derived.Test.YtgikjopmijomgabCols
namespace Go.Proofs.Ytgikjopmijomgab
open Go.RowKit
set_option linter.unusedVariables false
set_option maxRecDepth 100000
/-- is a byte one of a word? -/
def letB (b : Int) : Bool := decide (97 ≤ b ∧ b ≤ 122 ∨ 65 ≤ b ∧ b ≤ 90 ∨ 48 ≤ b ∧ b ≤ 57)
def letAt (r : ByteArray) (k : Nat) : Bool := letB ((byteAt r k).toNat : Int)
/-- where the word begins that may end behind k bytes, and the words that end ahead of it -/
def wFrom (r : ByteArray) : Nat → Nat
  | 0 => 0
  | k + 1 => if letAt r k then wFrom r k else k + 1
def wDone (r : ByteArray) : Nat → List (Nat × Nat)
  | 0 => []
  | k + 1 => if letAt r k then wDone r k else if wFrom r k < k then wDone r k ++ [(wFrom r k, k)] else wDone r k
def wTo (r : ByteArray) (k : Nat) : List (Nat × Nat) := if wFrom r k < k then wDone r k ++ [(wFrom r k, k)] else wDone r k
theorem wFrom_le (r : ByteArray) : ∀ k, wFrom r k ≤ k
  | 0 => Nat.le_refl _
  | k + 1 => by rw [wFrom]; have := wFrom_le r k; split <;> omega
theorem wDone_lt (r : ByteArray) : ∀ k, ∀ x ∈ wDone r k, x.1 < x.2 ∧ x.2 < wFrom r k
  | 0 => by intro x h; simp [wDone] at h
  | k + 1 => by
    intro x h
    have ih := wDone_lt r k
    have hf := wFrom_le r k
    rw [wDone] at h
    rw [wFrom]
    cases hl : letAt r k
    · rw [hl] at h
      simp only [Bool.false_eq_true, if_false] at h ⊢
      by_cases hk : wFrom r k < k
      · rw [if_pos hk] at h
        rcases List.mem_append.1 h with h | h
        · have := ih x h; omega
        · rw [List.mem_singleton] at h; subst h; simp only; omega
      · rw [if_neg hk] at h
        have := ih x h; omega
    · rw [hl] at h
      simp only [if_true] at h ⊢
      exact ih x h
theorem wTo_lt (r : ByteArray) (k : Nat) : ∀ x ∈ wTo r k, x.1 < x.2 ∧ x.2 ≤ k := by
  intro x h
  unfold wTo at h
  have hf := wFrom_le r k
  split at h
  · rcases List.mem_append.1 h with h | h
    · have := wDone_lt r k x h; omega
    · rw [List.mem_singleton] at h; subst h; simp only; omega
  · have := wDone_lt r k x h; omega
/-- the model's step -/
theorem wTo_not {r : ByteArray} {k : Nat} (h : letAt r k = false) : wTo r (k + 1) = wTo r k := by
  unfold wTo
  have e1 : wFrom r (k + 1) = k + 1 := by rw [wFrom, h]; simp
  have e2 : wDone r (k + 1) = if wFrom r k < k then wDone r k ++ [(wFrom r k, k)] else wDone r k := by rw [wDone, h]; simp
  rw [e1, if_neg (by omega), e2]
theorem wTo_new {r : ByteArray} {k : Nat} (h : letAt r k = true) (hl : ∀ x ∈ (wTo r k).getLast?, x.2 ≠ k) : wTo r (k + 1) = wTo r k ++ [(k, k + 1)] := by
  have e1 : wFrom r (k + 1) = wFrom r k := by rw [wFrom, h]; simp
  have e2 : wDone r (k + 1) = wDone r k := by rw [wDone, h]; simp
  have hf := wFrom_le r k
  by_cases hk : wFrom r k < k
  · exfalso
    unfold wTo at hl
    rw [if_pos hk] at hl
    exact hl (wFrom r k, k) (by simp) rfl
  · unfold wTo
    have e3 : wFrom r k = k := by omega
    rw [e1, e2, e3, if_pos (by omega), if_neg (by omega)]
theorem wTo_more {r : ByteArray} {k : Nat} {x : Nat × Nat} {L : List (Nat × Nat)} (h : letAt r k = true) (hw : wTo r k = L ++ [x]) (hx : x.2 = k) : wTo r (k + 1) = L ++ [(x.1, k + 1)] := by
  have e1 : wFrom r (k + 1) = wFrom r k := by rw [wFrom, h]; simp
  have e2 : wDone r (k + 1) = wDone r k := by rw [wDone, h]; simp
  have hf := wFrom_le r k
  by_cases hk : wFrom r k < k
  · unfold wTo at hw ⊢
    rw [if_pos hk] at hw
    obtain ⟨h1, h2⟩ := List.append_inj' hw rfl
    injection h2 with h2
    subst h1 h2
    rw [e1, e2, if_pos (by omega)]
  · exfalso
    unfold wTo at hw
    rw [if_neg hk] at hw
    have := wDone_lt r k x (by rw [hw]; simp)
    omega
/-- the words of a text -/
def wordsL (r : ByteArray) : List (Nat × Nat) := wTo r r.size
/-- what is done is the beginning of all -/
theorem wDone_pre (r : ByteArray) (k n : Nat) (h : k ≤ n) : ∃ S, wDone r n = wDone r k ++ S := by
  induction n with
  | zero => obtain rfl : k = 0 := by omega
            exact ⟨[], by simp⟩
  | succ n ih =>
    by_cases e : k = n + 1
    · subst e; exact ⟨[], by simp⟩
    · obtain ⟨S, hS⟩ := ih (by omega)
      rw [wDone]
      split
      · exact ⟨S, hS⟩
      · split
        · exact ⟨S ++ [(wFrom r n, n)], by rw [hS, List.append_assoc]⟩
        · exact ⟨S, hS⟩
theorem wTo_pre (r : ByteArray) (k : Nat) (h : k ≤ r.size) : ∃ S, wordsL r = wDone r k ++ S := by
  obtain ⟨S, hS⟩ := wDone_pre r k r.size h
  unfold wordsL wTo
  split
  · exact ⟨S ++ [(wFrom r r.size, r.size)], by rw [hS, List.append_assoc]⟩
  · exact ⟨S, hS⟩
/-- where the program hands a word: at a byte that is none of a word, or at the end -/
theorem w_hand {r : ByteArray} {k : Nat} (hk : k ≤ r.size) (hf : wFrom r k < k) (hl : k = r.size ∨ letAt r k = false) : ∃ S, wordsL r = wDone r k ++ (wFrom r k, k) :: S := by
  rcases hl with rfl | hl
  · exact ⟨[], by unfold wordsL wTo; rw [if_pos hf]⟩
  · have h1 : k < r.size ∨ k = r.size := by omega
    rcases h1 with h1 | rfl
    · obtain ⟨S, hS⟩ := wTo_pre r (k + 1) h1
      rw [wDone, hl] at hS
      simp only [Bool.false_eq_true, if_false] at hS
      rw [if_pos hf] at hS
      exact ⟨S, by rw [hS, List.append_assoc]; rfl⟩
    · exact ⟨[], by unfold wordsL wTo; rw [if_pos hf]⟩
theorem wTo_len (r : ByteArray) (k : Nat) : 2 * (wTo r k).length ≤ k + 1 := by
  have h : ∀ k, 2 * (wDone r k).length ≤ wFrom r k := by
    intro k
    induction k with
    | zero => simp [wDone, wFrom]
    | succ k ih =>
      have hf := wFrom_le r k
      rw [wDone, wFrom]
      cases letAt r k
      · simp only [Bool.false_eq_true, if_false]
        split
        · rw [List.length_append]; simp only [List.length_singleton]; omega
        · omega
      · simpa using ih
  have := h k
  have hf := wFrom_le r k
  unfold wTo
  split
  · rw [List.length_append]; simp only [List.length_singleton]; omega
  · omega
end Go.Proofs.Ytgikjopmijomgab

/-
  Plain facts of chapter 18: texts and ends where two bytes side by side may be changed for each other.
-/
import Derived.Test.YtgikjopmijomgabL18P
namespace Go.Proofs.Ytgikjopmijomgab
open Go.RowKit
set_option linter.unusedVariables false
set_option maxRecDepth 100000
/-- the bytes i - 1, i of s are the bytes k, k - 1 of r -/
def swapB (s r : ByteArray) (k i : Nat) : Bool := decide (0 < i) && decide (0 < k) && (byteAt s i == byteAt r (k - 1)) && (byteAt s (i - 1) == byteAt r k)
def swapMin (yes : Bool) (m o : Int) : Int := if yes then (if o + 1 < m then o + 1 else m) else m
/-- by how much the first i bytes of s differ from a piece that ends behind k bytes of r, swaps too -/
def swAt (s r : ByteArray) (rise : Int) : Nat → Nat → Int
  | 0, i => (i : Int)
  | k + 1, 0 => swAt s r rise k 0 + rise
  | k + 1, i + 1 => swapMin (swapB s r k i) (min3 (swAt s r rise k i + (df (byteAt s i) (byteAt r k) : Nat)) (swAt s r rise k (i + 1) + 1) (swAt s r rise (k + 1) i + 1)) (swAt s r rise (k - 1) (i - 1))
termination_by k i => (k, i)
theorem sw_first (s r : ByteArray) (rise : Int) (i : Nat) : swAt s r rise 0 i = (i : Int) := by rw [swAt]
theorem sw_next0 (s r : ByteArray) (rise : Int) (k : Nat) : swAt s r rise (k + 1) 0 = swAt s r rise k 0 + rise := by rw [swAt]
theorem sw_step (s r : ByteArray) (rise : Int) (k i : Nat) : swAt s r rise (k + 1) (i + 1) = swapMin (swapB s r k i) (min3 (swAt s r rise k i + (df (byteAt s i) (byteAt r k) : Nat)) (swAt s r rise k (i + 1) + 1) (swAt s r rise (k + 1) i + 1)) (swAt s r rise (k - 1) (i - 1)) := by rw [swAt]
theorem sw_head (s r : ByteArray) (k : Nat) : swAt s r 1 k 0 = k := by
  induction k with
  | zero => rw [sw_first]
  | succ k ih => rw [sw_next0, ih]; omega
theorem sw_head0 (s r : ByteArray) (k : Nat) : swAt s r 0 k 0 = 0 := by
  induction k with
  | zero => rw [sw_first]; rfl
  | succ k ih => rw [sw_next0, ih]; omega
theorem swapMin_spec (y : Bool) (m o : Int) : swapMin y m o ≤ m ∧ (y = true → swapMin y m o ≤ o + 1) ∧ (swapMin y m o = m ∨ (y = true ∧ swapMin y m o = o + 1)) := by
  unfold swapMin; cases y
  · simp
  · simp only [if_true]; split <;> simp <;> omega
theorem swapB_pos {s r : ByteArray} {k i : Nat} (h : swapB s r k i = true) : 0 < i ∧ 0 < k := by
  unfold swapB at h; simp only [Bool.and_eq_true, decide_eq_true_eq] at h; exact ⟨h.1.1.1, h.1.1.2⟩
theorem sw_pair {M : Nat → Nat → Prop} (h0 : ∀ i, M 0 i) (h2 : ∀ k, M k 0 → M (k + 1) 0) (h3 : ∀ k i, (∀ k' i', k' ≤ k → M k' i') → M (k + 1) i → M (k + 1) (i + 1)) : ∀ k i, M k i := by
  intro k
  induction k using Nat.strongRecOn with
  | ind k ihk =>
    cases k with
    | zero => exact h0
    | succ k =>
      intro i
      induction i with
      | zero => exact h2 k (ihk k (by omega) 0)
      | succ i ih => exact h3 k i (fun k' i' h => ihk k' (by omega) i') ih
theorem sw_bnd (s r : ByteArray) {rise : Int} (h0 : 0 ≤ rise) (h1 : rise ≤ 1) (k i : Nat) : 0 ≤ swAt s r rise k i ∧ swAt s r rise k i ≤ (i : Int) + k := by
  refine sw_pair (M := fun k i => 0 ≤ swAt s r rise k i ∧ swAt s r rise k i ≤ (i : Int) + k) ?_ ?_ ?_ k i
  · intro i; rw [sw_first]; omega
  · intro k h; rw [sw_next0]; omega
  · intro k i h1 h2
    rw [sw_step]
    have a := h1 k i (by omega)
    have b := h1 k (i + 1) (by omega)
    have c := h1 (k - 1) (i - 1) (by omega)
    have m := min3_spec (swAt s r rise k i + (df (byteAt s i) (byteAt r k) : Nat)) (swAt s r rise k (i + 1) + 1) (swAt s r rise (k + 1) i + 1)
    have q := swapMin_spec (swapB s r k i) (min3 (swAt s r rise k i + (df (byteAt s i) (byteAt r k) : Nat)) (swAt s r rise k (i + 1) + 1) (swAt s r rise (k + 1) i + 1)) (swAt s r rise (k - 1) (i - 1))
    omega
/-- no more than without swaps, and no less than the half -/
theorem sw_col (s r : ByteArray) {rise : Int} (h0 : 0 ≤ rise) (k i : Nat) : swAt s r rise k i ≤ colAt s r rise k i ∧ colAt s r rise k i ≤ 2 * swAt s r rise k i := by
  have hpos : ∀ k i, 0 ≤ swAt s r rise k i := by
    intro k i
    refine sw_pair (M := fun k i => 0 ≤ swAt s r rise k i) ?_ ?_ ?_ k i
    · intro i; rw [sw_first]; omega
    · intro k h; rw [sw_next0]; omega
    · intro k i h1 h2
      rw [sw_step]
      have a := h1 k i (by omega)
      have b := h1 k (i + 1) (by omega)
      have c := h1 (k - 1) (i - 1) (by omega)
      have m := min3_spec (swAt s r rise k i + (df (byteAt s i) (byteAt r k) : Nat)) (swAt s r rise k (i + 1) + 1) (swAt s r rise (k + 1) i + 1)
      have q := swapMin_spec (swapB s r k i) (min3 (swAt s r rise k i + (df (byteAt s i) (byteAt r k) : Nat)) (swAt s r rise k (i + 1) + 1) (swAt s r rise (k + 1) i + 1)) (swAt s r rise (k - 1) (i - 1))
      omega
  refine sw_pair (M := fun k i => swAt s r rise k i ≤ colAt s r rise k i ∧ colAt s r rise k i ≤ 2 * swAt s r rise k i) ?_ ?_ ?_ k i
  · intro i; rw [sw_first, colAt_first0]; omega
  · intro k h; rw [sw_next0, colAt_next0]; omega
  · intro k i h1 h2
    rw [sw_step, colAt_step]
    have a := h1 k i (by omega)
    have b := h1 k (i + 1) (by omega)
    have c := h1 (k - 1) (i - 1) (by omega)
    have m := min3_spec (swAt s r rise k i + (df (byteAt s i) (byteAt r k) : Nat)) (swAt s r rise k (i + 1) + 1) (swAt s r rise (k + 1) i + 1)
    have m2 := min3_spec (colAt s r rise k i + (df (byteAt s i) (byteAt r k) : Nat)) (colAt s r rise k (i + 1) + 1) (colAt s r rise (k + 1) i + 1)
    have q := swapMin_spec (swapB s r k i) (min3 (swAt s r rise k i + (df (byteAt s i) (byteAt r k) : Nat)) (swAt s r rise k (i + 1) + 1) (swAt s r rise (k + 1) i + 1)) (swAt s r rise (k - 1) (i - 1))
    have hd : df (byteAt s i) (byteAt r k) ≤ 1 := by unfold df; split <;> omega
    have hx : swapB s r k i = true → colAt s r rise k i ≤ colAt s r rise (k - 1) (i - 1) + 1 := by
      intro hs
      obtain ⟨hi, hk⟩ := swapB_pos hs
      obtain ⟨i, rfl⟩ : ∃ j, i = j + 1 := ⟨i - 1, by omega⟩
      obtain ⟨k, rfl⟩ : ∃ j, k = j + 1 := ⟨k - 1, by omega⟩
      simp only [Nat.add_sub_cancel]
      rw [colAt_step]
      have m3 := min3_spec (colAt s r rise k i + (df (byteAt s i) (byteAt r k) : Nat)) (colAt s r rise k (i + 1) + 1) (colAt s r rise (k + 1) i + 1)
      have hd : df (byteAt s i) (byteAt r k) ≤ 1 := by unfold df; split <;> omega
      omega
    have := hpos (k - 1) (i - 1)
    rcases q.2.2 with e | ⟨e, e2⟩
    · rw [e]; omega
    · have := hx e; rw [e2]; omega
theorem swapB_symm (s r : ByteArray) (k i : Nat) : swapB r s i k = swapB s r k i := by
  unfold swapB
  rw [Bool.eq_iff_iff]; simp only [Bool.and_eq_true, decide_eq_true_eq, beq_iff_eq]
  constructor
  · rintro ⟨⟨⟨a, b⟩, c⟩, d⟩; exact ⟨⟨⟨b, a⟩, d.symm⟩, c.symm⟩
  · rintro ⟨⟨⟨a, b⟩, c⟩, d⟩; exact ⟨⟨⟨b, a⟩, d.symm⟩, c.symm⟩
theorem sw_symm (s r : ByteArray) (k i : Nat) : swAt r s 1 i k = swAt s r 1 k i := by
  refine sw_pair (M := fun k i => swAt r s 1 i k = swAt s r 1 k i) ?_ ?_ ?_ k i
  · intro i; rw [sw_head, sw_first]
  · intro k h; rw [sw_first, sw_head]
  · intro k i h1 h2
    rw [sw_step, sw_step, h1 k i (by omega), h1 k (i + 1) (by omega), h2, h1 (k - 1) (i - 1) (by omega), swapB_symm, min3_perm, df_symm]
end Go.Proofs.Ytgikjopmijomgab

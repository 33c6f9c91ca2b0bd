/-
  Plain facts of chapter 18: how far a place is is by how much the nearest piece that ends there differs, swaps too.
-/
import Derived.Test.YtgikjopmijomgabSwapFacts
import Derived.Test.YtgikjopmijomgabL18Ends
namespace Go.Proofs.Ytgikjopmijomgab
open Go.RowKit
set_option linter.unusedVariables false
set_option maxRecDepth 100000
theorem sw_le (s r : ByteArray) (k i : Nat) : swAt s r 0 k i ≤ i := by
  induction i with
  | zero => rw [sw_head0]; exact Int.le_refl _
  | succ i ih =>
    cases k with
    | zero => rw [sw_first]; exact Int.le_refl _
    | succ k =>
      rw [sw_step]
      have m := min3_spec (swAt s r 0 k i + (df (byteAt s i) (byteAt r k) : Nat)) (swAt s r 0 k (i + 1) + 1) (swAt s r 0 (k + 1) i + 1)
      have q := swapMin_spec (swapB s r k i) (min3 (swAt s r 0 k i + (df (byteAt s i) (byteAt r k) : Nat)) (swAt s r 0 k (i + 1) + 1) (swAt s r 0 (k + 1) i + 1)) (swAt s r 0 (k - 1) (i - 1))
      omega
theorem swapB_iff (s r : ByteArray) (k i : Nat) : swapB s r k i = true ↔ 0 < i ∧ 0 < k ∧ byteAt s i = byteAt r (k - 1) ∧ byteAt s (i - 1) = byteAt r k := by
  unfold swapB
  simp only [Bool.and_eq_true, decide_eq_true_eq, beq_iff_eq]
  constructor
  · rintro ⟨⟨⟨a, b⟩, c⟩, d⟩; exact ⟨a, b, c, d⟩
  · rintro ⟨a, b, c, d⟩; exact ⟨⟨⟨a, b⟩, c⟩, d⟩
/-- no piece that ends there is nearer -/
theorem sw_piece_ge (s r p : ByteArray) (j n : Nat) (hp : ∀ i, i < n → byteAt p i = byteAt r (j + i)) : ∀ k i, k ≤ n → swAt s r 0 (j + k) i ≤ swAt s p 1 k i := by
  intro k i
  refine sw_pair (M := fun k i => k ≤ n → swAt s r 0 (j + k) i ≤ swAt s p 1 k i) ?_ ?_ ?_ k i
  · intro i _; rw [sw_first]; exact sw_le s r _ i
  · intro k _ hk; rw [← Nat.add_assoc, sw_head0, sw_head]; omega
  · intro k i h1 h2 hk
    rw [← Nat.add_assoc, sw_step, sw_step, hp k (by omega)]
    have a := h1 k i (by omega) (by omega)
    have b := h1 k (i + 1) (by omega) (by omega)
    have c := h2 hk
    rw [← Nat.add_assoc] at c
    have m := min3_spec (swAt s r 0 (j + k) i + (df (byteAt s i) (byteAt r (j + k)) : Nat)) (swAt s r 0 (j + k) (i + 1) + 1) (swAt s r 0 (j + k + 1) i + 1)
    have m2 := min3_spec (swAt s p 1 k i + (df (byteAt s i) (byteAt r (j + k)) : Nat)) (swAt s p 1 k (i + 1) + 1) (swAt s p 1 (k + 1) i + 1)
    have q := swapMin_spec (swapB s r (j + k) i) (min3 (swAt s r 0 (j + k) i + (df (byteAt s i) (byteAt r (j + k)) : Nat)) (swAt s r 0 (j + k) (i + 1) + 1) (swAt s r 0 (j + k + 1) i + 1)) (swAt s r 0 (j + k - 1) (i - 1))
    have q2 := swapMin_spec (swapB s p k i) (min3 (swAt s p 1 k i + (df (byteAt s i) (byteAt r (j + k)) : Nat)) (swAt s p 1 k (i + 1) + 1) (swAt s p 1 (k + 1) i + 1)) (swAt s p 1 (k - 1) (i - 1))
    rcases q2.2.2 with e | ⟨e, e2⟩
    · rw [e]; omega
    · obtain ⟨x1, x2, x3, x4⟩ := (swapB_iff s p k i).1 e
      have e3 : swapB s r (j + k) i = true := (swapB_iff s r (j + k) i).2 ⟨x1, by omega, by rw [x3, hp (k - 1) (by omega)]; congr 1; omega, by rw [x4, hp k (by omega)]⟩
      have d := h1 (k - 1) (i - 1) (by omega) (by omega)
      rw [show j + (k - 1) = j + k - 1 by omega] at d
      have := q.2.1 e3
      rw [e2]; omega
/-- some piece that ends there is as near -/
theorem sw_piece_is (s r : ByteArray) (p : Nat → ByteArray) (q : Nat) (hp : ∀ j i, j + i < q → byteAt (p j) i = byteAt r (j + i)) : ∀ k i, k ≤ q → ∃ j, j ≤ k ∧ swAt s (p j) 1 (k - j) i ≤ swAt s r 0 k i := by
  intro k i
  refine sw_pair (M := fun k i => k ≤ q → ∃ j, j ≤ k ∧ swAt s (p j) 1 (k - j) i ≤ swAt s r 0 k i) ?_ ?_ ?_ k i
  · intro i _; exact ⟨0, by omega, by rw [sw_first, sw_first]; exact Int.le_refl _⟩
  · intro k _ hk; exact ⟨k + 1, by omega, by rw [Nat.sub_self, sw_first, sw_head0]; exact Int.le_refl _⟩
  · intro k i h1 h2 hk
    have st : ∀ j, j ≤ k → swAt s (p j) 1 (k + 1 - j) (i + 1) ≤ swAt s (p j) 1 (k - j) i + (df (byteAt s i) (byteAt r k) : Nat) ∧ swAt s (p j) 1 (k + 1 - j) (i + 1) ≤ swAt s (p j) 1 (k - j) (i + 1) + 1 ∧ swAt s (p j) 1 (k + 1 - j) (i + 1) ≤ swAt s (p j) 1 (k + 1 - j) i + 1 ∧ (swapB s (p j) (k - j) i = true → swAt s (p j) 1 (k + 1 - j) (i + 1) ≤ swAt s (p j) 1 (k - j - 1) (i - 1) + 1) := by
      intro j hj
      rw [show k + 1 - j = k - j + 1 by omega, sw_step, hp j (k - j) (by omega), show j + (k - j) = k by omega]
      have m := min3_spec (swAt s (p j) 1 (k - j) i + (df (byteAt s i) (byteAt r k) : Nat)) (swAt s (p j) 1 (k - j) (i + 1) + 1) (swAt s (p j) 1 (k - j + 1) i + 1)
      have n := swapMin_spec (swapB s (p j) (k - j) i) (min3 (swAt s (p j) 1 (k - j) i + (df (byteAt s i) (byteAt r k) : Nat)) (swAt s (p j) 1 (k - j) (i + 1) + 1) (swAt s (p j) 1 (k - j + 1) i + 1)) (swAt s (p j) 1 (k - j - 1) (i - 1))
      exact ⟨by omega, by omega, by omega, n.2.1⟩
    rw [sw_step]
    have m := min3_spec (swAt s r 0 k i + (df (byteAt s i) (byteAt r k) : Nat)) (swAt s r 0 k (i + 1) + 1) (swAt s r 0 (k + 1) i + 1)
    have n := swapMin_spec (swapB s r k i) (min3 (swAt s r 0 k i + (df (byteAt s i) (byteAt r k) : Nat)) (swAt s r 0 k (i + 1) + 1) (swAt s r 0 (k + 1) i + 1)) (swAt s r 0 (k - 1) (i - 1))
    rcases n.2.2 with e | ⟨e, e2⟩
    · rw [e]
      rcases m.2.2.2 with e1 | e1 | e1
      · obtain ⟨j, hj, h⟩ := h1 k i (by omega) (by omega)
        exact ⟨j, by omega, by rw [e1]; have := (st j hj).1; omega⟩
      · obtain ⟨j, hj, h⟩ := h1 k (i + 1) (by omega) (by omega)
        exact ⟨j, by omega, by rw [e1]; have := (st j hj).2.1; omega⟩
      · obtain ⟨j, hj, h⟩ := h2 hk
        by_cases hjk : j ≤ k
        · exact ⟨j, hj, by rw [e1]; have := (st j hjk).2.2.1; omega⟩
        · obtain rfl : j = k + 1 := by omega
          refine ⟨k + 1, by omega, ?_⟩
          rw [e1]
          rw [Nat.sub_self, sw_first] at h ⊢
          omega
    · obtain ⟨x1, x2, x3, x4⟩ := (swapB_iff s r k i).1 e
      obtain ⟨j, hj, h⟩ := h1 (k - 1) (i - 1) (by omega) (by omega)
      refine ⟨j, by omega, ?_⟩
      have e3 : swapB s (p j) (k - j) i = true := (swapB_iff _ _ _ _).2 ⟨x1, by omega, by rw [x3, hp j (k - j - 1) (by omega)]; congr 1; omega, by rw [x4, hp j (k - j) (by omega)]; congr 1; omega⟩
      have := (st j (by omega)).2.2.2 e3
      rw [show k - j - 1 = k - 1 - j by omega] at this
      rw [e2]; omega
def leastW (s r : ByteArray) (f : Bool) (e : Nat) : Nat → Int
  | 0 => s.size
  | j + 1 => if swDI s (r.extract j e) f < leastW s r f e j then swDI s (r.extract j e) f else leastW s r f e j
theorem byteAt_piece (r : ByteArray) (f : Bool) (q j i : Nat) (hq : q ≤ r.size) (h : j + i < q) : byteAt (foldIf f (r.extract j q)) i = byteAt (foldIf f r) (j + i) := by
  have e : ∀ (x : ByteArray) n, byteAt x n = (bl x).getD n 0 := fun _ _ => rfl
  rw [e, e, bl_foldIf, bl_foldIf, fl_extract, List.getD_eq_getElem?_getD, List.getD_eq_getElem?_getD, List.getElem?_drop, List.getElem?_take_of_lt h]
theorem sw_least (s r : ByteArray) (f : Bool) (q : Nat) (hq : q ≤ r.size) (hs : s.size ≤ 200) (hr : r.size ≤ 200) : leastW s r f q (q + 1) = swD s r f q := by
  have hz : ∀ j, j ≤ q → (r.extract j q).size = q - j := fun j hj => by rw [ByteArray.size_extract]; omega
  have hd : ∀ j, j ≤ q → swDI s (r.extract j q) f = swAt (foldIf f s) (foldIf f (r.extract j q)) 1 (q - j) s.size := fun j hj => by rw [swDI_yes ⟨hs, by rw [hz j hj]; omega⟩, hz j hj]
  have low : ∀ j, j ≤ q → swD s r f q ≤ swDI s (r.extract j q) f := fun j hj => by
    rw [hd j hj]
    have := sw_piece_ge (foldIf f s) (foldIf f r) (foldIf f (r.extract j q)) j (q - j) (fun i hi => byteAt_piece r f q j i hq (by omega)) (q - j) s.size (Nat.le_refl _)
    rw [show j + (q - j) = q by omega] at this
    exact this
  have top : swD s r f q ≤ s.size := sw_le _ _ _ _
  have lowW : ∀ m, m ≤ q + 1 → swD s r f q ≤ leastW s r f q m := by
    intro m
    induction m with
    | zero => intro _; exact top
    | succ m ih => intro hm; rw [leastW]; have := ih (by omega); have := low m (by omega); split <;> omega
  have leW : ∀ m j, j < m → leastW s r f q m ≤ swDI s (r.extract j q) f := by
    intro m
    induction m with
    | zero => intro j hj; omega
    | succ m ih =>
      intro j hj
      rw [leastW]
      by_cases e : j = m
      · subst e; split <;> omega
      · have := ih j (by omega); split <;> omega
  obtain ⟨j, hj, h⟩ := sw_piece_is (foldIf f s) (foldIf f r) (fun j => foldIf f (r.extract j q)) q (fun j i hi => byteAt_piece r f q j i hq hi) q s.size (Nat.le_refl _)
  rw [← hd j hj] at h
  have h2 := leW (q + 1) j (by omega)
  have h3 := lowW (q + 1) (Nat.le_refl _)
  exact Int.le_antisymm (Int.le_trans h2 h) h3
/-- with swaps no more differ than without -/
theorem swD_le (s r : ByteArray) (f : Bool) (k : Nat) : swD s r f k ≤ lastD s r f k := (sw_col _ _ (by decide) k s.size).1
theorem endN_dom {d e : Nat → Int} (h : ∀ k, d k ≤ e k) (K : Int) (m : Nat) : endN e K m ≤ endN d K m := by
  induction m with
  | zero => exact Nat.le_refl _
  | succ m ih =>
    simp only [endN]
    have := h m
    by_cases c : e m ≤ K
    · rw [if_pos c, if_pos (by omega)]; omega
    · rw [if_neg c]; split <;> omega
end Go.Proofs.Ytgikjopmijomgab

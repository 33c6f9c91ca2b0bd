/-
  Plain facts of chapter 18: a text with two bytes that stand side by side changed for each other differs by one at most; how SwapDist stands to Distance.
-/
import Derived.Test.YtgikjopmijomgabL18Dist
import Derived.Test.YtgikjopmijomgabDistFacts
namespace Go.Proofs.Ytgikjopmijomgab
open Go.RowKit
set_option linter.unusedVariables false
set_option maxRecDepth 100000
theorem swDI_bnd {s r : ByteArray} (f : Bool) (hs : s.size ≤ 200) (hr : r.size ≤ 200) : 0 ≤ swDI s r f ∧ swDI s r f ≤ 400 := by
  rw [swDI_yes ⟨hs, hr⟩]
  have := sw_bnd (foldIf f s) (foldIf f r) (rise := 1) (by decide) (by decide) r.size s.size
  omega
theorem swDI_symm (s r : ByteArray) (f : Bool) : swDI r s f = swDI s r f := by
  by_cases h : s.size ≤ 200 ∧ r.size ≤ 200
  · rw [swDI_yes h, swDI_yes ⟨h.2, h.1⟩, sw_symm]
  · rw [swDI_no h, swDI_no (fun h2 => h ⟨h2.2, h2.1⟩)]
theorem swDI_dist {s r : ByteArray} (f : Bool) (hs : s.size ≤ 200) (hr : r.size ≤ 200) : swDI s r f ≤ distI s r f ∧ distI s r f ≤ 2 * swDI s r f := by
  have e : distI s r f = colAt (foldIf f s) (foldIf f r) 1 r.size s.size := by
    rw [distI_ed hs hr, colAt_ed _ _ _ _ (by rw [foldIf_size]; exact Nat.le_refl _) (by rw [foldIf_size]; exact Nat.le_refl _), bl_foldIf, bl_foldIf]
    rw [List.take_of_length_le (by rw [fl_len]; exact Nat.le_refl _), List.take_of_length_le (by rw [fl_len]; exact Nat.le_refl _)]
  rw [swDI_yes ⟨hs, hr⟩, e]
  exact sw_col _ _ (by decide) _ _
theorem swDI_zero {s r : ByteArray} (f : Bool) (hs : s.size ≤ 200) (hr : r.size ≤ 200) : (swDI s r f == 0) = alikeS s r f := by
  rw [← dist_zero s r f hs hr, Bool.eq_iff_iff, beq_iff_eq, beq_iff_eq]
  have := swDI_dist (s := s) (r := r) f hs hr
  have := (swDI_bnd (s := s) (r := r) f hs hr).1
  omega
/-- s with its bytes k, k + 1 changed for each other, as the law writes it -/
def swapS (s : ByteArray) (k : Nat) : ByteArray := s.extract 0 k ++ s.extract (k + 1) (k + 2) ++ s.extract k (k + 1) ++ s.extract (k + 2) s.size
theorem swapS_bl (s : ByteArray) (k : Nat) (A D : List UInt8) (a b : UInt8) (h : bl s = A ++ a :: b :: D) (hk : A.length = k) : bl (swapS s k) = A ++ b :: a :: D := by
  unfold swapS
  have hl : s.size = A.length + (D.length + 2) := by rw [← bl_len, h]; simp
  rw [bl_append, bl_append, bl_append, bl_extract, bl_extract, bl_extract, bl_extract, h]
  subst hk
  have t1 : (A ++ a :: b :: D).take A.length = A := by simp
  have t2 : (A ++ a :: b :: D).take (A.length + 1) = A ++ [a] := by rw [List.take_append, List.take_of_length_le (by omega)]; simp
  have t3 : (A ++ a :: b :: D).take (A.length + 2) = A ++ [a, b] := by rw [List.take_append, List.take_of_length_le (by omega)]; simp
  have t4 : (A ++ a :: b :: D).take s.size = A ++ a :: b :: D := List.take_of_length_le (by simp; omega)
  rw [t1, t2, t3, t4]
  have d1 : (A ++ [a, b]).drop (A.length + 1) = [b] := by rw [List.drop_append]; simp
  have d2 : (A ++ [a]).drop A.length = [a] := by simp
  have d3 : (A ++ a :: b :: D).drop (A.length + 2) = D := by rw [List.drop_append]; simp
  rw [d1, d2, d3]
  simp
theorem split2 (L : List UInt8) (k : Nat) (h : k + 2 ≤ L.length) : ∃ A a b D, L = A ++ a :: b :: D ∧ A.length = k := by
  refine ⟨L.take k, L[k], L[k + 1], L.drop (k + 2), ?_, by rw [List.length_take]; omega⟩
  rw [List.getElem_cons_drop, List.getElem_cons_drop, List.take_append_drop]
theorem swapS_size (s : ByteArray) (k : Nat) (h : k + 2 ≤ s.size) : (swapS s k).size = s.size := by
  obtain ⟨A, a, b, D, hL, hA⟩ := split2 (bl s) k (by rw [bl_len]; exact h)
  rw [← bl_len, swapS_bl s k A D a b hL hA, ← bl_len, hL]; simp
theorem swapS_at (s : ByteArray) (k i : Nat) (h : k + 2 ≤ s.size) : byteAt (swapS s k) i = if i = k then byteAt s (k + 1) else if i = k + 1 then byteAt s k else byteAt s i := by
  obtain ⟨A, a, b, D, hL, hA⟩ := split2 (bl s) k (by rw [bl_len]; exact h)
  have e : ∀ (q : ByteArray) j, byteAt q j = (bl q).getD j 0 := fun _ _ => rfl
  rw [e, e, e, e, swapS_bl s k A D a b hL hA, hL]
  subst hA
  simp only [List.getD_eq_getElem?_getD]
  by_cases h1 : i < A.length
  · rw [if_neg (by omega), if_neg (by omega), List.getElem?_append_left h1, List.getElem?_append_left h1]
  · obtain ⟨j, rfl⟩ : ∃ j, i = A.length + j := ⟨i - A.length, by omega⟩
    rw [List.getElem?_append_right (by omega), List.getElem?_append_right (by omega), List.getElem?_append_right (by omega), List.getElem?_append_right (by omega)]
    simp only [Nat.add_sub_cancel_left, Nat.sub_self]
    match j with
    | 0 => simp
    | 1 => simp
    | j + 2 => rw [if_neg (by omega), if_neg (by omega)]; simp
theorem swapB_of {s r : ByteArray} {k : Nat} (h1 : byteAt s (k + 1) = byteAt r k) (h2 : byteAt s k = byteAt r (k + 1)) : swapB s r (k + 1) (k + 1) = true := by
  unfold swapB; simp [h1, h2]
theorem sw_swapped (s r : ByteArray) (k : Nat) (hr : ∀ i, i ≠ k → i ≠ k + 1 → byteAt r i = byteAt s i) (h1 : byteAt r k = byteAt s (k + 1)) (h2 : byteAt r (k + 1) = byteAt s k) : ∀ n, k + 2 ≤ n → swAt s r 1 n n ≤ 1 := by
  have step : ∀ j, byteAt r j = byteAt s j → swAt s r 1 (j + 1) (j + 1) ≤ swAt s r 1 j j := fun j hj => by
    rw [sw_step, hj, df_self]
    have m := min3_spec (swAt s r 1 j j + ((0 : Nat) : Int)) (swAt s r 1 j (j + 1) + 1) (swAt s r 1 (j + 1) j + 1)
    have q := swapMin_spec (swapB s r j j) (min3 (swAt s r 1 j j + ((0 : Nat) : Int)) (swAt s r 1 j (j + 1) + 1) (swAt s r 1 (j + 1) j + 1)) (swAt s r 1 (j - 1) (j - 1))
    omega
  have low : ∀ j, j ≤ k → swAt s r 1 j j ≤ 0 := by
    intro j
    induction j with
    | zero => intro _; rw [sw_first]; exact Int.le_refl _
    | succ j ih => intro hj; exact Int.le_trans (step j (hr j (by omega) (by omega))) (ih (by omega))
  have at2 : swAt s r 1 (k + 2) (k + 2) ≤ 1 := by
    rw [sw_step, swapB_of h1.symm h2.symm]
    have m := (swapMin_spec true (min3 (swAt s r 1 (k + 1) (k + 1) + (df (byteAt s (k + 1)) (byteAt r (k + 1)) : Nat)) (swAt s r 1 (k + 1) (k + 1 + 1) + 1) (swAt s r 1 (k + 1 + 1) (k + 1) + 1)) (swAt s r 1 (k + 1 - 1) (k + 1 - 1))).2.1 rfl
    rw [Nat.add_sub_cancel] at m
    have := low k (Nat.le_refl _)
    exact Int.le_trans m (by omega)
  intro n
  induction n with
  | zero => intro h; omega
  | succ n ih =>
    intro h
    by_cases e : n + 1 = k + 2
    · rw [e]; exact at2
    · exact Int.le_trans (step n (hr n (by omega) (by omega))) (ih (by omega))
theorem swDI_swapped (s : ByteArray) (f : Bool) (k : Nat) (h : k + 2 ≤ s.size) (hs : s.size ≤ 200) : swDI s (swapS s k) f ≤ 1 := by
  have hz := swapS_size s k h
  rw [swDI_yes ⟨hs, by omega⟩, hz]
  have hb : ∀ (q : ByteArray) i, i < q.size → byteAt (foldIf f q) i = if f then foldB (byteAt q i) else byteAt q i := fun q i hi => by
    cases f
    · rfl
    · exact byteAt_foldS q i hi
  have hout : ∀ i, s.size ≤ i → byteAt (foldIf f (swapS s k)) i = byteAt (foldIf f s) i := fun i hi => by
    have e : ∀ (q : ByteArray), q.size ≤ i → byteAt q i = 0 := fun q hq => by
      unfold byteAt
      have hl : q.data.toList.length = q.size := Array.length_toList
      rw [List.getD_eq_getElem?_getD, List.getElem?_eq_none (by omega)]; rfl
    rw [e _ (by rw [foldIf_size]; omega), e _ (by rw [foldIf_size]; omega)]
  refine sw_swapped (foldIf f s) (foldIf f (swapS s k)) k (fun i h1 h2 => ?_) ?_ ?_ s.size (by omega)
  · by_cases hi : i < s.size
    · have e := swapS_at s k i h
      rw [if_neg h1, if_neg h2] at e
      rw [hb _ i (by omega), hb _ i hi, e]
    · exact hout i (by omega)
  · have e := swapS_at s k k h
    rw [if_pos rfl] at e
    rw [hb _ k (by omega), hb _ (k + 1) (by omega), e]
  · have e := swapS_at s k (k + 1) h
    rw [if_neg (show ¬ k + 1 = k by omega), if_pos rfl] at e
    rw [hb _ (k + 1) (by omega), hb _ k (by omega), e]
end Go.Proofs.Ytgikjopmijomgab

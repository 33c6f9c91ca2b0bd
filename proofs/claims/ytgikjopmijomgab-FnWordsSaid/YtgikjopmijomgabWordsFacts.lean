/-
  Plain facts of chapter 19: words stand apart; a text folded has the same; of two texts with a blank between they are those of both.
-/
import Derived.Test.YtgikjopmijomgabL19P
import Derived.Test.YtgikjopmijomgabDistFacts
namespace Go.Proofs.Ytgikjopmijomgab
open Go.RowKit
set_option linter.unusedVariables false
set_option maxRecDepth 100000
theorem w_same {A T : ByteArray} (n : Nat) (h : ∀ i, i < n → letAt T i = letAt A i) : ∀ k, k ≤ n → wFrom T k = wFrom A k ∧ wDone T k = wDone A k := by
  intro k
  induction k with
  | zero => intro _; exact ⟨rfl, rfl⟩
  | succ k ih =>
    intro hk
    obtain ⟨h1, h2⟩ := ih (by omega)
    rw [wFrom, wFrom, wDone, wDone, h k (by omega), h1, h2]
    exact ⟨rfl, rfl⟩
theorem wTo_same {A T : ByteArray} (n : Nat) (h : ∀ i, i < n → letAt T i = letAt A i) : wTo T n = wTo A n := by
  obtain ⟨h1, h2⟩ := w_same n h n (Nat.le_refl _)
  unfold wTo; rw [h1, h2]
theorem letB_foldI (b : Int) (h0 : 0 ≤ b) (h1 : b ≤ 255) : letB (foldI b) = letB b := by
  unfold letB foldI
  apply decide_eq_decide.2
  split <;> omega
theorem words_fold (s : ByteArray) : wordsL (foldS s) = wordsL s := by
  unfold wordsL
  rw [foldS_size]
  refine wTo_same s.size fun i hi => ?_
  unfold letAt
  rw [byteAt_foldS s i hi, foldB_toNat]
  have := (byteAt s i).toNat_lt
  exact letB_foldI _ (by omega) (by omega)
/-- each word ends ahead of the next one's beginning -/
theorem wDone_apart (r : ByteArray) (k : Nat) : ∀ i x y, (wDone r k)[i]? = some x → (wDone r k)[i + 1]? = some y → x.2 < y.1 := by
  induction k with
  | zero => intro i x y h; simp [wDone] at h
  | succ k ih =>
    intro i x y hx hy
    rw [wDone] at hx hy
    cases hl : letAt r k
    · rw [hl] at hx hy
      simp only [Bool.false_eq_true, if_false] at hx hy
      split at hx
      · rename_i hf
        rw [if_pos hf] at hy
        by_cases hi : i + 1 < (wDone r k).length
        · rw [List.getElem?_append_left (by omega)] at hx
          rw [List.getElem?_append_left hi] at hy
          exact ih i x y hx hy
        · have hlen : i + 1 = (wDone r k).length := by
            have := (List.getElem?_eq_some_iff.1 hy).1
            rw [List.length_append] at this
            simp at this; omega
          rw [List.getElem?_append_left (by omega)] at hx
          rw [List.getElem?_append_right (by omega), hlen, Nat.sub_self] at hy
          simp at hy
          have := (wDone_lt r k x (List.mem_of_getElem? hx)).2
          rw [← hy]; exact this
      · rename_i hf
        rw [if_neg hf] at hy
        exact ih i x y hx hy
    · rw [hl] at hx hy
      simp only [if_true] at hx hy
      exact ih i x y hx hy
theorem words_apart (r : ByteArray) : ∀ i x y, (wordsL r)[i]? = some x → (wordsL r)[i + 1]? = some y → x.2 < y.1 := by
  intro i x y hx hy
  unfold wordsL wTo at hx hy
  split at hx
  · rename_i hf
    rw [if_pos hf] at hy
    by_cases hi : i + 1 < (wDone r r.size).length
    · rw [List.getElem?_append_left (by omega)] at hx
      rw [List.getElem?_append_left hi] at hy
      exact wDone_apart r _ i x y hx hy
    · have hlen : i + 1 = (wDone r r.size).length := by
        have := (List.getElem?_eq_some_iff.1 hy).1
        rw [List.length_append] at this
        simp at this; omega
      rw [List.getElem?_append_left (by omega)] at hx
      rw [List.getElem?_append_right (by omega), hlen, Nat.sub_self] at hy
      simp at hy
      have := (wDone_lt r r.size x (List.mem_of_getElem? hx)).2
      rw [← hy]; exact this
  · rename_i hf
    rw [if_neg hf] at hy
    exact wDone_apart r _ i x y hx hy
def shW (c : Nat) (W : List (Nat × Nat)) : List (Nat × Nat) := W.map fun x => (x.1 + c, x.2 + c)
theorem w_right {B T : ByteArray} (c : Nat) (h0 : wFrom T c = c) (hB : ∀ i, i < B.size → letAt T (c + i) = letAt B i) : ∀ k, k ≤ B.size → wFrom T (c + k) = c + wFrom B k ∧ wDone T (c + k) = wDone T c ++ shW c (wDone B k) := by
  intro k
  induction k with
  | zero => intro _; exact ⟨h0, by simp [wDone, shW]⟩
  | succ k ih =>
    intro hk
    obtain ⟨h1, h2⟩ := ih (by omega)
    rw [← Nat.add_assoc, wFrom, wFrom, wDone, wDone, hB k (by omega), h1, h2]
    cases letAt B k
    · simp only [Bool.false_eq_true, if_false]
      refine ⟨by omega, ?_⟩
      by_cases hf : wFrom B k < k
      · rw [if_pos hf, if_pos (by omega)]
        simp [shW, Nat.add_comm]
      · rw [if_neg hf, if_neg (by omega)]
    · simp only [if_true]
      exact ⟨trivial, trivial⟩
theorem words_join (A B : ByteArray) : wordsL (A ++ ⟨#[32]⟩ ++ B) = wordsL A ++ shW (A.size + 1) (wordsL B) := by
  obtain ⟨T, hT⟩ : ∃ T, A ++ ⟨#[32]⟩ ++ B = T := ⟨_, rfl⟩
  have hbl : bl T = bl A ++ 32 :: bl B := by rw [← hT, bl_append, bl_append, List.append_assoc]; rfl
  have hsz : T.size = A.size + 1 + B.size := by rw [← bl_len, hbl, List.length_append, List.length_cons, bl_len, bl_len]; omega
  have e : ∀ (q : ByteArray) j, byteAt q j = (bl q).getD j 0 := fun _ _ => rfl
  have hA : ∀ i, i < A.size → letAt T i = letAt A i := fun i hi => by
    unfold letAt
    rw [e, e, hbl, List.getD_eq_getElem?_getD, List.getD_eq_getElem?_getD, List.getElem?_append_left (by rw [bl_len]; exact hi)]
  have hM : letAt T A.size = false := by
    unfold letAt
    rw [e, hbl, List.getD_eq_getElem?_getD, List.getElem?_append_right (by rw [bl_len]; exact Nat.le_refl _), bl_len, Nat.sub_self]
    rfl
  have hB : ∀ i, i < B.size → letAt T (A.size + 1 + i) = letAt B i := fun i hi => by
    unfold letAt
    rw [e, e, hbl, List.getD_eq_getElem?_getD, List.getD_eq_getElem?_getD, List.getElem?_append_right (by rw [bl_len]; omega), bl_len, show A.size + 1 + i - A.size = i + 1 by omega, List.getElem?_cons_succ]
  have hf : wFrom T (A.size + 1) = A.size + 1 := by rw [wFrom, hM]; simp
  have hd : wDone T (A.size + 1) = wordsL A := by
    rw [wDone, hM]
    simp only [Bool.false_eq_true, if_false]
    have := wTo_same (A := A) (T := T) A.size hA
    unfold wordsL
    rw [← this]; rfl
  obtain ⟨h1, h2⟩ := w_right (B := B) (T := T) (A.size + 1) hf hB B.size (Nat.le_refl _)
  rw [hT]
  show wTo T T.size = _
  rw [hsz]
  unfold wTo
  rw [h1, h2, hd]
  show _ = wordsL A ++ shW (A.size + 1) (wTo B B.size)
  unfold wTo
  by_cases hlt : wFrom B B.size < B.size
  · rw [if_pos hlt, if_pos (by omega)]
    simp [shW, Nat.add_comm]
  · rw [if_neg hlt, if_neg (by omega)]
theorem shW_snoc (c : Nat) (W : List (Nat × Nat)) (x : Nat × Nat) : shW c (W ++ [x]) = shW c W ++ [(x.1 + c, x.2 + c)] := by simp [shW]
theorem shW_len (c : Nat) (W : List (Nat × Nat)) : (shW c W).length = W.length := by simp [shW]
end Go.Proofs.Ytgikjopmijomgab

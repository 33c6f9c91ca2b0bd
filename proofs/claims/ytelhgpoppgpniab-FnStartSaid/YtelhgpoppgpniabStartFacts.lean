/-
  Plain facts of StartOf: what is told is nearest, the shortest of those, and the column's last number; what EndsOf tells of a place.
-/
import Derived.Test.YtelhgpoppgpniabStartB
import Derived.Test.YtelhgpoppgpniabEndsFacts
import Derived.Test.YtelhgpoppgpniabEndsPre
namespace Go.Proofs.Ytelhgpoppgpniab
open Go.RowKit
set_option linter.unusedVariables false
set_option maxRecDepth 100000
theorem backD_zero (s r : ByteArray) (f : Bool) (e : Nat) (hs : s.size ≤ 200) (he : e ≤ r.size) (hr : r.size ≤ 200) : backD s r f e 0 = s.size := by
  unfold backD
  rw [Nat.sub_zero, distI_ed hs (by rw [extract_len r e e he]; omega), fl_extract, List.drop_eq_nil_iff.2 (by rw [List.length_take]; omega), ed_nil', fl_len]
theorem startTo_is (s r : ByteArray) (f : Bool) (e : Nat) (hs : s.size ≤ 200) (he : e ≤ r.size) (hr : r.size ≤ 200) : ∀ k, ∃ k0, k0 ≤ k ∧ startTo s r f e (k + 1) = ((e : Int) - (k0 : Nat), backD s r f e k0) ∧ (∀ j, j ≤ k → backD s r f e k0 ≤ backD s r f e j) ∧ ∀ j, j < k0 → backD s r f e k0 < backD s r f e j := by
  intro k
  induction k with
  | zero =>
    refine ⟨0, Nat.le_refl _, ?_, fun j hj => ?_, fun j hj => by omega⟩
    · have h0 := backD_zero s r f e hs he hr
      rw [startTo_no (by simp only [startTo]; omega), h0]
      simp [startTo]
    · rw [show j = 0 by omega]; exact Int.le_refl _
  | succ k ih =>
    obtain ⟨k0, h1, h2, h3, h4⟩ := ih
    by_cases h : backD s r f e (k + 1) < (startTo s r f e (k + 1)).2
    · have h5 := h
      rw [h2] at h5
      simp only at h5
      refine ⟨k + 1, Nat.le_refl _, startTo_yes h, fun j hj => ?_, fun j hj => ?_⟩
      · by_cases e1 : j = k + 1
        · rw [e1]; exact Int.le_refl _
        · have := h3 j (by omega); omega
      · have := h3 j (by omega); omega
    · have h5 := h
      rw [h2] at h5
      simp only at h5
      refine ⟨k0, by omega, by rw [startTo_no h, h2], fun j hj => ?_, h4⟩
      by_cases e1 : j = k + 1
      · rw [e1]; omega
      · exact h3 j (by omega)
/-- what StartOf tells: where the nearest piece begins, and that none is nearer, nor shorter and as near -/
theorem start_is (s r : ByteArray) (f : Bool) (e : Nat) (hs : s.size ≤ 200) (he : e ≤ r.size) (hr : r.size ≤ 200) :
    ∃ (st : Nat) (d : Int), startTo s r f e (e + 1) = ((st : Int), d) ∧ st ≤ e ∧ distI s (r.extract st e) f = d ∧ (∀ j, j ≤ e → d ≤ distI s (r.extract j e) f ∧ (distI s (r.extract j e) f = d → j ≤ st)) ∧ d = lastD s r f e := by
  obtain ⟨k0, h1, h2, h3, h4⟩ := startTo_is s r f e hs he hr e
  have hd : backD s r f e k0 = distI s (r.extract (e - k0) e) f := rfl
  have hall : ∀ j, j ≤ e → backD s r f e (e - j) = distI s (r.extract j e) f := fun j hj => by unfold backD; rw [show e - (e - j) = j by omega]
  have hlow : ∀ j, j ≤ e → backD s r f e k0 ≤ distI s (r.extract j e) f := fun j hj => by rw [← hall j hj]; exact h3 (e - j) (by omega)
  refine ⟨e - k0, backD s r f e k0, by rw [h2]; congr 1; omega, by omega, hd.symm, fun j hj => ⟨hlow j hj, fun he2 => ?_⟩, ?_⟩
  · by_cases hc : j ≤ e - k0
    · exact hc
    · exfalso
      have := h4 (e - j) (by omega)
      rw [hall j hj] at this
      omega
  · have hb := startTo_bnd s r f e hs he hr (e + 1) (Nat.le_refl _)
    rw [h2] at hb
    have l1 := leastTo_le s r f e (e + 1) (e - k0) (by omega)
    have l2 := leastTo_ge s r f e (e + 1) (backD s r f e k0) hb.2.2.2 (fun j hj => hlow j (by omega))
    rw [← hd] at l1
    have := least_is_last s r f e he hs hr
    omega
/-- is the end at a place, told with d, among the first k? -/
def thereTo (L : List Int) (e d : Int) : Nat → Bool
  | 0 => false
  | k + 1 => thereTo L e d k || (intAt L (k * 2) == e && intAt L (k * 2 + 1) == d)
theorem thereTo_iff (L : List Int) (e d : Int) (k : Nat) : thereTo L e d k = true ↔ ∃ i, i < k ∧ intAt L (i * 2) = e ∧ intAt L (i * 2 + 1) = d := by
  induction k with
  | zero => simp [thereTo]
  | succ k ih =>
    rw [thereTo, Bool.or_eq_true, ih]
    constructor
    · rintro (⟨i, h1, h2⟩ | h)
      · exact ⟨i, by omega, h2⟩
      · simp at h; exact ⟨k, by omega, h⟩
    · rintro ⟨i, h1, h2, h3⟩
      by_cases e1 : i = k
      · right; subst e1; simp [h2, h3]
      · exact .inl ⟨i, by omega, h2, h3⟩
theorem endF_entry (g : Nat → Int) (K : Int) : ∀ m i, i < endN g K m → ∃ j, j < m ∧ intAt (endF g K m) (i * 2) = (j : Nat) ∧ intAt (endF g K m) (i * 2 + 1) = g j ∧ g j ≤ K := by
  intro m
  induction m with
  | zero => intro i hi; simp [endN] at hi
  | succ m ih =>
    intro i hi
    have hl := endF_length g K m
    by_cases c : g m ≤ K
    · have e0 : endN g K (m + 1) = endN g K m + 1 := by simp only [endN]; rw [if_pos c]
      have e1 : endF g K (m + 1) = endF g K m ++ [(m : Int), g m] := by simp only [endF]; rw [if_pos c]
      rw [e1]
      by_cases hi2 : i < endN g K m
      · obtain ⟨j, h1, h2, h3, h4⟩ := ih i hi2
        exact ⟨j, by omega, by rw [intAt_left (by omega)]; exact h2, by rw [intAt_left (by omega)]; exact h3, h4⟩
      · refine ⟨m, by omega, ?_, ?_, c⟩
        · rw [intAt_right' (j := 0) (by omega)]; rfl
        · rw [intAt_right' (j := 1) (by omega)]; rfl
    · have e0 : endN g K (m + 1) = endN g K m := by simp only [endN]; rw [if_neg c]
      have e1 : endF g K (m + 1) = endF g K m := by simp only [endF]; rw [if_neg c]
      rw [e1]
      obtain ⟨j, h1, h2⟩ := ih i (by omega)
      exact ⟨j, by omega, h2⟩
theorem endF_has (g : Nat → Int) (K : Int) (k : Nat) (hk : g k ≤ K) : ∀ m, k < m → ∃ i, i < endN g K m ∧ intAt (endF g K m) (i * 2) = (k : Nat) ∧ intAt (endF g K m) (i * 2 + 1) = g k := by
  intro m
  induction m with
  | zero => intro h; omega
  | succ m ih =>
    intro hm
    have hl := endF_length g K m
    by_cases e : k = m
    · subst e
      have e0 : endN g K (k + 1) = endN g K k + 1 := by simp only [endN]; rw [if_pos hk]
      have e1 : endF g K (k + 1) = endF g K k ++ [(k : Int), g k] := by simp only [endF]; rw [if_pos hk]
      refine ⟨endN g K k, by omega, ?_, ?_⟩
      · rw [e1, intAt_right' (j := 0) (by omega)]; rfl
      · rw [e1, intAt_right' (j := 1) (by omega)]; rfl
    · obtain ⟨i, h1, h2, h3⟩ := ih (by omega)
      by_cases c : g m ≤ K
      · have e0 : endN g K (m + 1) = endN g K m + 1 := by simp only [endN]; rw [if_pos c]
        have e1 : endF g K (m + 1) = endF g K m ++ [(m : Int), g m] := by simp only [endF]; rw [if_pos c]
        exact ⟨i, by omega, by rw [e1, intAt_left (by omega)]; exact h2, by rw [e1, intAt_left (by omega)]; exact h3⟩
      · have e0 : endN g K (m + 1) = endN g K m := by simp only [endN]; rw [if_neg c]
        have e1 : endF g K (m + 1) = endF g K m := by simp only [endF]; rw [if_neg c]
        exact ⟨i, by omega, by rw [e1]; exact h2, by rw [e1]; exact h3⟩
/-- an end is told of a place just where what is nearest there is near enough -/
theorem there_is (s : ByteArray) (K : Int) (f : Bool) (r : ByteArray) (e : Nat) (d : Int) (n : Nat) (hp : patOk s K = true) (hr : r.size ≤ 200) (he : e ≤ r.size) (hd : d = lastD s r f e) (hn : (endsL s K f r).length = n * 2) :
    thereTo (endsL s K f r) (e : Int) d n = decide (d ≤ K) := by
  have hE : endsL s K f r = endF (lastD s r f) K (r.size + 1) := by unfold endsL; rw [hp]; simp [hr]
  rw [hE] at hn ⊢
  rw [endF_length] at hn
  have hnn : n = endN (lastD s r f) K (r.size + 1) := by omega
  subst hnn
  rw [Bool.eq_iff_iff, thereTo_iff, decide_eq_true_eq]
  constructor
  · rintro ⟨i, h1, h2, h3⟩
    obtain ⟨j, j1, j2, j3, j4⟩ := endF_entry _ _ _ _ h1
    rw [j3] at h3
    omega
  · intro h
    obtain ⟨i, h1, h2, h3⟩ := endF_has (lastD s r f) K e (by rw [← hd]; exact h) (r.size + 1) (by omega)
    exact ⟨i, h1, h2, by rw [h3, hd]⟩
end Go.Proofs.Ytelhgpoppgpniab

/-
  Plain facts on lists of ends: the first ones, those nearer, those that are told with one fault more.
-/
import Derived.Test.YtgikjopmijomgabL3EndsL
namespace Go.Proofs.Ytgikjopmijomgab
open Go.RowKit
set_option linter.unusedVariables false
set_option maxRecDepth 100000
theorem intAt_left {L X : List Int} {j : Nat} (h : j < L.length) : intAt (L ++ X) j = intAt L j := by
  simp [intAt, List.getD_eq_getElem?_getD, List.getElem?_append_left h]
theorem intAt_right (L X : List Int) (j : Nat) : intAt (L ++ X) (L.length + j) = intAt X j := by
  simp [intAt, List.getD_eq_getElem?_getD, List.getElem?_append_right]
theorem intAt_right' {L X : List Int} {i j : Nat} (h : i = L.length + j) : intAt (L ++ X) i = intAt X j := by rw [h, intAt_right]
theorem intAt_take {L : List Int} {m i : Nat} (h : i < m) : intAt (L.take m) i = intAt L i := by
  simp [intAt, List.getD_eq_getElem?_getD, h]
theorem endN_mono (d : Nat → Int) (K : Int) (m e : Nat) : endN d K m ≤ endN d K (m + e) := by
  induction e with
  | zero => exact Nat.le_refl _
  | succ e ih => show _ ≤ endN d K (m + e + 1); simp only [endN]; split <;> omega
theorem endF_congr {d d' : Nat → Int} {K : Int} {m : Nat} (h : ∀ j, j < m → d j = d' j) : endF d K m = endF d' K m := by
  induction m with
  | zero => rfl
  | succ m ih => simp only [endF]; rw [h m (by omega), ih fun j hj => h j (by omega)]
theorem endF_pre (d : Nat → Int) (K : Int) (m e : Nat) : endF d K m = (endF d K (m + e)).take (endN d K m * 2) := by
  induction e with
  | zero => rw [Nat.add_zero, List.take_of_length_le (by rw [endF_length]; omega)]
  | succ e ih =>
    show _ = (endF d K (m + e + 1)).take _
    simp only [endF]
    split
    · rw [List.take_append_of_le_length (by rw [endF_length]; have := endN_mono d K m e; omega)]; exact ih
    · exact ih
theorem endF_lt (d : Nat → Int) (K : Int) (m i : Nat) (hi : i < endN d K m) : intAt (endF d K m) (i * 2) < m := by
  induction m with
  | zero => simp [endN] at hi
  | succ m ih =>
    simp only [endN] at hi
    simp only [endF]
    split at hi
    · rename_i hd
      rw [if_pos hd]
      by_cases h1 : i < endN d K m
      · rw [intAt_left (by rw [endF_length]; omega)]; have := ih h1; omega
      · have e : i * 2 = (endF d K m).length + 0 := by rw [endF_length]; omega
        rw [intAt_right' e]; show (m : Int) < _; omega
    · rename_i hd
      rw [if_neg hd]; have := ih hi; omega
theorem endF_ge (d : Nat → Int) (K : Int) (m M i : Nat) (h0 : endN d K m ≤ i) (hi : i < endN d K M) : (m : Int) ≤ intAt (endF d K M) (i * 2) := by
  induction M with
  | zero => simp [endN] at hi
  | succ M ih =>
    have hm := fun h : M + 1 ≤ m => endN_mono d K (M + 1) (m - (M + 1))
    have hE : endN d K (M + 1) = if d M ≤ K then endN d K M + 1 else endN d K M := rfl
    simp only [endF]
    rw [hE] at hi
    split at hi
    · rename_i hd
      rw [if_pos hd] at hE ⊢
      by_cases h1 : i < endN d K M
      · rw [intAt_left (by rw [endF_length]; omega)]; exact ih h1
      · have e : i * 2 = (endF d K M).length + 0 := by rw [endF_length]; omega
        rw [intAt_right' e]
        show (m : Int) ≤ (M : Int)
        by_cases h2 : M + 1 ≤ m
        · have := hm h2
          rw [show M + 1 + (m - (M + 1)) = m by omega, hE] at this
          omega
        · omega
    · rename_i hd
      rw [if_neg hd]; exact ih hi
theorem byteAt_ext (s : ByteArray) (m i : Nat) (hi : i < m) : byteAt (s.extract 0 m) i = byteAt s i := by
  unfold byteAt
  rw [ByteArray.data_extract, Array.toList_extract]
  simp [List.extract_eq_take_drop, List.getD_eq_getElem?_getD, hi]
theorem byteAt_foldIf (f : Bool) (p : ByteArray) (k : Nat) (h : k < p.size) : byteAt (foldIf f p) k = if f then foldB (byteAt p k) else byteAt p k := by
  cases f
  · rfl
  · exact byteAt_foldS p k h
theorem colAt_first (s r : ByteArray) (f : Bool) (rise : Int) (k j : Nat) (hk : k ≤ r.size) (hj : j ≤ k) : colAt s (foldIf f (r.extract 0 k)) rise j = colAt s (foldIf f r) rise j := by
  induction j with
  | zero => rfl
  | succ j ih =>
    have h1 : j < (r.extract 0 k).size := by rw [ByteArray.size_extract]; omega
    have e : byteAt (foldIf f (r.extract 0 k)) j = byteAt (foldIf f r) j := by
      rw [byteAt_foldIf f _ _ h1, byteAt_foldIf f _ _ (by omega), byteAt_ext r k j (by omega)]
    simp only [colAt]; rw [ih (by omega), e]
/-- how many ends lie up to a place -/
def endC (s : ByteArray) (K : Int) (f : Bool) (r : ByteArray) (k : Nat) : Nat := if patOk s K then endN (lastD s r f) K (k + 1) else 0
theorem ends_first (s : ByteArray) (K : Int) (f : Bool) (r : ByteArray) (k : Nat) (hk : k ≤ r.size) (hr : r.size ≤ 200) :
    endsL s K f (r.extract 0 k) = (endsL s K f r).take (endC s K f r k * 2) := by
  have hsz : (r.extract 0 k).size = k := by rw [ByteArray.size_extract]; omega
  unfold endsL endC
  cases hp : patOk s K
  · simp
  · have h1 : decide ((r.extract 0 k).size ≤ 200) = true := by rw [hsz]; simp; omega
    have h2 : decide (r.size ≤ 200) = true := by simpa using hr
    rw [h1, h2, hsz]
    simp only [Bool.and_true, if_true]
    have e := endF_pre (lastD s r f) K (k + 1) (r.size - k)
    rw [show k + 1 + (r.size - k) = r.size + 1 by omega] at e
    rw [← e]
    exact endF_congr fun j hj => by unfold lastD; rw [colAt_first _ r f 0 k j hk (by omega)]
theorem endC_le (s : ByteArray) (K : Int) (f : Bool) (r : ByteArray) (k n : Nat) (hk : k ≤ r.size) (hr : r.size ≤ 200) (hn : (endsL s K f r).length = n * 2) : endC s K f r k ≤ n := by
  unfold endsL at hn; unfold endC
  cases hp : patOk s K
  · simp
  · have h2 : decide (r.size ≤ 200) = true := by simpa using hr
    rw [hp, h2] at hn
    simp only [Bool.and_true, if_true] at hn ⊢
    rw [endF_length] at hn
    have := endN_mono (lastD s r f) K (k + 1) (r.size - k)
    rw [show k + 1 + (r.size - k) = r.size + 1 by omega] at this
    omega
theorem ends_low (s : ByteArray) (K : Int) (f : Bool) (r : ByteArray) (k i : Nat) (hk : k ≤ r.size) (hr : r.size ≤ 200) (hi : i < endC s K f r k) : intAt (endsL s K f r) (i * 2) ≤ k := by
  have hc := endC s K f r k
  unfold endC at hi; unfold endsL
  cases hp : patOk s K
  · rw [hp] at hi; simp at hi
  · have h2 : decide (r.size ≤ 200) = true := by simpa using hr
    rw [hp] at hi
    rw [h2]
    simp only [Bool.and_true, if_true] at hi ⊢
    have e := endF_pre (lastD s r f) K (k + 1) (r.size - k)
    rw [show k + 1 + (r.size - k) = r.size + 1 by omega] at e
    have h3 := endF_lt (lastD s r f) K (k + 1) i hi
    rw [e, intAt_take (by omega)] at h3
    omega
theorem ends_high (s : ByteArray) (K : Int) (f : Bool) (r : ByteArray) (k i n : Nat) (hr : r.size ≤ 200) (hn : (endsL s K f r).length = n * 2) (h0 : endC s K f r k ≤ i) (hi : i < n) : ¬ intAt (endsL s K f r) (i * 2) ≤ k := by
  unfold endsL at hn ⊢; unfold endC at h0
  cases hp : patOk s K
  · rw [hp] at hn; simp at hn; omega
  · have h2 : decide (r.size ≤ 200) = true := by simpa using hr
    rw [hp, h2] at hn
    rw [hp] at h0
    rw [h2]
    simp only [Bool.and_true, if_true] at hn h0 ⊢
    rw [endF_length] at hn
    have := endF_ge (lastD s r f) K (k + 1) (r.size + 1) i h0 (by omega)
    omega
end Go.Proofs.Ytgikjopmijomgab

/-
  Chapter 6: CutStep: plain facts: the text behind the place next to the last one counts for nothing.
-/
import Derived.Test.YtglldmfhjipacaaL6DistS
import Derived.Test.YtglldmfhjipacaaL6NewC
import Derived.Test.YtglldmfhjipacaaL1Mask
namespace Go.Proofs.Ytglldmfhjipacaa
open Go.RowKit
set_option linter.unusedVariables false
set_option maxRecDepth 100000
/-- the numbers behind one more byte, of the column that is cut off, whole -/
def stepN (s : ByteArray) (k : Int) (f : Bool) (b : Int) (L : List Int) : Nat → Int := nextAt (maskG s f b) (wholeF L L.length (k + 1)) 0
def cutStepB (s : ByteArray) (k : Int) (b : Int) (L : List Int) (x : Int) : Bool := cutOkB s k L x && inB b 0 255
def cutStepL (s : ByteArray) (k : Int) (f : Bool) (b : Int) (L : List Int) (x : Int) : List Int := if cutStepB s k b L x then cutL (stepN s k f b L) k (s.size + 1) else []
def cutStepI (s : ByteArray) (k : Int) (f : Bool) (b : Int) (L : List Int) (x : Int) : Int := if cutStepB s k b L x then (lastLe (stepN s k f b L) k (s.size + 1) : Int) else 0
theorem nextAt_fall {eq : Nat → Bool} {C : Nat → Int} {n : Nat} (h0 : C 0 = 0) (h : ∀ i, i < n → C (i + 1) ≤ C i + 1) : ∀ i, i ≤ n → C i - 1 ≤ nextAt eq C 0 i := by
  intro i
  induction i with
  | zero => intro _; simp only [nextAt]; omega
  | succ i ih =>
    intro hi
    have a := ih (by omega)
    have b := h i (by omega)
    have m := min3_spec (if eq i then C i else C i + 1) (C (i + 1) + 1) (nextAt eq C 0 i + 1)
    simp only [nextAt]
    generalize min3 (if eq i then C i else C i + 1) (C (i + 1) + 1) (nextAt eq C 0 i + 1) = q at m ⊢
    cases hq : eq i <;> simp only [hq, Bool.false_eq_true, if_false, if_true] at m <;> omega
theorem nextAt_step {eq : Nat → Bool} {C : Nat → Int} (i : Nat) (y : Int) (h1 : y ≤ C i) (h2 : y ≤ C (i + 1) + 1) (h3 : y ≤ nextAt eq C 0 i + 1) : y ≤ nextAt eq C 0 (i + 1) := by
  have m := min3_spec (if eq i then C i else C i + 1) (C (i + 1) + 1) (nextAt eq C 0 i + 1)
  simp only [nextAt]
  generalize min3 (if eq i then C i else C i + 1) (C (i + 1) + 1) (nextAt eq C 0 i + 1) = q at m ⊢
  cases hq : eq i <;> simp only [hq, Bool.false_eq_true, if_false, if_true] at m <;> omega
theorem lastLe_more {N : Nat → Int} {k : Int} {m : Nat} (d : Nat) (h : ∀ i, m < i → i ≤ m + d → k < N i) : lastLe N k (m + d + 1) = lastLe N k (m + 1) := by
  induction d with
  | zero => rfl
  | succ d ih =>
    have e := lastLe_no (C := N) (k := k) (j := m + d + 1) (by have := h (m + d + 1) (by omega) (by omega); omega)
    have e2 : m + (d + 1) + 1 = m + d + 1 + 1 := by omega
    rw [e2, e]
    exact ih fun i h1 h2 => h i h1 (by omega)
theorem stepsB_all {L : List Int} {n : Nat} (h : ∀ i, i < n → okAt L i = true) : stepsB L n = true := by
  induction n with
  | zero => rfl
  | succ n ih => simp only [stepsB, Bool.and_eq_true]; exact ⟨ih fun i hi => h i (by omega), h n (by omega)⟩
theorem cutOk_steps {s : ByteArray} {k : Int} {L : List Int} {q : Nat} (h : cutOkB s k L q = true) :
    L.length = q + 1 ∧ q ≤ s.size ∧ 1 ≤ s.size ∧ s.size ≤ 20 ∧ 0 ≤ k ∧ k ≤ 4 ∧ intAt L 0 = 0 ∧ (∀ i, i < q + 1 → 0 ≤ intAt L i) ∧ (∀ i, i < q → intAt L i - 1 ≤ intAt L (i + 1) ∧ intAt L (i + 1) ≤ intAt L i + 1) ∧ (q < s.size → intAt L q = k) := by
  obtain ⟨hp, h0, h1, h2, h3, h4, h5⟩ := cutOkB_iff.1 h
  obtain ⟨a, b, c, d⟩ := (patOk_iff s k).1 hp
  have hl : L.length = q + 1 := by omega
  rw [hl] at h3
  have hb := stepsB_bnd h3
  refine ⟨hl, by omega, a, b, c, d, ?_, fun i hi => (hb i hi).1, fun i hi => ?_, fun hq => ?_⟩
  · have := hb 0 (by omega); omega
  · have := stepsB_at h3 (i + 1) (by omega)
    rw [okAt_succ (by omega)] at this
    simp at this
    omega
  · simp only [lastOkB, Int.toNat_natCast, Bool.or_eq_true, Bool.and_eq_true, decide_eq_true_eq] at h5
    rcases h5 with h | h
    · exact h
    · omega
theorem whole_steps {s : ByteArray} {k : Int} {L : List Int} {q : Nat} (h : cutOkB s k L q = true) :
    wholeF L L.length (k + 1) 0 = 0 ∧ (∀ i, 0 ≤ wholeF L L.length (k + 1) i) ∧ (∀ i, i < s.size → wholeF L L.length (k + 1) i - 1 ≤ wholeF L L.length (k + 1) (i + 1) ∧ wholeF L L.length (k + 1) (i + 1) ≤ wholeF L L.length (k + 1) i + 1) := by
  obtain ⟨hl, hq, hs1, hs2, hk0, hk1, z, nn, st, la⟩ := cutOk_steps h
  refine ⟨?_, fun i => ?_, fun i hi => ?_⟩
  · rw [wholeF_lt (by omega)]; exact z
  · unfold wholeF; split
    · exact nn i (by omega)
    · omega
  · by_cases h1 : i + 1 < L.length
    · rw [wholeF_lt h1, wholeF_lt (by omega)]; exact st i (by omega)
    · rw [wholeF_ge (Nat.not_lt.1 h1)]
      by_cases h2 : i < L.length
      · obtain rfl : i = q := by omega
        rw [wholeF_lt h2, la hi]; omega
      · rw [wholeF_ge (Nat.not_lt.1 h2)]; omega
theorem stepN_past {s : ByteArray} {k : Int} {f : Bool} {b : Int} {L : List Int} {q : Nat} (h : cutOkB s k L q = true) : ∀ i, q + 1 < i → i ≤ s.size → k < stepN s k f b L i := by
  obtain ⟨hl, hq, hs1, hs2, hk0, hk1, z, nn, st, la⟩ := cutOk_steps h
  obtain ⟨w0, w1, w2⟩ := whole_steps h
  intro i hi hs
  have lq := la (by omega)
  have fall := nextAt_fall (eq := maskG s f b) w0 (fun i hi => (w2 i hi).2)
  have base : k ≤ stepN s k f b L (q + 1) := by
    unfold stepN
    have e1 : wholeF L L.length (k + 1) q = k := by rw [wholeF_lt (by omega)]; exact lq
    have e2 : wholeF L L.length (k + 1) (q + 1) = k + 1 := wholeF_ge (by omega)
    have := fall q (by omega)
    exact nextAt_step q k (by omega) (by omega) (by omega)
  have step : ∀ d, q + 1 + d + 1 ≤ s.size → k + 1 ≤ stepN s k f b L (q + 1 + d + 1) := by
    intro d
    induction d with
    | zero =>
      intro hd
      unfold stepN at base ⊢
      have e1 : wholeF L L.length (k + 1) (q + 1 + 0) = k + 1 := wholeF_ge (by omega)
      have e2 : wholeF L L.length (k + 1) (q + 1 + 0 + 1) = k + 1 := wholeF_ge (by omega)
      exact nextAt_step (q + 1 + 0) (k + 1) (by omega) (by omega) (by simpa using base)
    | succ d ih =>
      intro hd
      have := ih (by omega)
      unfold stepN at this ⊢
      have e1 : wholeF L L.length (k + 1) (q + 1 + (d + 1)) = k + 1 := wholeF_ge (by omega)
      have e2 : wholeF L L.length (k + 1) (q + 1 + (d + 1) + 1) = k + 1 := wholeF_ge (by omega)
      exact nextAt_step (q + 1 + (d + 1)) (k + 1) (by omega) (by omega) (by show k + 1 ≤ nextAt _ _ 0 (q + 1 + d + 1) + 1; omega)
  obtain ⟨d, rfl⟩ : ∃ d, i = q + 1 + d + 1 := ⟨i - (q + 2), by omega⟩
  have := step d hs
  omega
theorem byteAt_extract (s : ByteArray) (m i : Nat) (hi : i < m) (hm : m ≤ s.size) : byteAt (s.extract 0 m) i = byteAt s i := by
  unfold byteAt
  rw [ByteArray.data_extract, Array.toList_extract]
  simp [List.extract_eq_take_drop, List.getD_eq_getElem?_getD, hi]
theorem maskG_extract (s : ByteArray) (f : Bool) (b : Int) (m i : Nat) (hi : i < m) (hm : m ≤ s.size) : maskG (s.extract 0 m) f b i = maskG s f b i := by
  unfold maskG; rw [byteAt_extract s m i hi hm]
/-- the text cut off behind the place next to the last one: what comes of it, cut off, is what comes of the whole text -/
theorem cut_short {s : ByteArray} {k : Int} {f : Bool} {b : Int} {L : List Int} {q m : Nat} (h : cutOkB s k L q = true) (hm : m = q + 1 ∧ q + 1 ≤ s.size ∨ m = s.size ∧ q = s.size) (N : List Int)
    (hN : N = tab (nextAt (maskG (s.extract 0 m) f b) (intAt (tab (wholeF L L.length (k + 1)) (m + 1))) 0) (m + 1)) :
    lastLe (intAt N) k (m + 1) = lastLe (stepN s k f b L) k (s.size + 1) ∧ cutL (intAt N) k (m + 1) = cutL (stepN s k f b L) k (s.size + 1) := by
  obtain ⟨hl, hq, hs1, hs2, hk0, hk1, z, nn, st, la⟩ := cutOk_steps h
  have hms : m ≤ s.size := by omega
  have hmq : q ≤ m ∧ (m < s.size → m = q + 1) := by omega
  have eq : ∀ i, i < m + 1 → intAt N i = stepN s k f b L i := by
    intro i hi
    rw [hN, intAt_tab _ _ _ hi]
    unfold stepN
    exact nextAt_congr (n := m) (fun j hj => maskG_extract s f b m j hj hms) (fun j hj => intAt_tab _ _ _ (by omega)) i (by omega)
  have e1 : lastLe (intAt N) k (m + 1) = lastLe (stepN s k f b L) k (m + 1) := lastLe_congr eq
  obtain ⟨d, hd⟩ : ∃ d, s.size = m + d := ⟨s.size - m, by omega⟩
  have e2 : lastLe (stepN s k f b L) k (s.size + 1) = lastLe (stepN s k f b L) k (m + 1) := by
    rw [hd]
    refine lastLe_more d fun i h1 h2 => stepN_past h i ?_ (by omega)
    have := hmq.2 (by omega); omega
  refine ⟨by rw [e1, e2], ?_⟩
  unfold cutL
  rw [e1, e2]
  refine tab_congr fun i hi => ?_
  have := lastLe_lt (stepN s k f b L) k (m + 1) (by omega)
  unfold capI
  rw [eq i (by omega)]
/-- the column that the shorter text has is right -/
theorem short_ok {s : ByteArray} {k : Int} {L : List Int} {q m : Nat} (h : cutOkB s k L q = true) (hm : m = q + 1 ∧ q + 1 ≤ s.size ∨ m = s.size ∧ q = s.size) :
    colOkB (patOk (s.extract 0 m) k) (s.extract 0 m).size (tab (wholeF L L.length (k + 1)) (m + 1)) = true := by
  obtain ⟨hl, hq, hs1, hs2, hk0, hk1, z, nn, st, la⟩ := cutOk_steps h
  obtain ⟨w0, w1, w2⟩ := whole_steps h
  have hsz : (s.extract 0 m).size = m := by rw [ByteArray.size_extract]; omega
  refine (colOkB_iff _ _ _).2 ⟨patOk_yes ⟨by omega, by omega, hk0, hk1⟩, by rw [tab_length, hsz], ?_⟩
  rw [tab_length]
  refine stepsB_all fun i hi => ?_
  by_cases i0 : i = 0
  · subst i0
    rw [okAt_zero, intAt_tab _ _ _ (by omega), w0]; rfl
  · rw [okAt_succ i0, intAt_tab _ _ _ hi, intAt_tab _ _ _ (by omega)]
    have h1 := w1 i
    have h2 := w2 (i - 1) (by omega)
    rw [show i - 1 + 1 = i by omega] at h2
    simp only [decide_eq_true_eq]
    omega
end Go.Proofs.Ytglldmfhjipacaa

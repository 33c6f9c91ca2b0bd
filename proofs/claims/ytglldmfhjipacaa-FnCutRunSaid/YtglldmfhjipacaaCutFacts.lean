/-
  Chapter 6: plain facts: what is cut off of a right column is right, is stepped to what is cut off of the next one, and has its last number.
-/
import Derived.Test.YtglldmfhjipacaaL6StepS
import Derived.Test.YtglldmfhjipacaaColNear
namespace Go.Proofs.Ytglldmfhjipacaa
open Go.RowKit
set_option linter.unusedVariables false
set_option maxRecDepth 100000
theorem lastLe_is {C : Nat → Int} {k : Int} (h0 : C 0 ≤ k) : ∀ n, 1 ≤ n → C (lastLe C k n) ≤ k := by
  intro n
  induction n with
  | zero => intro h; omega
  | succ n ih =>
    intro _
    simp only [lastLe]
    split
    · assumption
    · by_cases h1 : 1 ≤ n
      · exact ih h1
      · obtain rfl : n = 0 := by omega
        exact h0
theorem lastLe_past {C : Nat → Int} {k : Int} : ∀ n i, lastLe C k n < i → i < n → k < C i := by
  intro n
  induction n with
  | zero => intro i _ h; omega
  | succ n ih =>
    intro i h1 h2
    simp only [lastLe] at h1
    split at h1
    · omega
    · by_cases e : i = n
      · subst e; omega
      · exact ih i h1 (by omega)
theorem cap_near {C : Nat → Int} {k : Int} {n : Nat} (hk : 0 ≤ k) (hC : Near C n) : Near (capI C k) n := by
  obtain ⟨h0, h1, h2⟩ := hC
  refine ⟨by unfold capI; rw [h0]; split <;> omega, fun i hi => ?_, fun i hi => ?_⟩
  · have := h1 i hi; unfold capI; split <;> omega
  · have := h2 i hi; unfold capI; split <;> split <;> omega
/-- what is cut off of a right column is right -/
theorem cutC_ok {s : ByteArray} {k : Int} {C : Nat → Int} (hp : patOk s k = true) (hC : Near C s.size) : cutOkB s k (cutL C k (s.size + 1)) (lastLe C k (s.size + 1) : Nat) = true := by
  obtain ⟨a, b, hk, d⟩ := (patOk_iff s k).1 hp
  have hlt := lastLe_lt C k (s.size + 1) (by omega)
  have hle := lastLe_is (C := C) (k := k) (by rw [hC.1]; exact hk) (s.size + 1) (by omega)
  have hpast := lastLe_past (C := C) (k := k) (s.size + 1)
  have hcn := cap_near hk hC
  generalize hq : lastLe C k (s.size + 1) = q at *
  have hcut : cutL C k (s.size + 1) = tab (capI C k) (q + 1) := by unfold cutL; rw [hq]
  rw [hcut, cutOkB_iff, tab_length]
  refine ⟨hp, by omega, by omega, by omega, ?_, ?_, ?_⟩
  · refine steps_of_near (near_congr (fun i hi => (intAt_tab _ _ _ (by omega)).symm) ⟨hcn.1, fun i hi => hcn.2.1 i (by omega), fun i hi => hcn.2.2 i (by omega)⟩)
  · have hall : ∀ m, m ≤ q + 1 → allLe (tab (capI C k) (q + 1)) (k + 1) m = true := by
      intro m
      induction m with
      | zero => intro _; rfl
      | succ m ih => intro hm; exact allLe_succ (ih (by omega)) (by rw [intAt_tab _ _ _ (by omega)]; unfold capI; split <;> omega)
    exact hall _ (Nat.le_refl _)
  · unfold lastOkB
    rw [Int.toNat_natCast, intAt_tab _ _ _ (by omega)]
    have hcq : capI C k q = C q := by unfold capI; split <;> omega
    rw [hcq]
    simp only [Bool.or_eq_true, Bool.and_eq_true, decide_eq_true_eq]
    by_cases e : q = s.size
    · omega
    · have h1 := hpast (q + 1) (by omega) (by omega)
      have h2 := hC.2.2 q (by omega)
      omega
theorem stepN_near {s : ByteArray} {k : Int} {f : Bool} {b : Int} {L : List Int} {q : Nat} (h : cutOkB s k L q = true) : Near (stepN s k f b L) s.size := by
  obtain ⟨w0, w1, w2⟩ := whole_steps h
  exact (near_next ⟨w0, fun i _ => w1 i, w2⟩).1
/-- what is cut off and stepped is right, and ends no farther than one place behind -/
theorem cut_step_ok {s : ByteArray} {k : Int} {f : Bool} {b : Int} {L : List Int} {q : Nat} (h : cutOkB s k L q = true) (hb : inB b 0 255 = true) :
    cutOkB s k (cutStepL s k f b L q) (cutStepI s k f b L q) = true ∧ cutStepI s k f b L q ≤ q + 1 + k := by
  have hyes : cutStepB s k b L q = true := by unfold cutStepB; rw [h, hb]; rfl
  have e1 : cutStepL s k f b L q = cutL (stepN s k f b L) k (s.size + 1) := by unfold cutStepL; rw [hyes]; rfl
  have e2 : cutStepI s k f b L q = ((lastLe (stepN s k f b L) k (s.size + 1) : Nat) : Int) := by unfold cutStepI; rw [hyes]; rfl
  obtain ⟨hp, _⟩ := cutOkB_iff.1 h
  obtain ⟨a, b', hk, d⟩ := (patOk_iff s k).1 hp
  rw [e1, e2]
  have hN := stepN_near (f := f) (b := b) h
  refine ⟨cutC_ok hp hN, ?_⟩
  have hpast := stepN_past (f := f) (b := b) h
  have hle := lastLe_is (C := stepN s k f b L) (k := k) (by rw [hN.1]; exact hk) (s.size + 1) (by omega)
  have hlt := lastLe_lt (stepN s k f b L) k (s.size + 1) (by omega)
  by_cases hx : lastLe (stepN s k f b L) k (s.size + 1) ≤ q + 1
  · omega
  · have := hpast _ (by omega) (by omega : lastLe (stepN s k f b L) k (s.size + 1) ≤ s.size); omega
/-- the whole of what is cut off of a column: no number above K + 1 -/
theorem whole_cut {C : Nat → Int} {k : Int} {n : Nat} (i : Nat) (hi : i < n) : wholeF (cutL C k n) (cutL C k n).length (k + 1) i = capI C k i := by
  unfold cutL
  rw [tab_length]
  by_cases h : i < lastLe C k n + 1
  · rw [wholeF_lt h, intAt_tab _ _ _ h]
  · rw [wholeF_ge (Nat.not_lt.1 h)]
    have := lastLe_past (C := C) (k := k) n i (by omega) hi
    unfold capI; split <;> omega
theorem cap_next {eq : Nat → Bool} {C D : Nat → Int} {k : Int} {n : Nat} (h : ∀ i, i ≤ n → capI C k i = capI D k i) : ∀ i, i ≤ n → capI (nextAt eq C 0) k i = capI (nextAt eq D 0) k i := by
  intro i
  induction i with
  | zero => intro _; rfl
  | succ i ih =>
    intro hi
    have a := ih (by omega)
    have b := h i (by omega)
    have c := h (i + 1) hi
    have en1 : nextAt eq C 0 (i + 1) = min3 (if eq i then C i else C i + 1) (C (i + 1) + 1) (nextAt eq C 0 i + 1) := rfl
    have en2 : nextAt eq D 0 (i + 1) = min3 (if eq i then D i else D i + 1) (D (i + 1) + 1) (nextAt eq D 0 i + 1) := rfl
    have m1 := min3_spec (if eq i then C i else C i + 1) (C (i + 1) + 1) (nextAt eq C 0 i + 1)
    have m2 := min3_spec (if eq i then D i else D i + 1) (D (i + 1) + 1) (nextAt eq D 0 i + 1)
    rw [← en1] at m1
    rw [← en2] at m2
    clear en1 en2
    unfold capI at a b c ⊢
    generalize nextAt eq C 0 (i + 1) = q1 at m1 ⊢
    generalize nextAt eq D 0 (i + 1) = q2 at m2 ⊢
    generalize nextAt eq C 0 i = x1 at *
    generalize nextAt eq D 0 i = x2 at *
    generalize C i = y1 at *
    generalize D i = y2 at *
    generalize C (i + 1) = z1 at *
    generalize D (i + 1) = z2 at *
    clear ih h
    cases hq : eq i <;> simp only [hq, Bool.false_eq_true, if_false, if_true] at m1 m2 <;> split at a <;> split at a <;> split at b <;> split at b <;> split at c <;> split at c <;> split <;> split <;> omega
theorem capcap (C : Nat → Int) (k : Int) (i : Nat) : capI (capI C k) k i = capI C k i := by unfold capI; by_cases h : k + 1 < C i <;> simp [h]
theorem cutL_congr {C D : Nat → Int} {k : Int} {n : Nat} (h : ∀ i, i < n → capI C k i = capI D k i) : lastLe C k n = lastLe D k n ∧ (1 ≤ n → cutL C k n = cutL D k n) := by
  have e : lastLe C k n = lastLe D k n := by rw [← lastLe_cap C, ← lastLe_cap D]; exact lastLe_congr h
  refine ⟨e, fun h1 => ?_⟩
  unfold cutL
  rw [e]
  have hlt := lastLe_lt D k n h1
  exact tab_of (tab_length _ _) fun i hi => by rw [intAt_tab _ _ _ hi]; exact (h i (by omega))
/-- what is cut off of a right column, stepped, is what is cut off of the next one -/
theorem cutC_step {s : ByteArray} {k : Int} {f : Bool} {b : Int} {C : Nat → Int} (hp : patOk s k = true) (hC : Near C s.size) (hb : inB b 0 255 = true) :
    cutStepL s k f b (cutL C k (s.size + 1)) (lastLe C k (s.size + 1) : Nat) = cutL (nextAt (maskG s f b) C 0) k (s.size + 1) ∧ cutStepI s k f b (cutL C k (s.size + 1)) (lastLe C k (s.size + 1) : Nat) = ((lastLe (nextAt (maskG s f b) C 0) k (s.size + 1) : Nat) : Int) := by
  have hyes : cutStepB s k b (cutL C k (s.size + 1)) (lastLe C k (s.size + 1) : Nat) = true := by unfold cutStepB; rw [cutC_ok hp hC, hb]; rfl
  have hcap : ∀ i, i < s.size + 1 → capI (stepN s k f b (cutL C k (s.size + 1))) k i = capI (nextAt (maskG s f b) C 0) k i := by
    intro i hi
    unfold stepN
    refine cap_next (n := s.size) (fun i hi => ?_) i (by omega)
    have : ∀ D : Nat → Int, D i = capI C k i → capI D k i = capI C k i := by intro D hD; have := capcap C k i; unfold capI at this hD ⊢; rw [hD]; exact this
    exact this _ (whole_cut i (by omega))
  obtain ⟨e1, e2⟩ := cutL_congr hcap
  constructor
  · unfold cutStepL; rw [hyes]; exact e2 (by omega)
  · unfold cutStepI; rw [hyes]; show ((lastLe _ _ _ : Nat) : Int) = _; rw [e1]
theorem cutC_dist {s : ByteArray} {k : Int} {C : Nat → Int} (hp : patOk s k = true) (hC : Near C s.size) : cutDistI s k (cutL C k (s.size + 1)) (lastLe C k (s.size + 1) : Nat) = capI C k s.size := by
  unfold cutDistI
  rw [cutC_ok hp hC]
  exact whole_cut _ (by omega)
end Go.Proofs.Ytglldmfhjipacaa

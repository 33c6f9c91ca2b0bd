/-
  Plain facts: the column behind a right one is right, and no number of it is farther than one from what it was.
-/
import Derived.Test.YtglldmfhjipacaaCols
namespace Go.Proofs.Ytglldmfhjipacaa
open Go.RowKit
set_option linter.unusedVariables false
set_option maxRecDepth 100000
/-- a column that begins with 0, none of it below 0, each at most one more or less than the one ahead -/
def Near (C : Nat → Int) (n : Nat) : Prop := C 0 = 0 ∧ (∀ i, i ≤ n → 0 ≤ C i) ∧ ∀ i, i < n → C i - 1 ≤ C (i + 1) ∧ C (i + 1) ≤ C i + 1
theorem near_next {eq : Nat → Bool} {C : Nat → Int} {n : Nat} (h : Near C n) : Near (nextAt eq C 0) n ∧ ∀ i, i ≤ n → C i - 1 ≤ nextAt eq C 0 i ∧ nextAt eq C 0 i ≤ C i + 1 := by
  obtain ⟨h0, h1, h2⟩ := h
  have near : ∀ i, i ≤ n → C i - 1 ≤ nextAt eq C 0 i ∧ nextAt eq C 0 i ≤ C i + 1 := by
    intro i
    induction i with
    | zero => intro _; show C 0 - 1 ≤ 0 ∧ 0 ≤ C 0 + 1; omega
    | succ i ih =>
      intro hi
      have m := min3_spec (if eq i then C i else C i + 1) (C (i + 1) + 1) (nextAt eq C 0 i + 1)
      have a := ih (by omega)
      have b := h2 i (by omega)
      simp only [nextAt]
      generalize min3 (if eq i then C i else C i + 1) (C (i + 1) + 1) (nextAt eq C 0 i + 1) = q at m ⊢
      cases hq : eq i <;> simp only [hq, Bool.false_eq_true, if_false, if_true] at m <;> omega
  refine ⟨⟨rfl, ?_, ?_⟩, near⟩
  · intro i
    induction i with
    | zero => intro _; exact Int.le_refl _
    | succ i ih =>
      intro hi
      have m := min3_spec (if eq i then C i else C i + 1) (C (i + 1) + 1) (nextAt eq C 0 i + 1)
      have a := ih (by omega)
      have b := h1 i (by omega)
      have c := h1 (i + 1) hi
      simp only [nextAt]
      generalize min3 (if eq i then C i else C i + 1) (C (i + 1) + 1) (nextAt eq C 0 i + 1) = q at m ⊢
      cases hq : eq i <;> simp only [hq, Bool.false_eq_true, if_false, if_true] at m <;> omega
  · intro i hi
    have m := min3_spec (if eq i then C i else C i + 1) (C (i + 1) + 1) (nextAt eq C 0 i + 1)
    have a := near i (by omega)
    have b := h2 i (by omega)
    have e : nextAt eq C 0 (i + 1) = min3 (if eq i then C i else C i + 1) (C (i + 1) + 1) (nextAt eq C 0 i + 1) := rfl
    rw [e]
    generalize min3 (if eq i then C i else C i + 1) (C (i + 1) + 1) (nextAt eq C 0 i + 1) = q at m ⊢
    cases hq : eq i <;> simp only [hq, Bool.false_eq_true, if_false, if_true] at m <;> omega
theorem near_id (n : Nat) : Near (fun i => (i : Int)) n := ⟨rfl, fun i _ => by show (0 : Int) ≤ (i : Int); omega, fun i _ => by show (i : Int) - 1 ≤ ((i + 1 : Nat) : Int) ∧ ((i + 1 : Nat) : Int) ≤ (i : Int) + 1; omega⟩
theorem near_congr {C D : Nat → Int} {n : Nat} (h : ∀ i, i ≤ n → C i = D i) (hC : Near C n) : Near D n :=
  ⟨by rw [← h 0 (by omega)]; exact hC.1, fun i hi => by rw [← h i hi]; exact hC.2.1 i hi, fun i hi => by rw [← h i (by omega), ← h (i + 1) (by omega)]; exact hC.2.2 i hi⟩
theorem stepsB_of {L : List Int} {n : Nat} (h : ∀ i, i < n → okAt L i = true) : stepsB L n = true := by
  induction n with
  | zero => rfl
  | succ n ih => simp only [stepsB]; rw [ih fun i hi => h i (by omega), h n (by omega)]; rfl
theorem near_of_steps {L : List Int} {n : Nat} (h : stepsB L (n + 1) = true) : Near (intAt L) n := by
  have at' := stepsB_at h
  refine ⟨?_, ?_, ?_⟩
  · have := at' 0 (by omega); rw [okAt_zero] at this; simpa using this
  · intro i hi
    have := at' i (by omega)
    simp only [okAt, decide_eq_true_eq] at this
    exact this.1
  · intro i hi
    have := at' (i + 1) (by omega)
    rw [okAt_succ (by omega)] at this
    simp only [decide_eq_true_eq, Nat.add_sub_cancel] at this
    omega
theorem steps_of_near {L : List Int} {n : Nat} (h : Near (intAt L) n) : stepsB L (n + 1) = true := by
  apply stepsB_of
  intro i hi
  cases i with
  | zero => rw [okAt_zero]; simpa using h.1
  | succ i =>
    rw [okAt_succ (by omega)]
    have a := h.2.1 (i + 1) (by omega)
    have b := h.2.2 i (by omega)
    simp only [decide_eq_true_eq, Nat.add_sub_cancel]
    omega
theorem colOkB_near {n : Nat} {L : List Int} (hl : L.length = n + 1) : colOkB true n L = true ↔ Near (intAt L) n := by
  rw [colOkB_iff, hl]
  exact ⟨fun h => near_of_steps h.2.2, fun h => ⟨rfl, rfl, steps_of_near h⟩⟩
theorem colOkB_near_tab {n : Nat} {C : Nat → Int} (h : Near C n) : colOkB true n (tab C (n + 1)) = true := by
  rw [colOkB_near (tab_length _ _)]
  exact near_congr (fun i hi => (intAt_tab _ _ _ (by omega)).symm) h
theorem near_le {C : Nat → Int} {n : Nat} (h : Near C n) : ∀ i, i ≤ n → C i ≤ i := by
  intro i
  induction i with
  | zero => intro _; have := h.1; omega
  | succ i ih => intro hi; have := h.2.2 i (by omega); have := ih (by omega); omega
end Go.Proofs.Ytglldmfhjipacaa

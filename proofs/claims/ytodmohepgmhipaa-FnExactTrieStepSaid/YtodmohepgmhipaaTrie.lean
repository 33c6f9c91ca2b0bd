/-
  Tries as lists of nodes: the kid with a byte, how deep a node stands, which nodes one can go through, the node behind one more byte. Plain.
-/
import Derived.Test.YtodmohepgmhipaaNodes
namespace Go.Proofs.Ytodmohepgmhipaa
open Go.RowKit
set_option linter.unusedVariables false
set_option maxRecDepth 100000
/-- the first of some nodes with a byte; 0: none -/
def kidS (L : List Nd) (b : Int) : List Int → Int
  | [] => 0
  | k :: r => if (ndAt L k.toNat).b = b then k else kidS L b r
def kidN (L : List Nd) (i : Nat) (b : Int) : Int := kidS L b (ndAt L i).K
def deepF (L : List Nd) : Nat → Nat → Nat
  | 0, _ => 0
  | f + 1, i => if i = 0 then 0 else deepF L f (ndAt L i).p.toNat + 1
/-- how deep a node stands -/
def deepN (L : List Nd) (i : Nat) : Nat := deepF L i i
/-- each node but the first stands under an earlier one, with a byte -/
def WellP (L : List Nd) : Prop := ∀ i, 0 < i → i < L.length → (0 ≤ (ndAt L i).p ∧ (ndAt L i).p ≤ (i : Int) - 1) ∧ 0 ≤ (ndAt L i).b ∧ (ndAt L i).b ≤ 255
theorem deepF_fuel {L : List Nd} (hW : WellP L) : ∀ (f g i : Nat), i < L.length → i ≤ f → i ≤ g → deepF L f i = deepF L g i := by
  intro f
  induction f with
  | zero =>
    intro g i hi hf hg
    obtain rfl : i = 0 := by omega
    cases g <;> simp [deepF]
  | succ f ih =>
    intro g i hi hf hg
    by_cases h0 : i = 0
    · subst h0; cases g <;> simp [deepF]
    · obtain ⟨g, rfl⟩ : ∃ m, g = m + 1 := ⟨g - 1, by omega⟩
      obtain ⟨⟨p0, p1⟩, _⟩ := hW i (by omega) hi
      simp only [deepF, if_neg h0]
      rw [ih g _ (by omega) (by omega) (by omega)]
theorem deepN_zero (L : List Nd) : deepN L 0 = 0 := rfl
theorem deepN_pos {L : List Nd} (hW : WellP L) {i : Nat} (h0 : 0 < i) (hi : i < L.length) : deepN L i = deepN L (ndAt L i).p.toNat + 1 := by
  obtain ⟨⟨p0, p1⟩, _⟩ := hW i h0 hi
  unfold deepN
  obtain ⟨j, rfl⟩ : ∃ m, i = m + 1 := ⟨i - 1, by omega⟩
  rw [deepF, if_neg (by omega), deepF_fuel hW j _ _ (by omega) (by omega) (Nat.le_refl _)]
theorem deepN_le {L : List Nd} (hW : WellP L) : ∀ (i : Nat), i < L.length → deepN L i ≤ i := by
  intro i
  induction i using Nat.strongRecOn with
  | _ i ih =>
    intro hi
    by_cases h0 : i = 0
    · subst h0; exact Nat.le_refl _
    · obtain ⟨⟨p0, p1⟩, _⟩ := hW i (by omega) hi
      rw [deepN_pos hW (by omega) hi]
      have := ih (ndAt L i).p.toNat (by omega) (by omega)
      omega
/-- the nodes from k on that stand under node i -/
def kidsFrom (L : List Nd) (i : Nat) : Nat → Nat → List Int
  | 0, _ => []
  | f + 1, k => if (ndAt L k).p = i then (k : Int) :: kidsFrom L i f (k + 1) else kidsFrom L i f (k + 1)
def kidsL (L : List Nd) (i : Nat) : List Int := kidsFrom L i (L.length - (i + 1)) (i + 1)
theorem kidsFrom_in (L : List Nd) (i : Nat) : ∀ (f k : Nat) (x : Int), x ∈ kidsFrom L i f k → (k : Int) ≤ x ∧ x < (k : Int) + f ∧ (ndAt L x.toNat).p = i := by
  intro f
  induction f with
  | zero => intro k x h; simp [kidsFrom] at h
  | succ f ih =>
    intro k x h
    rw [kidsFrom] at h
    split at h
    · rename_i hp
      rcases List.mem_cons.1 h with rfl | h
      · exact ⟨Int.le_refl _, by omega, by rw [Int.toNat_natCast]; exact hp⟩
      · obtain ⟨a, b, c⟩ := ih _ _ h
        exact ⟨by omega, by omega, c⟩
    · obtain ⟨a, b, c⟩ := ih _ _ h
      exact ⟨by omega, by omega, c⟩
theorem kidsL_in {L : List Nd} {i : Nat} {x : Int} (h : x ∈ kidsL L i) : (i : Int) < x ∧ x < L.length ∧ (ndAt L x.toNat).p = i := by
  obtain ⟨a, b, c⟩ := kidsFrom_in L i _ _ x h
  have : (0 : Int) ≤ (L.length - (i + 1) : Nat) := by omega
  refine ⟨by omega, ?_, c⟩
  by_cases hl : i + 1 ≤ L.length
  · omega
  · have : L.length - (i + 1) = 0 := by omega
    rw [this] at b; omega
theorem kidsFrom_snoc (L : List Nd) (i : Nat) : ∀ (f k : Nat), kidsFrom L i (f + 1) k = if (ndAt L (k + f)).p = i then kidsFrom L i f k ++ [((k + f : Nat) : Int)] else kidsFrom L i f k := by
  intro f
  induction f with
  | zero => intro k; simp [kidsFrom]
  | succ f ih =>
    intro k
    have h1 := ih (k + 1)
    rw [show k + 1 + f = k + (f + 1) by omega] at h1
    rw [kidsFrom, h1]
    conv => rhs; rw [kidsFrom]
    split <;> split <;> rfl
/-- what one can go through -/
structure Right (L : List Nd) : Prop where
  low : 1 ≤ L.length
  high : L.length ≤ 400
  well : WellP L
  kids : ∀ i, i < L.length → (ndAt L i).K = kidsL L i
  fail : ∀ i, i < L.length → 0 ≤ (ndAt L i).f ∧ (ndAt L i).f ≤ (L.length : Int) - 1
  deep : ∀ i, 0 < i → i < L.length → deepN L (ndAt L i).f.toNat < deepN L i
  none : (ndAt L 0).f = 0
theorem Right.kid {L : List Nd} (h : Right L) {i : Nat} (hi : i < L.length) {x : Int} (hx : x ∈ (ndAt L i).K) : 0 < x ∧ x < L.length := by
  rw [h.kids i hi] at hx
  obtain ⟨a, b, _⟩ := kidsL_in hx
  exact ⟨by omega, b⟩
theorem kidS_in {L : List Nd} {b : Int} : ∀ {K : List Int}, kidS L b K = 0 ∨ kidS L b K ∈ K ∧ (ndAt L (kidS L b K).toNat).b = b := by
  intro K
  induction K with
  | nil => exact .inl rfl
  | cons k r ih =>
    rw [kidS]
    split
    · rename_i h; exact .inr ⟨List.mem_cons_self, h⟩
    · rcases ih with h | ⟨h, e⟩
      · exact .inl h
      · exact .inr ⟨List.mem_cons_of_mem _ h, e⟩
theorem kidS_drop {L : List Nd} {b : Int} {K : List Int} {j : Nat} (hj : j < K.length) : kidS L b (K.drop j) = if (ndAt L (intAt K j).toNat).b = b then intAt K j else kidS L b (K.drop (j + 1)) := by
  have e : K.drop j = intAt K j :: K.drop (j + 1) := by
    rw [List.drop_eq_getElem_cons hj]
    simp [intAt, hj]
  rw [e, kidS]
/-- the node behind one more byte -/
def goF (L : List Nd) (b : Int) : Nat → Nat → Int
  | 0, _ => 0
  | f + 1, i => if 0 < kidN L i b ∨ i = 0 then kidN L i b else goF L b f (ndAt L i).f.toNat
def goN (L : List Nd) (i : Nat) (b : Int) : Int := goF L b (deepN L i + 1) i
theorem goF_fuel {L : List Nd} (hR : Right L) (b : Int) : ∀ (f g i : Nat), i < L.length → deepN L i < f → deepN L i < g → goF L b f i = goF L b g i := by
  intro f
  induction f with
  | zero => intro g i hi hf; omega
  | succ f ih =>
    intro g i hi hf hg
    obtain ⟨g, rfl⟩ : ∃ m, g = m + 1 := ⟨g - 1, by omega⟩
    rw [goF, goF]
    split
    · rfl
    · rename_i h
      have h0 : 0 < i := by omega
      have hd := hR.deep i h0 hi
      have hf2 := hR.fail i hi
      exact ih g _ (by omega) (by omega) (by omega)
theorem goN_yes {L : List Nd} {i : Nat} {b : Int} (h : 0 < kidN L i b ∨ i = 0) : goN L i b = kidN L i b := by
  unfold goN; rw [goF, if_pos h]
theorem goN_no {L : List Nd} (hR : Right L) {i : Nat} {b : Int} (hi : i < L.length) (h : ¬ (0 < kidN L i b ∨ i = 0)) : goN L i b = goN L (ndAt L i).f.toNat b := by
  have h0 : 0 < i := by omega
  have hd := hR.deep i h0 hi
  have hf2 := hR.fail i hi
  conv => lhs; unfold goN; rw [goF, if_neg h]
  exact goF_fuel hR b _ _ _ (by omega) (by omega) (by omega)
theorem kidN_in {L : List Nd} (hR : Right L) {i : Nat} (hi : i < L.length) (b : Int) : 0 ≤ kidN L i b ∧ (kidN L i b).toNat < L.length := by
  have hl := hR.low
  rcases kidS_in (L := L) (b := b) (K := (ndAt L i).K) with h | ⟨h, _⟩
  · have : kidN L i b = 0 := h
    omega
  · have := hR.kid hi h
    have e : kidN L i b = kidS L b (ndAt L i).K := rfl
    omega
theorem goF_in {L : List Nd} (hR : Right L) (b : Int) : ∀ (f i : Nat), i < L.length → 0 ≤ goF L b f i ∧ (goF L b f i).toNat < L.length := by
  intro f
  induction f with
  | zero => intro i hi; rw [goF]; have := hR.low; omega
  | succ f ih =>
    intro i hi
    rw [goF]
    split
    · exact kidN_in hR hi b
    · have := hR.fail i hi
      exact ih _ (by omega)
theorem goN_in {L : List Nd} (hR : Right L) {i : Nat} {b : Int} (hi : i < L.length) : 0 ≤ goN L i b ∧ (goN L i b).toNat < L.length := goF_in hR b _ i hi
end Go.Proofs.Ytodmohepgmhipaa

/-
  Chapter 15: a node's kids, in their order (plain).
-/
import Derived.Test.YtgikjopmijomgaaBkP
namespace Go.Proofs.Ytgikjopmijomgaa
open Go.RowKit
set_option linter.unusedVariables false
set_option maxRecDepth 100000
theorem bkAt_old {L : List BkN} {b : BkN} {i : Nat} (h : i < L.length) : bkAt (L ++ [b]) i = bkAt L i := by simp [bkAt, List.getD_eq_getElem?_getD, List.getElem?_append_left h]
theorem bkAt_new (L : List BkN) (b : BkN) : bkAt (L ++ [b]) L.length = b := by simp [bkAt, List.getD_eq_getElem?_getD]
/-- of f nodes from place i on those that stand under p -/
def kidsB (L : List BkN) (p : Nat) : Nat → Nat → List Nat
  | 0, _ => []
  | f + 1, i => if (bkAt L i).u = (p : Int) then i :: kidsB L p f (i + 1) else kidsB L p f (i + 1)
theorem kidsB_in {L : List BkN} {p : Nat} : ∀ {f i k : Nat}, k ∈ kidsB L p f i → i ≤ k ∧ k < i + f ∧ (bkAt L k).u = (p : Int)
  | 0, _, _, h => by cases h
  | f + 1, i, k, h => by
    rw [kidsB] at h
    split at h
    · rename_i h2
      rcases List.mem_cons.1 h with e | e
      · subst e; exact ⟨Nat.le_refl _, by omega, h2⟩
      · obtain ⟨a, b, c⟩ := kidsB_in e; exact ⟨by omega, by omega, c⟩
    · obtain ⟨a, b, c⟩ := kidsB_in h; exact ⟨by omega, by omega, c⟩
theorem kidsB_len (L : List BkN) (p : Nat) : ∀ f i, (kidsB L p f i).length ≤ f
  | 0, _ => Nat.le_refl _
  | f + 1, i => by
    have := kidsB_len L p f (i + 1)
    rw [kidsB]
    split
    · simp only [List.length_cons]; omega
    · omega
theorem kidsB_snoc (L : List BkN) (p : Nat) : ∀ f i, kidsB L p (f + 1) i = kidsB L p f i ++ if (bkAt L (i + f)).u = (p : Int) then [i + f] else []
  | 0, i => by
    rw [kidsB, kidsB]
    show (if (bkAt L i).u = (p : Int) then [i] else []) = [] ++ if (bkAt L (i + 0)).u = (p : Int) then [i + 0] else []
    rw [Nat.add_zero, List.nil_append]
  | f + 1, i => by
    have h := kidsB_snoc L p f (i + 1)
    rw [kidsB, h, kidsB, show i + 1 + f = i + (f + 1) by omega]
    split
    · rfl
    · rfl
theorem kidsB_old {L : List BkN} {b : BkN} {p : Nat} : ∀ {f i : Nat}, i + f ≤ L.length → kidsB (L ++ [b]) p f i = kidsB L p f i
  | 0, _, _ => rfl
  | f + 1, i, h => by
    rw [kidsB, kidsB, bkAt_old (by omega), kidsB_old (by omega)]
/-- a node's kids -/
def KB (L : List BkN) (p : Nat) : List Nat := kidsB L p (L.length - (p + 1)) (p + 1)
theorem KB_in {L : List BkN} {p k : Nat} (h : k ∈ KB L p) : p < k ∧ k < L.length ∧ (bkAt L k).u = (p : Int) := by
  obtain ⟨a, b, c⟩ := kidsB_in h; exact ⟨by omega, by omega, c⟩
theorem KB_len (L : List BkN) (p : Nat) : (KB L p).length ≤ L.length := by
  have := kidsB_len L p (L.length - (p + 1)) (p + 1); unfold KB; omega
theorem KB_add (L : List BkN) (b : BkN) (p : Nat) (hp : p < L.length) : KB (L ++ [b]) p = KB L p ++ if b.u = (p : Int) then [L.length] else [] := by
  unfold KB
  rw [List.length_append, List.length_singleton, show L.length + 1 - (p + 1) = L.length - (p + 1) + 1 by omega, kidsB_snoc, kidsB_old (by omega), show p + 1 + (L.length - (p + 1)) = L.length by omega, bkAt_new]
theorem KB_new (L : List BkN) (b : BkN) : KB (L ++ [b]) L.length = [] := by
  unfold KB
  rw [List.length_append, List.length_singleton, Nat.sub_self]; rfl
/-- the first kid at a distance is what the walk over all nodes finds -/
theorem kidB_skip {L : List BkN} (h : UpB L) {p : Nat} {d : Int} : ∀ {f i : Nat}, 1 ≤ i → i + f ≤ p + 1 → i + f ≤ L.length → ∀ g, kidB L p d (f + g) i = kidB L p d g (i + f)
  | 0, i, _, _, _, g => by rw [Nat.zero_add, Nat.add_zero]
  | f + 1, i, h1, h2, h3, g => by
    have hu := h i h1 (by omega)
    rw [show f + 1 + g = f + g + 1 by omega, kidB, if_neg (fun e => by have := e.1; omega), kidB_skip h (by omega) (by omega) (by omega) g, show i + 1 + f = i + (f + 1) by omega]
theorem kidB_find (L : List BkN) (p : Nat) (d : Int) : ∀ f i, kidB L p d f i = (kidsB L p f i).find? (fun j => decide ((bkAt L j).d = d))
  | 0, _ => rfl
  | f + 1, i => by
    rw [kidB, kidsB, kidB_find L p d f (i + 1)]
    by_cases h : (bkAt L i).u = (p : Int)
    · rw [if_pos h]
      by_cases h2 : (bkAt L i).d = d
      · rw [if_pos ⟨h, h2⟩, List.find?_cons_of_pos (by simpa using h2)]
      · rw [if_neg (fun e => h2 e.2), List.find?_cons_of_neg (by simpa using h2)]
    · rw [if_neg (fun e => h e.1), if_neg h]
theorem kidB_KB {L : List BkN} (h : UpB L) {p : Nat} (hp : p < L.length) (d : Int) : kidB L p d (L.length - 1) 1 = (KB L p).find? (fun j => decide ((bkAt L j).d = d)) := by
  have h1 := kidB_skip h (p := p) (d := d) (f := p) (i := 1) (Nat.le_refl _) (by omega) (by omega) (L.length - (p + 1))
  rw [show p + (L.length - (p + 1)) = L.length - 1 by omega, show 1 + p = p + 1 by omega] at h1
  rw [h1, kidB_find]; rfl
/-- no node below another is at 0 -/
def PosB (L : List BkN) : Prop := ∀ i, 1 ≤ i → i < L.length → (bkAt L i).d ≠ 0
theorem goB_pos {L : List BkN} {w : ByteArray} : ∀ {f p q : Nat} {d : Int}, goB L w f p = some (q, d) → d ≠ 0
  | 0, _, _, _, h => by cases h
  | f + 1, p, q, d, h => by
    rw [goB] at h
    split at h
    · cases h
    · rename_i h0
      split at h
      · injection h with h
        injection h with h1 h2
        rw [← h2]; exact h0
      · exact goB_pos h
theorem addB_pos {L : List BkN} (h : PosB L) (w : ByteArray) : PosB (addB L w) := by
  unfold addB
  split
  · intro i h1 h2; simp at h2; omega
  · split
    · exact h
    · rename_i p d hg
      intro i h1 h2
      rw [List.length_append, List.length_singleton] at h2
      by_cases e : i < L.length
      · rw [bkAt_old e]; exact h i h1 e
      · have : i = L.length := by omega
        subst this
        rw [bkAt_new]; exact goB_pos hg
theorem bkTo_pos (t : Nat → ByteArray) (m : Nat) : PosB (bkTo t m) := by
  induction m with
  | zero => intro i h1 h2; simp [bkTo] at h2
  | succ m ih => exact addB_pos ih _
theorem kid_none {L : List BkN} (h : PosB L) (p : Nat) : (KB L p).find? (fun j => decide ((bkAt L j).d = 0)) = none := by
  rw [List.find?_eq_none]
  intro j hj
  obtain ⟨h1, h2, _⟩ := KB_in hj
  simpa using h j (by omega) h2
end Go.Proofs.Ytgikjopmijomgaa

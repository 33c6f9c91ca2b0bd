/-
  Chapter 15: each word stands in its tree; a tree's words give the same tree (plain).
-/
import Derived.Test.YtpniiaemgobaiabNearU
import Derived.Test.YtpniiaemgobaiabBkOk
namespace Go.Proofs.Ytpniiaemgobaiab
open Go.RowKit
set_option linter.unusedVariables false
set_option maxRecDepth 100000
theorem dist_zero_eq {a b : ByteArray} (ha : a.size ≤ 200) (hb : b.size ≤ 200) (h : distI a b false = 0) : a = b := by
  rw [distI_ed ha hb] at h
  have h2 := ed_zero (bl a) (bl b) (show ed (bl a) (bl b) = 0 from by have : ((ed (bl a) (bl b) : Nat) : Int) = 0 := h; omega)
  have := congrArg txt h2
  rwa [txt_bl, txt_bl] at this
theorem goB_there {T : List BkN} (hu : UpB T) {w : ByteArray} (hw : w.size ≤ 200) (hs : ∀ j, j < T.length → (bkAt T j).t.size ≤ 200) : ∀ f p, p < T.length → T.length ≤ p + f → goB T w f p = none → ∃ j, j < T.length ∧ (bkAt T j).t = w
  | 0, p, h1, h2, _ => by omega
  | f + 1, p, h1, h2, h3 => by
    rw [goB] at h3
    split at h3
    · rename_i h0
      exact ⟨p, h1, dist_zero_eq (hs p h1) hw h0⟩
    · split at h3
      · cases h3
      · rename_i k hk
        have := kidB_up hu hk
        exact goB_there hu hw hs f k this.2 (by omega) h3
theorem addB_old {T : List BkN} {w : ByteArray} {j : Nat} (h : j < T.length) : j < (addB T w).length ∧ bkAt (addB T w) j = bkAt T j := by
  unfold addB
  split
  · rename_i e; subst e; simp at h
  · split
    · exact ⟨h, rfl⟩
    · exact ⟨by simp; omega, bkAt_old h⟩
theorem addB_has {T : List BkN} (hu : UpB T) {w : ByteArray} (hw : w.size ≤ 200) (hs : ∀ j, j < T.length → (bkAt T j).t.size ≤ 200) : ∃ j, j < (addB T w).length ∧ (bkAt (addB T w) j).t = w := by
  unfold addB
  split
  · exact ⟨0, by simp, rfl⟩
  · rename_i hne
    have hT : 0 < T.length := by cases T; exact absurd rfl hne; simp
    split
    · rename_i hg
      exact goB_there hu hw hs T.length 0 hT (by omega) hg
    · exact ⟨T.length, by simp, by rw [bkAt_new]⟩
theorem bkTo_has {t : Nat → ByteArray} {n : Nat} (h : ∀ i, i < n → (t i).size ≤ 200) : ∀ m, m ≤ n → ∀ i, i < m → ∃ j, j < (bkTo t m).length ∧ (bkAt (bkTo t m) j).t = t i := by
  intro m
  induction m with
  | zero => intro _ i hi; omega
  | succ m ih =>
    intro hm i hi
    have hsz : ∀ j, j < (bkTo t m).length → (bkAt (bkTo t m) j).t.size ≤ 200 := fun j hj => bkAt_sz (bkTo_sz h m (by omega)) j hj
    by_cases e : i = m
    · subst e
      exact addB_has (bkTo_up t i) (h i (by omega)) hsz
    · obtain ⟨j, hj, e2⟩ := ih (by omega) i (by omega)
      obtain ⟨h1, h2⟩ := addB_old (w := t m) hj
      exact ⟨j, h1, by show (bkAt (addB _ _) j).t = _; rw [h2]; exact e2⟩
theorem bkTo_congr {t u : Nat → ByteArray} : ∀ m, (∀ i, i < m → t i = u i) → bkTo t m = bkTo u m
  | 0, _ => rfl
  | m + 1, h => by rw [bkTo, bkTo, bkTo_congr m fun i hi => h i (by omega), h m (by omega)]
theorem addB_again {T : List BkN} (w : ByteArray) (h : bkTo (bkW T) T.length = T) : bkTo (bkW (addB T w)) (addB T w).length = addB T w := by
  have key : ∀ b : BkN, b.t = w → addB T w = T ++ [b] → bkTo (bkW (T ++ [b])) (T ++ [b]).length = T ++ [b] := by
    intro b hb e
    rw [List.length_append, List.length_singleton, bkTo, bkTo_congr T.length (u := bkW T) fun i hi => by unfold bkW; rw [bkAt_old hi], h]
    have : bkW (T ++ [b]) T.length = w := by unfold bkW; rw [bkAt_new]; exact hb
    rw [this]; exact e
  cases hT : T with
  | nil =>
    subst hT
    have e : addB [] w = [] ++ [⟨w, 0, 0⟩] := by unfold addB; rw [if_pos rfl]; rfl
    rw [e]; exact key _ rfl e
  | cons x X =>
    rw [← hT]
    have hne : T ≠ [] := by rw [hT]; exact List.cons_ne_nil _ _
    cases hg : goB T w T.length 0 with
    | none =>
      have e : addB T w = T := by unfold addB; rw [if_neg hne, hg]
      rw [e]; exact h
    | some p =>
      obtain ⟨q, d⟩ := p
      have e : addB T w = T ++ [⟨w, d, (q : Int)⟩] := by unfold addB; rw [if_neg hne, hg]
      rw [e]; exact key _ rfl e
theorem bkTo_again (t : Nat → ByteArray) : ∀ m, bkTo (bkW (bkTo t m)) (bkTo t m).length = bkTo t m
  | 0 => rfl
  | m + 1 => by rw [bkTo]; exact addB_again _ (bkTo_again t m)
end Go.Proofs.Ytpniiaemgobaiab

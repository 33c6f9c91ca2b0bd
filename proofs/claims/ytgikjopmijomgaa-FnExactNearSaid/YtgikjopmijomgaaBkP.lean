/-
  Chapter 15: a tree of words as a list: a node's word, its distance from the one above, that one's place (plain).
-/
import Derived.Test.YtgikjopmijomgaaStrs
import Derived.Test.YtgikjopmijomgaaMNear
namespace Go.Proofs.Ytgikjopmijomgaa
open Go.RowKit
set_option linter.unusedVariables false
set_option maxRecDepth 100000
structure BkN where
  t : ByteArray
  d : Int
  u : Int
def bkAt (T : List BkN) (i : Nat) : BkN := T.getD i ⟨⟨#[]⟩, 0, 0⟩
def bkC (b : BkN) : List Value := [.string b.t, .int .i64 b.d, .int .i64 b.u]
def bks : List BkN → List Value
  | [] => []
  | b :: T => bkC b ++ bks T
theorem bks_length (T : List BkN) : (bks T).length = T.length * 3 := by
  induction T with
  | nil => rfl
  | cons b T ih => rw [bks, List.length_append, ih, List.length_cons]; simp [bkC]; omega
theorem bks_append (T U : List BkN) : bks (T ++ U) = bks T ++ bks U := by
  induction T with
  | nil => rfl
  | cons b T ih => rw [List.cons_append, bks, bks, ih, List.append_assoc]
theorem bks_one (b : BkN) : bks [b] = bkC b := by simp [bks]
theorem bks_cell (T : List BkN) : ∀ v ∈ bks T, v.oneCell' = true := by
  induction T with
  | nil => intro v hv; cases hv
  | cons b T ih =>
    intro v hv
    rw [bks, List.mem_append] at hv
    rcases hv with hv | hv
    · simp [bkC] at hv
      rcases hv with rfl | rfl | rfl <;> rfl
    · exact ih v hv
theorem bks_at (T : List BkN) : ∀ i, i < T.length → valAt (bks T) (i * 3) = .string (bkAt T i).t ∧ valAt (bks T) (i * 3 + 1) = .int .i64 (bkAt T i).d ∧ valAt (bks T) (i * 3 + 2) = .int .i64 (bkAt T i).u := by
  induction T with
  | nil => intro i h; simp at h
  | cons b T ih =>
    intro i h
    cases i with
    | zero => exact ⟨rfl, rfl, rfl⟩
    | succ i =>
      obtain ⟨h1, h2, h3⟩ := ih i (by simpa using h)
      have e : ∀ j, valAt (bks (b :: T)) (j + 3) = valAt (bks T) j := fun j => by
        unfold valAt
        rw [bks, List.getD_eq_getElem?_getD, List.getD_eq_getElem?_getD, List.getElem?_append_right (by simp [bkC])]
        simp [bkC]
      have e2 : bkAt (b :: T) (i + 1) = bkAt T i := by simp [bkAt]
      rw [e2, ← h1, ← h2, ← h3, ← e, ← e, ← e]
      exact ⟨by congr 1; omega, by congr 1; omega, by congr 1; omega⟩
/-- the first node from place i on that stands under a place at a distance -/
def kidB (T : List BkN) (up : Nat) (d : Int) : Nat → Nat → Option Nat
  | 0, _ => none
  | f + 1, i => if (bkAt T i).u = (up : Int) ∧ (bkAt T i).d = d then some i else kidB T up d f (i + 1)
theorem kidB_lt {T : List BkN} {up : Nat} {d : Int} : ∀ {f i k : Nat}, kidB T up d f i = some k → i ≤ k ∧ k < i + f ∧ (bkAt T k).u = (up : Int) ∧ (bkAt T k).d = d
  | 0, _, _, h => by cases h
  | f + 1, i, k, h => by
    rw [kidB] at h
    split at h
    · rename_i h2
      injection h with h
      subst h
      exact ⟨Nat.le_refl _, by omega, h2⟩
    · obtain ⟨h1, h3, h4⟩ := kidB_lt h
      exact ⟨by omega, by omega, h4⟩
/-- where a word is to stand: its place above and its distance; none: it is there -/
def goB (T : List BkN) (w : ByteArray) : Nat → Nat → Option (Nat × Int)
  | 0, _ => none
  | f + 1, p => if distI (bkAt T p).t w false = 0 then none else match kidB T p (distI (bkAt T p).t w false) (T.length - 1) 1 with
    | none => some (p, distI (bkAt T p).t w false)
    | some k => goB T w f k
def addB (T : List BkN) (w : ByteArray) : List BkN := if T = [] then [⟨w, 0, 0⟩] else match goB T w T.length 0 with
  | none => T
  | some (p, d) => T ++ [⟨w, d, (p : Int)⟩]
def bkTo (t : Nat → ByteArray) : Nat → List BkN
  | 0 => []
  | m + 1 => addB (bkTo t m) (t m)
/-- each node but the first stands under one before it -/
def UpB (T : List BkN) : Prop := ∀ i, 1 ≤ i → i < T.length → 0 ≤ (bkAt T i).u ∧ (bkAt T i).u < (i : Int)
theorem kidB_up {T : List BkN} (h : UpB T) {p k : Nat} {d : Int} (hk : kidB T p d (T.length - 1) 1 = some k) : p < k ∧ k < T.length := by
  obtain ⟨h1, h2, h3, _⟩ := kidB_lt hk
  have := h k h1 (by omega)
  omega
theorem goB_lt {T : List BkN} (h : UpB T) {w : ByteArray} : ∀ {f p q : Nat} {d : Int}, p < T.length → goB T w f p = some (q, d) → q < T.length
  | 0, _, _, _, _, h2 => by cases h2
  | f + 1, p, q, d, hp, h2 => by
    rw [goB] at h2
    split at h2
    · cases h2
    · split at h2
      · injection h2 with h2
        injection h2 with h2 h3
        omega
      · rename_i k hk
        exact goB_lt h (kidB_up h hk).2 h2
theorem addB_len (T : List BkN) (w : ByteArray) : (addB T w).length ≤ T.length + 1 ∧ 1 ≤ (addB T w).length := by
  unfold addB
  split
  · simp
  · rename_i h
    have : 1 ≤ T.length := by cases T; exact absurd rfl h; simp
    split
    · omega
    · simp
theorem addB_up {T : List BkN} (h : UpB T) (w : ByteArray) : UpB (addB T w) := by
  unfold addB
  split
  · intro i h1 h2; simp at h2; omega
  · rename_i hne
    split
    · exact h
    · rename_i p d hg
      have hp := goB_lt h (by cases T; exact absurd rfl hne; simp) hg
      intro i h1 h2
      rw [List.length_append, List.length_singleton] at h2
      by_cases e : i < T.length
      · have : bkAt (T ++ [⟨w, d, (p : Int)⟩]) i = bkAt T i := by simp [bkAt, List.getD_eq_getElem?_getD, List.getElem?_append_left e]
        rw [this]; exact h i h1 e
      · have : i = T.length := by omega
        subst this
        have : bkAt (T ++ [⟨w, d, (p : Int)⟩]) T.length = ⟨w, d, (p : Int)⟩ := by simp [bkAt, List.getD_eq_getElem?_getD]
        rw [this]
        show 0 ≤ (p : Int) ∧ (p : Int) < (T.length : Int)
        omega
theorem bkTo_len (t : Nat → ByteArray) (m : Nat) : (bkTo t m).length ≤ m := by
  induction m with
  | zero => exact Nat.le_refl _
  | succ m ih => rw [bkTo]; have := (addB_len (bkTo t m) (t m)).1; omega
theorem bkTo_up (t : Nat → ByteArray) (m : Nat) : UpB (bkTo t m) := by
  induction m with
  | zero => intro i h1 h2; simp [bkTo] at h2
  | succ m ih => exact addB_up ih _
/-- each node's word is one of the words, its distance a number of faults -/
theorem bkTo_sz {t : Nat → ByteArray} {n B : Nat} (h : ∀ i, i < n → (t i).size ≤ B) : ∀ m, m ≤ n → ∀ b ∈ bkTo t m, b.t.size ≤ B
  | 0, _, b, hb => by cases hb
  | m + 1, hm, b, hb => by
    rw [bkTo] at hb
    unfold addB at hb
    split at hb
    · rw [List.mem_singleton] at hb; subst hb; exact h m (by omega)
    · split at hb
      · exact bkTo_sz h m (by omega) b hb
      · rw [List.mem_append, List.mem_singleton] at hb
        rcases hb with hb | hb
        · exact bkTo_sz h m (by omega) b hb
        · subst hb; exact h m (by omega)
theorem goB_in {T : List BkN} (h : UpB T) {w : ByteArray} {p f : Nat} (hp : p < T.length) (hf : T.length ≤ p + f) (f' : Nat) (hf' : T.length ≤ p + f') : goB T w f p = goB T w f' p := by
  induction f generalizing p f' with
  | zero => omega
  | succ f ih =>
    cases f' with
    | zero => omega
    | succ f' =>
      rw [goB, goB]
      split
      · rfl
      · split
        · rfl
        · rename_i k hk
          have hk2 := kidB_up h hk
          exact ih hk2.2 (by omega) f' (by omega)
end Go.Proofs.Ytgikjopmijomgaa

/-
  Chapters 15, 16: words put in one by one, each once; words found, sorted, each once: one list (plain).
-/
import Derived.Test.YtpniiaemgobaiabMayBeF
import Derived.Test.YtpniiaemgobaiabUpL
import Derived.Lib.SlicesCompact
namespace Go.Proofs.Ytpniiaemgobaiab
open Go.RowKit
set_option linter.unusedVariables false
set_option maxRecDepth 100000
abbrev RiseL (L : List (List UInt8)) : Prop := L.Pairwise (· < ·)
/-- a text put in, if it is not there -/
def putL (x : List UInt8) : List (List UInt8) → List (List UInt8)
  | [] => [x]
  | y :: L => if y < x then y :: putL x L else if y = x then y :: L else x :: y :: L
theorem mem_putL {x u : List UInt8} {L : List (List UInt8)} : u ∈ putL x L ↔ u = x ∨ u ∈ L := by
  induction L with
  | nil => simp [putL]
  | cons y L ih =>
    rw [putL]
    by_cases h : y < x
    · rw [if_pos h, List.mem_cons, ih, List.mem_cons]
      constructor
      · rintro (h | h | h)
        · exact .inr (.inl h)
        · exact .inl h
        · exact .inr (.inr h)
      · rintro (h | h | h)
        · exact .inr (.inl h)
        · exact .inl h
        · exact .inr (.inr h)
    · rw [if_neg h]
      by_cases e : y = x
      · rw [if_pos e, List.mem_cons]
        constructor
        · exact fun h => .inr h
        · rintro (h | h)
          · exact .inl (h.trans e.symm)
          · exact h
      · rw [if_neg e, List.mem_cons]
theorem putL_rise {x : List UInt8} {L : List (List UInt8)} (h : RiseL L) : RiseL (putL x L) := by
  induction L with
  | nil => exact List.pairwise_singleton _ _
  | cons y L ih =>
    obtain ⟨h1, h2⟩ := List.pairwise_cons.1 h
    rw [putL]
    by_cases hx : y < x
    · rw [if_pos hx]
      refine List.pairwise_cons.2 ⟨fun z hz => ?_, ih h2⟩
      rcases mem_putL.1 hz with e | e
      · rw [e]; exact hx
      · exact h1 z e
    · rw [if_neg hx]
      by_cases e : y = x
      · rw [if_pos e]; exact h
      · rw [if_neg e]
        have hxy : x < y := by
          by_cases h3 : x < y
          · exact h3
          · exact absurd (bl_tri hx h3) e
        refine List.pairwise_cons.2 ⟨fun z hz => ?_, h⟩
        rcases List.mem_cons.1 hz with e2 | e2
        · rw [e2]; exact hxy
        · exact bl_trans hxy (h1 z e2)
theorem putL_len (x : List UInt8) (L : List (List UInt8)) : (putL x L).length ≤ L.length + 1 := by
  induction L with
  | nil => simp [putL]
  | cons y L ih =>
    rw [putL]
    split
    · simp only [List.length_cons]; omega
    · split
      · simp only [List.length_cons]; omega
      · simp only [List.length_cons]; omega
/-- where a text is put in -/
theorem putL_split (x : List UInt8) : ∀ (L : List (List UInt8)) (k : Nat), k ≤ L.length → (∀ j, j < k → L.getD j [] < x) → (k = L.length ∨ (¬ L.getD k [] < x ∧ L.getD k [] ≠ x)) → putL x L = L.take k ++ x :: L.drop k
  | [], k, h, _, _ => by
    have : k = 0 := by simpa using h
    subst this; rfl
  | y :: L, 0, _, _, h2 => by
    rcases h2 with h2 | ⟨h2, h3⟩
    · simp at h2
    · rw [putL, if_neg (by simpa using h2), if_neg (by simpa using h3)]; rfl
  | y :: L, k + 1, h, h1, h2 => by
    have h0 : y < x := by simpa using h1 0 (by omega)
    rw [putL, if_pos h0, putL_split x L k (by simpa using h) (fun j hj => by simpa using h1 (j + 1) (by omega)) (by
      rcases h2 with h2 | h2
      · exact .inl (by simpa using h2)
      · exact .inr (by simpa using h2))]
    rfl
theorem putL_same (x : List UInt8) : ∀ (L : List (List UInt8)) (k : Nat), k < L.length → (∀ j, j < k → L.getD j [] < x) → L.getD k [] = x → putL x L = L
  | [], k, h, _, _ => by simp at h
  | y :: L, 0, _, _, h2 => by
    have h3 : y = x := by simpa using h2
    rw [putL, if_neg (by rw [h3]; exact bl_irrefl x), if_pos h3]
  | y :: L, k + 1, h, h1, h2 => by
    have h0 : y < x := by simpa using h1 0 (by omega)
    rw [putL, if_pos h0, putL_same x L k (by simpa using h) (fun j hj => by simpa using h1 (j + 1) (by omega)) (by simpa using h2)]
theorem RiseL.up {L : List (List UInt8)} (h : RiseL L) : UpL L := by
  induction L with
  | nil => trivial
  | cons y L ih =>
    obtain ⟨h1, h2⟩ := List.pairwise_cons.1 h
    exact ⟨fun z hz => bl_asymm (h1 z hz), ih h2⟩
theorem RiseL.count {L : List (List UInt8)} (h : RiseL L) (u : List UInt8) : L.count u = if u ∈ L then 1 else 0 := by
  induction L with
  | nil => simp
  | cons y L ih =>
    obtain ⟨h1, h2⟩ := List.pairwise_cons.1 h
    rw [List.count_cons, ih h2]
    by_cases e : y = u
    · subst e
      have hn : ¬ y ∈ L := fun hm => bl_irrefl y (h1 y hm)
      simp [hn]
    · have e2 : ¬ u = y := fun h => e h.symm
      simp [e, e2]
theorem rise_eq {A B : List (List UInt8)} (hA : RiseL A) (hB : RiseL B) (h : ∀ u, u ∈ A ↔ u ∈ B) : A = B := by
  refine upL_eq A B hA.up hB.up fun u => ?_
  rw [hA.count, hB.count]
  by_cases hu : u ∈ A
  · rw [if_pos hu, if_pos ((h u).1 hu)]
  · rw [if_neg hu, if_neg fun hb => hu ((h u).2 hb)]
/-- the first m words that are near, put in one by one -/
def nearTo (t : Nat → ByteArray) (s : ByteArray) (k : Int) : Nat → List (List UInt8)
  | 0 => []
  | m + 1 => if distI (t m) s false ≤ k then putL (bl (t m)) (nearTo t s k m) else nearTo t s k m
/-- the first m words that are near, as they come -/
def foundTo (t : Nat → ByteArray) (s : ByteArray) (k : Int) : Nat → List (List UInt8)
  | 0 => []
  | m + 1 => if distI (t m) s false ≤ k then foundTo t s k m ++ [bl (t m)] else foundTo t s k m
theorem nearTo_rise (t : Nat → ByteArray) (s : ByteArray) (k : Int) (m : Nat) : RiseL (nearTo t s k m) := by
  induction m with
  | zero => exact List.Pairwise.nil
  | succ m ih =>
    rw [nearTo]
    split
    · exact putL_rise ih
    · exact ih
theorem nearTo_len (t : Nat → ByteArray) (s : ByteArray) (k : Int) (m : Nat) : (nearTo t s k m).length ≤ m := by
  induction m with
  | zero => exact Nat.le_refl _
  | succ m ih =>
    rw [nearTo]
    split
    · have := putL_len (bl (t m)) (nearTo t s k m); omega
    · omega
theorem foundTo_len (t : Nat → ByteArray) (s : ByteArray) (k : Int) (m : Nat) : (foundTo t s k m).length ≤ m := by
  induction m with
  | zero => exact Nat.le_refl _
  | succ m ih =>
    rw [foundTo]
    split
    · rw [List.length_append]; simp; omega
    · omega
theorem near_found (t : Nat → ByteArray) (s : ByteArray) (k : Int) (m : Nat) (u : List UInt8) : u ∈ nearTo t s k m ↔ u ∈ foundTo t s k m := by
  induction m with
  | zero => exact Iff.rfl
  | succ m ih =>
    rw [nearTo, foundTo]
    split
    · rw [mem_putL, List.mem_append, List.mem_singleton, ih]
      exact ⟨fun h => h.elim .inr .inl, fun h => h.elim .inr .inl⟩
    · exact ih
theorem up_le : ∀ (K : List (List UInt8)), UpL K → ∀ i j, i ≤ j → j < K.length → ¬ K.getD j [] < K.getD i []
  | [], _, _, j, _, hj => by simp at hj
  | y :: K, h, 0, 0, _, _ => bl_irrefl _
  | y :: K, h, 0, j + 1, _, hj => by
    have hj2 : j < K.length := by simpa using hj
    have := h.1 (K.getD j []) (by rw [List.getD_eq_getElem?_getD, List.getElem?_eq_getElem hj2]; exact List.getElem_mem hj2)
    simpa using this
  | y :: K, h, i + 1, 0, hij, _ => by omega
  | y :: K, h, i + 1, j + 1, hij, hj => by
    have := up_le K h.2 i j (by omega) (by simpa using hj)
    simpa using this
theorem arr_at (K : List (List UInt8)) (m : Nat) : K.toArray[m]! = K.getD m [] := by
  by_cases h : m < K.length
  · rw [getElem!_pos _ m (by simpa using h)]
    simp [List.getD_eq_getElem?_getD, h]
  · rw [getElem!_neg _ m (by simpa using h), List.getD_eq_getElem?_getD, List.getElem?_eq_none (by omega)]
    rfl
theorem compact_rise {K : List (List UInt8)} (h : UpL K) (m : Nat) (hm : m ≤ K.length) : RiseL (Lib.compactUpTo K.toArray m) ∧ (∀ u, u ∈ Lib.compactUpTo K.toArray m ↔ u ∈ K.take m) := by
  induction m with
  | zero => exact ⟨by simp [Lib.compactUpTo], fun u => by simp [Lib.compactUpTo]⟩
  | succ m ih =>
    obtain ⟨h1, h2⟩ := ih (by omega)
    have hmk : m < K.length := by omega
    have hg : K[m] = K.getD m [] := by simp [List.getD_eq_getElem?_getD, hmk]
    rw [Lib.compactUpTo_succ, arr_at]
    by_cases hk : Lib.keeps K.toArray m = true
    · rw [if_pos hk]
      refine ⟨List.pairwise_append.2 ⟨h1, List.pairwise_singleton _ _, fun u hu v hv => ?_⟩, fun u => ?_⟩
      · rw [List.mem_singleton] at hv
        subst hv
        obtain ⟨i, hi, e⟩ := List.getElem_of_mem ((h2 u).1 hu)
        rw [List.length_take] at hi
        rw [List.getElem_take] at e
        have hi2 : i < K.length := by omega
        have e2 : K.getD i [] = u := by rw [← e]; simp [List.getD_eq_getElem?_getD, hi2]
        unfold Lib.keeps at hk
        have hk2 := of_decide_eq_true hk
        have hne : K.getD m [] ≠ K.getD (m - 1) [] := by
          rcases hk2 with hk2 | hk2
          · omega
          · rw [arr_at, arr_at] at hk2; exact hk2
        have a1 := up_le K h i (m - 1) (by omega) (by omega)
        have a2 := up_le K h (m - 1) m (by omega) hmk
        have a3 : K.getD (m - 1) [] < K.getD m [] := by
          by_cases h3 : K.getD (m - 1) [] < K.getD m []
          · exact h3
          · exact absurd (bl_tri a2 h3) hne
        rw [← e2]
        exact bl_le_lt a1 a3
      · rw [List.mem_append, List.mem_singleton, h2, List.take_succ_eq_append_getElem hmk, List.mem_append, List.mem_singleton, hg]
    · rw [if_neg hk, List.append_nil]
      refine ⟨h1, fun u => ?_⟩
      rw [h2, List.take_succ_eq_append_getElem hmk, List.mem_append, List.mem_singleton, hg]
      constructor
      · exact .inl
      · rintro (h3 | h3)
        · exact h3
        · have hk2 : ¬ (m = 0 ∨ K.toArray[m]! ≠ K.toArray[m - 1]!) := by
            intro h4; exact hk (decide_eq_true h4)
          have hm0 : m ≠ 0 := fun e => hk2 (.inl e)
          have he : K.getD m [] = K.getD (m - 1) [] := by
            rw [← arr_at, ← arr_at]
            by_cases h5 : K.toArray[m]! = K.toArray[m - 1]!
            · exact h5
            · exact absurd (.inr h5) hk2
          rw [h3, he]
          have hm1 : m - 1 < K.length := by omega
          have e9 : K.getD (m - 1) [] = K[m - 1] := by simp [List.getD_eq_getElem?_getD, hm1]
          rw [e9]
          refine List.mem_take_iff_getElem.2 ⟨m - 1, by omega, ?_⟩
          rfl
theorem compact_all_rise {K : List (List UInt8)} (h : UpL K) : RiseL (Lib.compact K) ∧ ∀ u, u ∈ Lib.compact K ↔ u ∈ K := by
  have := compact_rise h K.length (Nat.le_refl _)
  rw [List.take_length] at this
  exact this
theorem compact_near (t : Nat → ByteArray) (s : ByteArray) (k : Int) (m : Nat) : Lib.compact ((foundTo t s k m).mergeSort (fun x y => decide (x ≤ y))) = nearTo t s k m := by
  obtain ⟨h1, h2⟩ := compact_all_rise (sorted_up (foundTo t s k m))
  refine rise_eq h1 (nearTo_rise t s k m) fun u => ?_
  rw [h2, near_found]
  exact (List.mergeSort_perm _ _).mem_iff
theorem near_may {s t : ByteArray} {k : Int} {n : Nat} (hs : s.size ≤ 20) (ht : t.size ≤ 20) (h1 : 1 ≤ n) (h2 : n ≤ 10) (h3 : 0 ≤ k) (h4 : k ≤ 20) (h : distI s t false ≤ k) : mayB s t k (n : Int) = true :=
  mayB_more (mayB_dist s t n (by omega) (by omega) h1 h2) h h3 (by omega)
end Go.Proofs.Ytpniiaemgobaiab

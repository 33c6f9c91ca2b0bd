/-
  Chapter 19: words by how far they are, then by themselves (plain): sorted and each once they are those put in by rank.
-/
import Derived.Test.YtpniiaemgobaiaaRows
namespace Go.Proofs.Ytpniiaemgobaiaa
set_option linter.unusedVariables false
set_option maxRecDepth 100000
structure Fw where
  d : Int
  w : List UInt8
instance : Inhabited Fw := ⟨⟨0, []⟩⟩
instance : DecidableEq Fw := fun x y => if h : x.d = y.d ∧ x.w = y.w then isTrue (by cases x; cases y; simp only at h; rw [h.1, h.2]) else isFalse (fun e => h (by rw [e]; exact ⟨rfl, rfl⟩))
def ltW (x y : Fw) : Bool := decide (x.d < y.d ∨ (x.d = y.d ∧ x.w < y.w))
theorem ltW_yes {x y : Fw} : ltW x y = true ↔ x.d < y.d ∨ (x.d = y.d ∧ x.w < y.w) := decide_eq_true_iff
theorem ltW_no {x y : Fw} : ltW x y = false ↔ ¬ (x.d < y.d ∨ (x.d = y.d ∧ x.w < y.w)) := decide_eq_false_iff_not
theorem ltW_irr (x : Fw) : ltW x x = false := by rw [ltW_no]; rintro (h | ⟨_, h⟩); · omega
                                                 · exact List.lt_irrefl _ h
theorem ltW_tr {x y z : Fw} (h : ltW x y = true) (k : ltW y z = true) : ltW x z = true := by
  rw [ltW_yes] at *
  rcases h with h | ⟨h, h2⟩
  · rcases k with k | ⟨k, k2⟩
    · left; omega
    · left; omega
  · rcases k with k | ⟨k, k2⟩
    · left; omega
    · right; exact ⟨by omega, List.lt_trans h2 k2⟩
theorem ltW_tri {x y : Fw} (h : ltW x y = false) (k : ltW y x = false) : x = y := by
  rw [ltW_no] at *
  have hd : x.d = y.d := by
    have h1 : ¬ x.d < y.d := fun e => h (.inl e)
    have k1 : ¬ y.d < x.d := fun e => k (.inl e)
    omega
  have hw : x.w = y.w := by
    have h2 : ¬ x.w < y.w := fun e => h (.inr ⟨hd, e⟩)
    have k2 : ¬ y.w < x.w := fun e => k (.inr ⟨hd.symm, e⟩)
    exact List.le_antisymm (List.not_lt.1 k2) (List.not_lt.1 h2)
  cases x; cases y; simp only at hd hw; rw [hd, hw]
theorem ltW_neg {x y z : Fw} (h : ltW x y = false) (k : ltW y z = false) : ltW x z = false := by
  cases hxz : ltW x z with
  | false => rfl
  | true =>
    cases hyx : ltW y x with
    | true => have := ltW_tr hyx hxz; rw [k] at this; cases this
    | false => have := ltW_tri h hyx; rw [this] at hxz; rw [k] at hxz; cases hxz
def UpW (S : List Fw) : Prop := S.Pairwise (fun x y => ltW x y = true)
theorem up_eq : ∀ (A B : List Fw), UpW A → UpW B → (∀ x, x ∈ A ↔ x ∈ B) → A = B
  | [], [], _, _, _ => rfl
  | [], y :: ys, _, _, h => by have := (h y).2 List.mem_cons_self; cases this
  | x :: xs, [], _, _, h => by have := (h x).1 List.mem_cons_self; cases this
  | x :: xs, y :: ys, hA, hB, h => by
    obtain ⟨a1, a2⟩ := List.pairwise_cons.1 hA
    obtain ⟨b1, b2⟩ := List.pairwise_cons.1 hB
    have e : x = y := by
      rcases List.mem_cons.1 ((h x).1 List.mem_cons_self) with e | e
      · exact e
      · rcases List.mem_cons.1 ((h y).2 List.mem_cons_self) with e2 | e2
        · exact e2.symm
        · have h1 := b1 x e
          have h2 := a1 y e2
          have := ltW_tr h1 h2
          rw [ltW_irr] at this; cases this
    subst e
    have hne : ∀ z, z ∈ xs → z ≠ x := fun z hz e => by have := a1 z hz; rw [e, ltW_irr] at this; cases this
    have hne2 : ∀ z, z ∈ ys → z ≠ x := fun z hz e => by have := b1 z hz; rw [e, ltW_irr] at this; cases this
    rw [up_eq xs ys a2 b2 fun z => ⟨fun hz => by
      rcases List.mem_cons.1 ((h z).1 (List.mem_cons_of_mem _ hz)) with e | e
      · exact absurd e (hne z hz)
      · exact e, fun hz => by
      rcases List.mem_cons.1 ((h z).2 (List.mem_cons_of_mem _ hz)) with e | e
      · exact absurd e (hne2 z hz)
      · exact e⟩]
/-- one more, by rank -/
def rankIn (x : Fw) : List Fw → List Fw
  | [] => [x]
  | y :: ys => if ltW y x then y :: rankIn x ys else if y.w = x.w then y :: ys else x :: y :: ys
theorem rankIn_mem {x : Fw} : ∀ (L : List Fw), (∀ y ∈ L, y.w = x.w → y = x) → ∀ u, u ∈ rankIn x L ↔ u = x ∨ u ∈ L
  | [], _, u => by simp [rankIn]
  | y :: ys, h, u => by
    rw [rankIn]
    split
    · rw [List.mem_cons, rankIn_mem ys (fun z hz => h z (List.mem_cons_of_mem _ hz)) u, List.mem_cons]
      constructor
      · rintro (e | e | e)
        · exact .inr (.inl e)
        · exact .inl e
        · exact .inr (.inr e)
      · rintro (e | e | e)
        · exact .inr (.inl e)
        · exact .inl e
        · exact .inr (.inr e)
    · split
      · rename_i e
        have := h y List.mem_cons_self e
        constructor
        · exact fun hu => .inr hu
        · rintro (hu | hu)
          · rw [hu, ← this]; exact List.mem_cons_self
          · exact hu
      · exact List.mem_cons
theorem rankIn_up {x : Fw} : ∀ (L : List Fw), (∀ y ∈ L, y.w = x.w → y = x) → UpW L → UpW (rankIn x L)
  | [], _, _ => List.pairwise_singleton _ _
  | y :: ys, h, hL => by
    obtain ⟨h1, h2⟩ := List.pairwise_cons.1 hL
    have hys := fun z hz => h z (List.mem_cons_of_mem _ hz)
    rw [rankIn]
    split
    · rename_i hlt
      refine List.pairwise_cons.2 ⟨fun z hz => ?_, rankIn_up ys hys h2⟩
      rcases (rankIn_mem ys hys z).1 hz with e | e
      · rw [e]; exact hlt
      · exact h1 z e
    · split
      · exact hL
      · rename_i hlt hne
        have hyx : ltW y x = false := by cases e : ltW y x; rfl; exact absurd e hlt
        have hxy : ltW x y = true := by
          cases e : ltW x y with
          | true => rfl
          | false => exact absurd (by rw [ltW_tri hyx e]) hne
        refine List.pairwise_cons.2 ⟨fun z hz => ?_, hL⟩
        rcases List.mem_cons.1 hz with e | e
        · rw [e]; exact hxy
        · exact ltW_tr hxy (h1 z e)
theorem rankIn_split {x : Fw} : ∀ (L : List Fw) (k : Nat), k ≤ L.length → (∀ j, j < k → ltW (L.getD j default) x = true) → (k = L.length ∨ (ltW (L.getD k default) x = false ∧ (L.getD k default).w ≠ x.w)) → rankIn x L = L.take k ++ x :: L.drop k
  | [], k, hk, _, _ => by rw [show k = 0 by simpa using hk]; rfl
  | y :: ys, 0, _, _, h => by
    rcases h with h | ⟨h1, h2⟩
    · simp at h
    · have h1' : ltW y x = false := h1
      rw [rankIn, h1', if_neg Bool.false_ne_true, if_neg (show ¬ y.w = x.w from h2)]; rfl
  | y :: ys, k + 1, hk, hall, h => by
    have h0 : ltW y x = true := hall 0 (by omega)
    rw [rankIn, h0, if_pos rfl, rankIn_split ys k (by simpa using hk) (fun j hj => hall (j + 1) (by omega)) (by
      rcases h with h | h
      · left; simpa using h
      · right; exact h)]
    rfl
theorem rankIn_same {x : Fw} : ∀ (L : List Fw) (k : Nat), k < L.length → (∀ j, j < k → ltW (L.getD j default) x = true) → ltW (L.getD k default) x = false → (L.getD k default).w = x.w → rankIn x L = L
  | [], k, hk, _, _, _ => by simp at hk
  | y :: ys, 0, _, _, h1, h2 => by
    have h1' : ltW y x = false := h1
    rw [rankIn, h1', if_neg Bool.false_ne_true, if_pos (show y.w = x.w from h2)]
  | y :: ys, k + 1, hk, hall, h1, h2 => by
    have h0 : ltW y x = true := hall 0 (by omega)
    rw [rankIn, h0, if_pos rfl, rankIn_same ys k (by simpa using hk) (fun j hj => hall (j + 1) (by omega)) h1 h2]
/-- the words, each with how far it is (far), that are near enough -/
def foundW (F : List UInt8 → Int) (t : Nat → List UInt8) (k : Int) : Nat → List Fw
  | 0 => []
  | m + 1 => if F (t m) ≤ k then foundW F t k m ++ [⟨F (t m), t m⟩] else foundW F t k m
def rankTo (F : List UInt8 → Int) (t : Nat → List UInt8) (k : Int) : Nat → List Fw
  | 0 => []
  | m + 1 => if F (t m) ≤ k then rankIn ⟨F (t m), t m⟩ (rankTo F t k m) else rankTo F t k m
theorem rankTo_facts (F : List UInt8 → Int) (t : Nat → List UInt8) (k : Int) : ∀ m, UpW (rankTo F t k m) ∧ (∀ x ∈ rankTo F t k m, x.d = F x.w) ∧ ∀ x, x ∈ rankTo F t k m ↔ x ∈ foundW F t k m
  | 0 => ⟨List.Pairwise.nil, fun x h => (by cases h), fun x => Iff.rfl⟩
  | m + 1 => by
    obtain ⟨h1, h2, h3⟩ := rankTo_facts F t k m
    rw [rankTo, foundW]
    split
    · have hx : ∀ y ∈ rankTo F t k m, y.w = (⟨F (t m), t m⟩ : Fw).w → y = ⟨F (t m), t m⟩ := fun y hy e => by
        have := h2 y hy
        cases y
        simp only at e this
        rw [this, e]
      refine ⟨rankIn_up _ hx h1, fun x hx2 => ?_, fun x => ?_⟩
      · rcases (rankIn_mem _ hx x).1 hx2 with e | e
        · rw [e]
        · exact h2 x e
      · rw [rankIn_mem _ hx, h3, List.mem_append, List.mem_singleton]
        exact ⟨fun h => h.symm, fun h => h.symm⟩
    · exact ⟨h1, h2, h3⟩
theorem foundW_len (F : List UInt8 → Int) (t : Nat → List UInt8) (k : Int) : ∀ m, (foundW F t k m).length ≤ m
  | 0 => Nat.le_refl _
  | m + 1 => by have := foundW_len F t k m; rw [foundW]; split <;> simp <;> omega
theorem foundW_iff (F : List UInt8 → Int) (t : Nat → List UInt8) (k : Int) (x : Fw) : ∀ m, x ∈ foundW F t k m ↔ ∃ i, i < m ∧ F (t i) ≤ k ∧ x = ⟨F (t i), t i⟩
  | 0 => ⟨fun h => (by cases h), fun ⟨i, h, _⟩ => (by omega)⟩
  | m + 1 => by
    have ih := foundW_iff F t k x m
    rw [foundW]
    constructor
    · intro h
      split at h
      · rename_i hd
        rcases List.mem_append.1 h with h | h
        · obtain ⟨i, h1, h2⟩ := ih.1 h; exact ⟨i, by omega, h2⟩
        · exact ⟨m, by omega, hd, List.mem_singleton.1 h⟩
      · obtain ⟨i, h1, h2⟩ := ih.1 h; exact ⟨i, by omega, h2⟩
    · rintro ⟨i, h1, h2, h3⟩
      by_cases e : i = m
      · subst e; rw [if_pos h2]; exact List.mem_append_right _ (List.mem_singleton.2 h3)
      · have := ih.2 ⟨i, by omega, h2, h3⟩
        split
        · exact List.mem_append_left _ this
        · exact this
/-- without those that are the one ahead, of the first ones -/
def compN (S : List Fw) : Nat → List Fw
  | 0 => []
  | 1 => [S.getD 0 default]
  | j + 2 => if S.getD (j + 1) default = S.getD j default then compN S (j + 1) else compN S (j + 1) ++ [S.getD (j + 1) default]
theorem compN_facts {S : List Fw} (hS : S.Pairwise (fun x y => ltW y x = false)) : ∀ j, j ≤ S.length → UpW (compN S j) ∧ (∀ x, x ∈ compN S j ↔ x ∈ S.take j) ∧ (∀ i, i + 1 = j → ∃ l, compN S j = l ++ [S.getD i default])
  | 0, _ => ⟨List.Pairwise.nil, fun x => by simp [compN], fun i h => by omega⟩
  | 1, h => by
    have e : S.take 1 = [S.getD 0 default] := by
      cases S with
      | nil => simp at h
      | cons x xs => rfl
    exact ⟨List.pairwise_singleton _ _, fun x => by rw [compN, e], fun i hi => ⟨[], by rw [show i = 0 by omega]; rfl⟩⟩
  | j + 2, h => by
    obtain ⟨h1, h2, h3⟩ := compN_facts hS (j + 1) (by omega)
    have hj : j + 1 < S.length := by omega
    have et : S.take (j + 2) = S.take (j + 1) ++ [S.getD (j + 1) default] := by
      rw [List.take_succ_eq_append_getElem hj, List.getD_eq_getElem?_getD, List.getElem?_eq_getElem hj]; rfl
    have hg : ∀ i (hi : i < S.length), S.getD i default = S[i] := fun i hi => by rw [List.getD_eq_getElem?_getD, List.getElem?_eq_getElem hi]; rfl
    obtain ⟨l, hl⟩ := h3 j rfl
    rw [compN]
    split
    · rename_i e
      refine ⟨h1, fun x => ?_, fun i hi => ?_⟩
      · rw [h2, et, List.mem_append, List.mem_singleton]
        refine ⟨fun h => .inl h, fun h => h.elim id fun h => ?_⟩
        rw [h, e, hg j (by omega)]
        rw [List.mem_take_iff_getElem]
        exact ⟨j, by omega, rfl⟩
      · rw [show i = j + 1 by omega, e]; exact ⟨l, hl⟩
    · rename_i hne
      refine ⟨?_, fun x => by rw [List.mem_append, h2, et, List.mem_append], fun i hi => ⟨compN S (j + 1), by rw [show i = j + 1 by omega]⟩⟩
      have hlt : ltW (S.getD j default) (S.getD (j + 1) default) = true := by
        have h4 : ltW (S.getD (j + 1) default) (S.getD j default) = false := by
          rw [hg j (by omega), hg (j + 1) hj]; exact List.pairwise_iff_getElem.1 hS j (j + 1) (by omega) hj (by omega)
        cases e : ltW (S.getD j default) (S.getD (j + 1) default) with
        | true => rfl
        | false => exact absurd (ltW_tri h4 e) hne
      refine List.pairwise_append.2 ⟨h1, List.pairwise_singleton _ _, fun a ha b hb => ?_⟩
      rw [List.mem_singleton.1 hb]
      rw [hl] at ha h1
      rcases List.mem_append.1 ha with ha | ha
      · exact ltW_tr ((List.pairwise_append.1 h1).2.2 a ha _ (List.mem_singleton.2 rfl)) hlt
      · rw [List.mem_singleton.1 ha]; exact hlt
theorem compN_len (S : List Fw) : ∀ j, (compN S j).length ≤ j
  | 0 => Nat.le_refl _
  | 1 => Nat.le_refl _
  | j + 2 => by
    have := compN_len S (j + 1)
    rw [compN]
    split
    · omega
    · simp; omega
/-- sorted, and each once, they are those by rank -/
theorem comp_rank (F : List UInt8 → Int) (t : Nat → List UInt8) (k : Int) (m : Nat) {S : List Fw} (hp : S.Perm (foundW F t k m)) (hS : S.Pairwise (fun x y => ltW y x = false)) : compN S S.length = rankTo F t k m := by
  obtain ⟨h1, h2, _⟩ := compN_facts hS S.length (Nat.le_refl _)
  obtain ⟨r1, _, r3⟩ := rankTo_facts F t k m
  refine up_eq _ _ h1 r1 fun x => ?_
  rw [h2, List.take_length, r3]
  exact hp.mem_iff
theorem rankTo_len (F : List UInt8 → Int) (t : Nat → List UInt8) (k : Int) (m : Nat) : (rankTo F t k m).length ≤ m := by
  induction m with
  | zero => exact Nat.le_refl _
  | succ m ih =>
    have hl : ∀ x (L : List Fw), (rankIn x L).length ≤ L.length + 1 := by
      intro x L
      induction L with
      | nil => simp [rankIn]
      | cons y ys ih => rw [rankIn]; split; · simp; omega
                        · split <;> simp
    rw [rankTo]
    split
    · have := hl ⟨F (t m), t m⟩ (rankTo F t k m); omega
    · omega
/-- what is asked for -/
def askedW (F : List UInt8 → Int) (t : Nat → List UInt8) (n : Nat) (k most : Int) : List (List UInt8) := ((rankTo F t k n).take most.toNat).map (·.w)
end Go.Proofs.Ytpniiaemgobaiaa

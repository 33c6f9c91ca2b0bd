/-
  Chapter 17: what weighs most (plain).
-/
import Derived.Test.YtpniiaemgobaiacFdI
namespace Go.Proofs.Ytpniiaemgobaiac
open Go.RowKit
set_option linter.unusedVariables false
set_option maxRecDepth 100000
/-- the best at a place, when the first i are looked at: its weight, and which one (one more than its place; 0: none) -/
def stepTo (l : List Fd) (W : Nat → Int) (at_ : Nat) : Nat → Int × Nat
  | 0 => (W (at_ + 1), 0)
  | i + 1 => if (l.getD i default).f = (at_ : Int) ∧ (stepTo l W at_ i).1 < (l.getD i default).w + W (l.getD i default).t.toNat then ((l.getD i default).w + W (l.getD i default).t.toNat, i + 1) else stepTo l W at_ i
def updB {β : Type} (f : Nat → β) (i : Nat) (x : β) : Nat → β := fun j => if j = i then x else f j
def dpB (l : List Fd) : Nat → (Nat → Int) × (Nat → Nat)
  | 0 => (fun _ => 0, fun _ => 0)
  | k + 1 => (updB (dpB l k).1 (199 - k) (stepTo l (dpB l k).1 (199 - k) l.length).1, updB (dpB l k).2 (199 - k) (stepTo l (dpB l k).1 (199 - k) l.length).2)
theorem getD_mem {l : List Fd} {i : Nat} (h : i < l.length) : l.getD i default ∈ l := by
  rw [List.getD_eq_getElem?_getD, List.getElem?_eq_getElem h]; exact List.getElem_mem h
theorem stepTo_congr {l : List Fd} (hl : FineF l) {W V : Nat → Int} {at_ : Nat} (h : ∀ j, at_ < j → j ≤ 200 → W j = V j) (ha : at_ < 200) : ∀ i, i ≤ l.length → stepTo l W at_ i = stepTo l V at_ i
  | 0, _ => by rw [stepTo, stepTo, h (at_ + 1) (by omega) (by omega)]
  | i + 1, hi => by
    have ih := stepTo_congr hl h ha i (by omega)
    obtain ⟨f0, f1, f2, _, _⟩ := hl _ (getD_mem (l := l) (i := i) (by omega))
    rw [stepTo, stepTo, ih]
    by_cases e : (l.getD i default).f = (at_ : Int)
    · rw [h (l.getD i default).t.toNat (by omega) (by omega)]
    · rw [if_neg (fun x => e x.1), if_neg (fun x => e x.1)]
theorem dpB_old (l : List Fd) (k : Nat) : ∀ j, k + j ≤ 200 → ∀ a, 200 ≤ a + k → (dpB l (k + j)).1 a = (dpB l k).1 a ∧ (dpB l (k + j)).2 a = (dpB l k).2 a
  | 0, _, _, _ => ⟨rfl, rfl⟩
  | j + 1, hk, a, h => by
    have ih := dpB_old l k j (by omega) a h
    rw [← Nat.add_assoc, dpB]
    simp only [updB, if_neg (show ¬ a = 199 - (k + j) by omega)]
    exact ih
def wB (l : List Fd) : Nat → Int := (dpB l 200).1
def cB (l : List Fd) : Nat → Nat := (dpB l 200).2
theorem wB_at {l : List Fd} (hl : FineF l) {a : Nat} (ha : a < 200) : wB l a = (stepTo l (wB l) a l.length).1 ∧ cB l a = (stepTo l (wB l) a l.length).2 := by
  obtain ⟨k, hk⟩ : ∃ k, 199 - a = k := ⟨_, rfl⟩
  have ha2 : a = 199 - k := by omega
  have h1 := dpB_old l (k + 1) (199 - k) (by omega) a (by omega)
  rw [show k + 1 + (199 - k) = 200 by omega] at h1
  have h2 : ∀ j, a < j → j ≤ 200 → wB l j = (dpB l k).1 j := fun j hj hj2 => by
    have := dpB_old l k (200 - k) (by omega) j (by omega)
    rw [show k + (200 - k) = 200 by omega] at this
    exact this.1
  rw [stepTo_congr hl h2 ha l.length (Nat.le_refl _)]
  have e : (dpB l (k + 1)).1 a = (stepTo l (dpB l k).1 a l.length).1 ∧ (dpB l (k + 1)).2 a = (stepTo l (dpB l k).1 a l.length).2 := by
    rw [dpB, ← ha2]
    simp only [updB, if_pos]
    exact ⟨trivial, trivial⟩
  exact ⟨h1.1.trans e.1, h1.2.trans e.2⟩
theorem wB_end (l : List Fd) (a : Nat) (h : 200 ≤ a) : wB l a = 0 ∧ cB l a = 0 := by
  have := dpB_old l 0 200 (by omega) a (by omega)
  rw [Nat.zero_add] at this
  exact this
theorem stepTo_ge (l : List Fd) (W : Nat → Int) (a : Nat) : ∀ i, W (a + 1) ≤ (stepTo l W a i).1
  | 0 => Int.le_refl _
  | i + 1 => by
    have := stepTo_ge l W a i
    rw [stepTo]
    split
    · rename_i h; have := h.2; dsimp only; omega
    · exact this
theorem stepTo_all (l : List Fd) (W : Nat → Int) (a : Nat) : ∀ i j, j < i → (l.getD j default).f = (a : Int) → (l.getD j default).w + W (l.getD j default).t.toNat ≤ (stepTo l W a i).1
  | 0, j, h, _ => by omega
  | i + 1, j, h, e => by
    rw [stepTo]
    by_cases hj : j = i
    · subst hj
      split
      · exact Int.le_refl _
      · rename_i h2
        have : ¬ (stepTo l W a j).1 < (l.getD j default).w + W (l.getD j default).t.toNat := fun x => h2 ⟨e, x⟩
        omega
    · have ih := stepTo_all l W a i j (by omega) e
      split
      · rename_i h2; have := h2.2; dsimp only; omega
      · exact ih
theorem stepTo_is (l : List Fd) (W : Nat → Int) (a : Nat) : ∀ i, ((stepTo l W a i).2 = 0 ∧ (stepTo l W a i).1 = W (a + 1)) ∨ (1 ≤ (stepTo l W a i).2 ∧ (stepTo l W a i).2 ≤ i ∧ (l.getD ((stepTo l W a i).2 - 1) default).f = (a : Int) ∧ (stepTo l W a i).1 = (l.getD ((stepTo l W a i).2 - 1) default).w + W (l.getD ((stepTo l W a i).2 - 1) default).t.toNat)
  | 0 => .inl ⟨rfl, rfl⟩
  | i + 1 => by
    rw [stepTo]
    split
    · rename_i h2
      refine .inr ⟨by dsimp only; omega, Nat.le_refl _, ?_, ?_⟩
      · exact h2.1
      · rfl
    · rcases stepTo_is l W a i with h | ⟨h1, h2, h3⟩
      · exact .inl h
      · exact .inr ⟨h1, by omega, h3⟩
theorem stepTo_bnd {l : List Fd} (hl : FineF l) {W : Nat → Int} {B : Int} (hW : ∀ j, 0 ≤ W j ∧ W j ≤ B) (a : Nat) : ∀ i, i ≤ l.length → 0 ≤ (stepTo l W a i).1 ∧ (stepTo l W a i).1 ≤ B + 1000
  | 0, _ => by have := hW (a + 1); rw [stepTo]; dsimp only; omega
  | i + 1, hi => by
    have ih := stepTo_bnd hl hW a i (by omega)
    have hx := hl _ (getD_mem (l := l) (i := i) (by omega))
    have hw := hW (l.getD i default).t.toNat
    rw [stepTo]
    split
    · dsimp only; omega
    · exact ih
theorem dpB_bnd {l : List Fd} (hl : FineF l) : ∀ k a, 0 ≤ (dpB l k).1 a ∧ (dpB l k).1 a ≤ (k : Int) * 1000
  | 0, a => by rw [dpB]; dsimp only; omega
  | k + 1, a => by
    have ih := dpB_bnd hl k
    rw [dpB]
    simp only [updB]
    split
    · have := stepTo_bnd hl ih (199 - k) l.length (Nat.le_refl _); omega
    · have := ih a; omega
/-- what is chosen, from a place on -/
def takeB (l : List Fd) : Nat → Nat → List Fd
  | 0, _ => []
  | n + 1, a => if 200 ≤ a then [] else if cB l a = 0 then takeB l n (a + 1) else l.getD (cB l a - 1) default :: takeB l n (l.getD (cB l a - 1) default).t.toNat
def bestF (l : List Fd) : List Fd := takeB l 200 0
def sumF : List Fd → Int
  | [] => 0
  | x :: xs => x.w + sumF xs
theorem ApartF.low {m : List Fd} {d e : Int} (h : ApartF e m) (hd : d ≤ e) : ApartF d m := by
  cases m with
  | nil => trivial
  | cons x xs => exact ⟨by have := h.1; omega, h.2⟩
theorem cB_is {l : List Fd} (hl : FineF l) {a : Nat} (ha : a < 200) : (cB l a = 0 ∧ wB l a = wB l (a + 1)) ∨ (1 ≤ cB l a ∧ cB l a ≤ l.length ∧ (l.getD (cB l a - 1) default).f = (a : Int) ∧ wB l a = (l.getD (cB l a - 1) default).w + wB l (l.getD (cB l a - 1) default).t.toNat) := by
  obtain ⟨h1, h2⟩ := wB_at hl ha
  have := stepTo_is l (wB l) a l.length
  rw [← h1, ← h2] at this
  exact this
theorem takeB_all {l : List Fd} (hl : FineF l) : ∀ n a, 200 ≤ a + n → sumF (takeB l n a) = wB l a ∧ ApartF (a : Int) (takeB l n a) ∧ (∀ x ∈ takeB l n a, x ∈ l) ∧ (takeB l n a).length ≤ 200 - a
  | 0, a, h => ⟨((wB_end l a (by omega)).1).symm, trivial, (fun x hx => by cases hx), Nat.zero_le _⟩
  | n + 1, a, h => by
    rw [takeB]
    split
    · rename_i h2
      exact ⟨((wB_end l a h2).1).symm, trivial, (fun x hx => by cases hx), Nat.zero_le _⟩
    · rename_i h2
      rcases cB_is hl (a := a) (by omega) with ⟨h3, h4⟩ | ⟨h3, h4, h5, h6⟩
      · rw [if_pos h3]
        obtain ⟨i1, i2, i3, i4⟩ := takeB_all hl n (a + 1) (by omega)
        exact ⟨by rw [i1, h4], i2.low (by omega), i3, by omega⟩
      · rw [if_neg (by omega)]
        have hm := getD_mem (l := l) (i := cB l a - 1) (by omega)
        obtain ⟨f1, f2, f3, _⟩ := hl _ hm
        obtain ⟨i1, i2, i3, i4⟩ := takeB_all hl n (l.getD (cB l a - 1) default).t.toNat (by omega)
        refine ⟨by rw [sumF, i1, h6], ⟨by omega, i2.low (by omega)⟩, fun x hx => ?_, by rw [List.length_cons]; omega⟩
        rcases List.mem_cons.1 hx with e | e
        · rw [e]; exact hm
        · exact i3 x e
theorem wB_mono {l : List Fd} (hl : FineF l) (a : Nat) : ∀ d, a + d ≤ 200 → wB l (a + d) ≤ wB l a
  | 0, _ => Int.le_refl _
  | d + 1, h => by
    have ih := wB_mono hl a d (by omega)
    have h1 := (wB_at hl (a := a + d) (by omega)).1
    have h2 := stepTo_ge l (wB l) (a + d) l.length
    rw [← h1] at h2
    show wB l (a + d + 1) ≤ _
    omega
theorem wB_most {l : List Fd} (hl : FineF l) : ∀ (c : List Fd) (a : Nat), a ≤ 200 → ApartF (a : Int) c → (∀ x ∈ c, x ∈ l) → sumF c ≤ wB l a
  | [], a, ha, _, _ => by
    show 0 ≤ wB l a
    exact (dpB_bnd hl 200 a).1
  | x :: xs, a, ha, hc, hm => by
    have hx := hm x List.mem_cons_self
    obtain ⟨f1, f2, f3, _⟩ := hl x hx
    obtain ⟨i, hi, e⟩ := List.getElem_of_mem hx
    have e2 : l.getD i default = x := by rw [List.getD_eq_getElem?_getD, List.getElem?_eq_getElem hi]; exact e
    have h1 := stepTo_all l (wB l) x.f.toNat l.length i hi (by rw [e2]; omega)
    rw [e2, ← (wB_at hl (a := x.f.toNat) (by omega)).1] at h1
    have h2 := wB_most hl xs x.t.toNat (by omega) (hc.2.low (by omega)) fun y hy => hm y (List.mem_cons_of_mem _ hy)
    have h3 := wB_mono hl a (x.f.toNat - a) (by omega)
    have h4 := hc.1
    rw [show a + (x.f.toNat - a) = x.f.toNat by omega] at h3
    rw [sumF]; omega
theorem takeB_fuel {l : List Fd} (hl : FineF l) : ∀ n m a, 200 ≤ a + n → 200 ≤ a + m → takeB l n a = takeB l m a
  | 0, 0, _, _, _ => rfl
  | 0, m + 1, a, h, _ => by rw [takeB, takeB, if_pos (by omega)]
  | n + 1, 0, a, _, h => by rw [takeB, takeB, if_pos (by omega)]
  | n + 1, m + 1, a, h1, h2 => by
    rw [takeB, takeB]
    by_cases h3 : 200 ≤ a
    · rw [if_pos h3, if_pos h3]
    · rw [if_neg h3, if_neg h3]
      rcases cB_is hl (a := a) (by omega) with ⟨h4, _⟩ | ⟨h4, h5, h6, _⟩
      · rw [if_pos h4, if_pos h4]; exact takeB_fuel hl n m (a + 1) (by omega) (by omega)
      · rw [if_neg (by omega), if_neg (by omega)]
        have hm := getD_mem (l := l) (i := cB l a - 1) (by omega)
        obtain ⟨f1, f2, f3, _⟩ := hl _ hm
        rw [takeB_fuel hl n m _ (by omega) (by omega)]
/-- what is chosen from a place on -/
def tailB (l : List Fd) (a : Nat) : List Fd := takeB l 200 a
theorem tailB_end (l : List Fd) {a : Nat} (h : 200 ≤ a) : tailB l a = [] := by unfold tailB; rw [takeB, if_pos h]
theorem tailB_none {l : List Fd} (hl : FineF l) {a : Nat} (h : a < 200) (hc : cB l a = 0) : tailB l a = tailB l (a + 1) := by
  unfold tailB; rw [takeB, if_neg (by omega), if_pos hc]; exact takeB_fuel hl _ _ _ (by omega) (by omega)
theorem tailB_some {l : List Fd} (hl : FineF l) {a i : Nat} (h : a < 200) (hc : cB l a = i + 1) : i < l.length ∧ (fdAt l i).f = (a : Int) ∧ tailB l a = fdAt l i :: tailB l (fdAt l i).t.toNat := by
  rcases cB_is hl h with ⟨h4, _⟩ | ⟨h4, h5, h6, _⟩
  · omega
  · rw [hc, Nat.add_sub_cancel] at h6
    refine ⟨by omega, h6, ?_⟩
    have hm := getD_mem (l := l) (i := i) (by omega)
    obtain ⟨f1, f2, f3, _⟩ := hl _ hm
    unfold tailB
    rw [takeB, if_neg (by omega), if_neg (by omega), hc, Nat.add_sub_cancel]
    show fdAt l i :: takeB l 199 (fdAt l i).t.toNat = fdAt l i :: takeB l 200 (fdAt l i).t.toNat
    rw [takeB_fuel hl 199 200 _ (by show 200 ≤ (l.getD i default).t.toNat + 199; omega) (by omega)]
theorem bestF_tail (l : List Fd) : bestF l = tailB l 0 := rfl
def bestV (l : List Fd) : List Fd := if foundOkB (fdI l) l.length = true then bestF l else []
def bestW (l : List Fd) : Int := if foundOkB (fdI l) l.length = true then wB l 0 else -1
theorem takeB_len (l : List Fd) : ∀ n a, (takeB l n a).length ≤ n
  | 0, _ => Nat.le_refl _
  | n + 1, a => by
    rw [takeB]
    split
    · exact Nat.zero_le _
    · split
      · have := takeB_len l n (a + 1); omega
      · have := takeB_len l n (l.getD (cB l a - 1) default).t.toNat; rw [List.length_cons]; omega
theorem bestV_len (l : List Fd) : (bestV l).length ≤ 0 * l.length + 200 := by
  unfold bestV
  split
  · have := takeB_len l 200 0; unfold bestF; omega
  · exact Nat.zero_le _
end Go.Proofs.Ytpniiaemgobaiac

/-
  Plain facts of chapter 16: pieces of texts: how many can be paired, over whatever list of them; that texts which differ by k have all but q k in common; lists in order.
-/
import Derived.Test.YtpniiaemgobaiaaEd
namespace Go.Proofs.Ytpniiaemgobaiaa
open Go.RowKit
set_option linter.unusedVariables false
set_option maxRecDepth 100000
/-- how many of both lists can be paired, counted over the things of U -/
def pairU (U A B : List (List UInt8)) : Nat := (U.map fun u => min (A.count u) (B.count u)).sum
theorem pairU_nil (A B : List (List UInt8)) : pairU [] A B = 0 := rfl
theorem pairU_cons (u : List UInt8) (U A B : List (List UInt8)) : pairU (u :: U) A B = min (A.count u) (B.count u) + pairU U A B := by
  simp [pairU]
theorem pairU_symm (U A B : List (List UInt8)) : pairU U A B = pairU U B A := by
  induction U with
  | nil => rfl
  | cons u U ih => rw [pairU_cons, pairU_cons, ih, Nat.min_comm]
theorem pairU_mono {U A B A' B' : List (List UInt8)} (h1 : ∀ u, A.count u ≤ A'.count u) (h2 : ∀ u, B.count u ≤ B'.count u) : pairU U A B ≤ pairU U A' B' := by
  induction U with
  | nil => exact Nat.le_refl _
  | cons u U ih => rw [pairU_cons, pairU_cons]; have := h1 u; have := h2 u; omega
theorem pairU_congr {U A B A' B' : List (List UInt8)} (h1 : ∀ u, A.count u = A'.count u) (h2 : ∀ u, B.count u = B'.count u) : pairU U A B = pairU U A' B' := by
  induction U with
  | nil => rfl
  | cons u U ih => rw [pairU_cons, pairU_cons, h1, h2, ih]
/-- of a thing that U has not nothing turns -/
theorem pairU_out {U : List (List UInt8)} {x : List UInt8} (h : x ∉ U) (A B : List (List UInt8)) : pairU U (x :: A) (x :: B) = pairU U A B := by
  induction U with
  | nil => rfl
  | cons u U ih =>
    have h1 : ¬ x = u := fun e => h (by rw [e]; exact List.mem_cons_self)
    have h2 : x ∉ U := fun e => h (List.mem_cons_of_mem _ e)
    rw [pairU_cons, pairU_cons, ih h2, List.count_cons_of_ne h1, List.count_cons_of_ne h1]
/-- one that both have more is a pair more -/
theorem pairU_both {U : List (List UInt8)} {x : List UInt8} (hn : U.Nodup) (h : x ∈ U) (A B : List (List UInt8)) : pairU U (x :: A) (x :: B) = pairU U A B + 1 := by
  induction U with
  | nil => cases h
  | cons u U ih =>
    rw [List.nodup_cons] at hn
    rw [pairU_cons, pairU_cons]
    by_cases e : x = u
    · subst e
      rw [pairU_out hn.1, List.count_cons_self, List.count_cons_self]; omega
    · rw [List.count_cons_of_ne e, List.count_cons_of_ne e]
      rcases List.mem_cons.1 h with h2 | h2
      · exact absurd h2 e
      · rw [ih hn.2 h2]; omega
/-- one that the other has not makes no pair -/
theorem pairU_left {U : List (List UInt8)} {x : List UInt8} {B : List (List UInt8)} (h : x ∉ B) (A : List (List UInt8)) : pairU U (x :: A) B = pairU U A B := by
  induction U with
  | nil => rfl
  | cons u U ih =>
    rw [pairU_cons, pairU_cons, ih]
    by_cases e : x = u
    · subst e
      rw [List.count_eq_zero_of_not_mem h]; omega
    · rw [List.count_cons_of_ne e]
theorem pairU_le_left {U : List (List UInt8)} (hn : U.Nodup) : ∀ A B, pairU U A B ≤ A.length := by
  intro A
  induction A with
  | nil =>
    intro B
    induction U with
    | nil => exact Nat.le_refl _
    | cons u U ih => rw [List.nodup_cons] at hn; rw [pairU_cons]; have := ih hn.2; simp at *; omega
  | cons x A ih =>
    intro B
    by_cases h : x ∈ U
    · have h1 : pairU U (x :: A) B ≤ pairU U (x :: A) (x :: B) := pairU_mono (fun _ => Nat.le_refl _) (fun u => List.count_le_count_cons)
      rw [pairU_both hn h] at h1
      have := ih B
      simp only [List.length_cons]; omega
    · have h1 : pairU U (x :: A) B ≤ pairU U (x :: A) (x :: B) := pairU_mono (fun _ => Nat.le_refl _) (fun u => List.count_le_count_cons)
      rw [pairU_out h] at h1
      have := ih B
      simp only [List.length_cons]; omega
theorem count_one {x : List UInt8} {U : List (List UInt8)} (hn : U.Nodup) (h : x ∈ U) : U.count x = 1 := by
  have h1 := List.nodup_iff_count.1 hn x
  have h2 := List.count_pos_iff.2 h
  omega
/-- over whatever things, as long as they are all of one list, each once -/
theorem pairU_any {A B U V : List (List UInt8)} (hU : U.Nodup) (hV : V.Nodup) (h1 : ∀ x, x ∈ A → x ∈ U) (h2 : ∀ x, x ∈ A → x ∈ V) : pairU U A B = pairU V A B := by
  have key : ∀ W : List (List UInt8), pairU W A B = pairU (W.filter fun x => decide (x ∈ A)) A B := by
    intro W
    induction W with
    | nil => rfl
    | cons w W ih =>
      rw [pairU_cons, ih]
      by_cases h : w ∈ A
      · rw [List.filter_cons_of_pos (by simpa using h), pairU_cons]
      · rw [List.filter_cons_of_neg (by simpa using h), List.count_eq_zero_of_not_mem h]; omega
  rw [key U, key V]
  have hp : (U.filter fun x => decide (x ∈ A)).Perm (V.filter fun x => decide (x ∈ A)) := by
    rw [List.perm_iff_count]
    intro a
    by_cases ha : a ∈ A
    · rw [List.count_filter (by simpa using ha), List.count_filter (by simpa using ha), count_one hU (h1 a ha), count_one hV (h2 a ha)]
    · rw [List.count_eq_zero_of_not_mem, List.count_eq_zero_of_not_mem] <;> simp [ha]
  unfold pairU
  exact (hp.map _).sum_nat
/-- each thing of a list once -/
def uniqL : List (List UInt8) → List (List UInt8)
  | [] => []
  | x :: l => if x ∈ uniqL l then uniqL l else x :: uniqL l
theorem mem_uniqL (x : List UInt8) (l : List (List UInt8)) : x ∈ uniqL l ↔ x ∈ l := by
  induction l with
  | nil => rfl
  | cons y l ih =>
    rw [uniqL]
    by_cases h : y ∈ uniqL l
    · rw [if_pos h, ih, List.mem_cons]
      constructor
      · exact .inr
      · rintro (e | e)
        · subst e; exact ih.1 h
        · exact e
    · rw [if_neg h, List.mem_cons, ih, List.mem_cons]
theorem nodup_uniqL (l : List (List UInt8)) : (uniqL l).Nodup := by
  induction l with
  | nil => exact List.nodup_nil
  | cons y l ih =>
    rw [uniqL]
    by_cases h : y ∈ uniqL l
    · rw [if_pos h]; exact ih
    · rw [if_neg h]; exact List.nodup_cons.2 ⟨h, ih⟩
/-- how many of both lists can be paired -/
def pairN (A B : List (List UInt8)) : Nat := pairU (uniqL (A ++ B)) A B
theorem pairN_eq {U A B : List (List UInt8)} (hU : U.Nodup) (h : ∀ x, x ∈ A → x ∈ U) : pairU U A B = pairN A B :=
  pairU_any hU (nodup_uniqL _) h fun x hx => (mem_uniqL _ _).2 (List.mem_append.2 (.inl hx))
theorem pairN_symm (A B : List (List UInt8)) : pairN A B = pairN B A := by
  unfold pairN
  rw [pairU_symm]
  exact pairU_any (nodup_uniqL _) (nodup_uniqL _) (fun x hx => (mem_uniqL _ _).2 (List.mem_append.2 (.inr hx))) fun x hx => (mem_uniqL _ _).2 (List.mem_append.2 (.inl hx))
theorem pairN_both (x : List UInt8) (A B : List (List UInt8)) : pairN (x :: A) (x :: B) = pairN A B + 1 := by
  have hm : x ∈ uniqL (x :: A ++ x :: B) := (mem_uniqL _ _).2 (by simp)
  have h1 : ∀ y, y ∈ A → y ∈ uniqL (x :: A ++ x :: B) := fun y hy => (mem_uniqL _ _).2 (by simp [hy])
  unfold pairN
  rw [pairU_both (nodup_uniqL _) hm, pairN_eq (nodup_uniqL _) h1]; rfl
theorem pairN_left {x : List UInt8} {B : List (List UInt8)} (h : x ∉ B) (A : List (List UInt8)) : pairN (x :: A) B = pairN A B := by
  have h1 : ∀ y, y ∈ A → y ∈ uniqL (x :: A ++ B) := fun y hy => (mem_uniqL _ _).2 (by simp [hy])
  unfold pairN
  rw [pairU_left h, pairN_eq (nodup_uniqL _) h1]; rfl
theorem pairN_right {y : List UInt8} {A : List (List UInt8)} (h : y ∉ A) (B : List (List UInt8)) : pairN A (y :: B) = pairN A B := by
  rw [pairN_symm, pairN_left h, pairN_symm]
theorem pairN_more (x : List UInt8) (A B : List (List UInt8)) : pairN A B ≤ pairN (x :: A) B := by
  have h1 : ∀ y, y ∈ A → y ∈ uniqL (x :: A ++ B) := fun y hy => (mem_uniqL _ _).2 (by simp [hy])
  rw [← pairN_eq (nodup_uniqL _) h1]
  exact pairU_mono (fun u => List.count_le_count_cons) (fun _ => Nat.le_refl _)
theorem pairN_more' (y : List UInt8) (A B : List (List UInt8)) : pairN A B ≤ pairN A (y :: B) := by
  rw [pairN_symm A B, pairN_symm A (y :: B)]; exact pairN_more _ _ _
theorem pairN_congr {A B A' B' : List (List UInt8)} (h1 : ∀ u, A.count u = A'.count u) (h2 : ∀ u, B.count u = B'.count u) : pairN A B = pairN A' B' := by
  have e : ∀ y, y ∈ A' → y ∈ uniqL (A ++ B) := fun y hy => (mem_uniqL _ _).2 (List.mem_append.2 (.inl (List.count_pos_iff.1 (by rw [h1]; exact List.count_pos_iff.2 hy))))
  rw [← pairN_eq (A := A') (B := B') (nodup_uniqL _) e]
  exact pairU_congr h1 h2
theorem pairN_le (A B : List (List UInt8)) : pairN A B ≤ A.length := pairU_le_left (nodup_uniqL _) A B
theorem pairN_nil (B : List (List UInt8)) : pairN [] B = 0 := Nat.le_zero.1 (pairN_le [] B)
theorem pairN_nil' (A : List (List UInt8)) : pairN A [] = 0 := by rw [pairN_symm]; exact pairN_nil A
theorem pairN_self (A : List (List UInt8)) : pairN A A = A.length := by
  induction A with
  | nil => rfl
  | cons x A ih => rw [pairN_both, ih]; rfl
/-- the pieces of q bytes, from the first one on -/
def gramsL (q : Nat) : List UInt8 → List (List UInt8)
  | [] => []
  | x :: a => if q ≤ a.length + 1 then (x :: a).take q :: gramsL q a else []
theorem gramsL_len {q : Nat} (hq : 1 ≤ q) (l : List UInt8) : (gramsL q l).length = l.length + 1 - q := by
  induction l with
  | nil => rw [gramsL]; simp; omega
  | cons x a ih =>
    rw [gramsL]
    by_cases h : q ≤ a.length + 1
    · rw [if_pos h, List.length_cons, ih, List.length_cons]; omega
    · rw [if_neg h]; simp only [List.length_nil, List.length_cons]; omega
theorem gramsL_short {q : Nat} {l : List UInt8} (hq : 1 ≤ q) (h : l.length < q) : gramsL q l = [] := by
  apply List.eq_nil_of_length_eq_zero
  rw [gramsL_len hq]; omega
theorem gramsL_cons_len {q : Nat} (hq : 1 ≤ q) (x : UInt8) (a : List UInt8) : (gramsL q (x :: a)).length ≤ (gramsL q a).length + 1 := by
  rw [gramsL_len hq, gramsL_len hq, List.length_cons]; omega
theorem gramsL_more {q : Nat} (hq : 1 ≤ q) (x : UInt8) (a : List UInt8) (B : List (List UInt8)) : pairN (gramsL q a) B ≤ pairN (gramsL q (x :: a)) B := by
  rw [gramsL]
  by_cases h : q ≤ a.length + 1
  · rw [if_pos h]; exact pairN_more _ _ _
  · rw [gramsL_short hq (by omega), pairN_nil]; exact Nat.zero_le _
theorem gramsL_more' {q : Nat} (hq : 1 ≤ q) (y : UInt8) (b : List UInt8) (A : List (List UInt8)) : pairN A (gramsL q b) ≤ pairN A (gramsL q (y :: b)) := by
  rw [pairN_symm A, pairN_symm A]; exact gramsL_more hq y b A
/-- texts that differ by k: so many pieces are in both; and what the last fault has spoilt so far -/
def Spoilt (q : Nat) (a b : List UInt8) : Prop :=
  (ed a b = 0 → a = b) ∧ (1 ≤ ed a b → ∃ r, r ≤ a.length ∧ r ≤ b.length ∧ a.take r = b.take r ∧ (gramsL q a).length + (q - 1 - r) ≤ pairN (gramsL q a) (gramsL q b) + q * ed a b)
theorem Spoilt.weak {q : Nat} {a b : List UInt8} (h : Spoilt q a b) : (gramsL q a).length ≤ pairN (gramsL q a) (gramsL q b) + q * ed a b := by
  by_cases h0 : ed a b = 0
  · have := h.1 h0
    subst this
    rw [pairN_self]; omega
  · obtain ⟨r, _, _, _, h4⟩ := h.2 (by omega)
    omega
theorem spoilt_of {q : Nat} {a b : List UInt8} {k : Nat} (hk : ed a b = k + 1) (h : (gramsL q a).length + (q - 1) ≤ pairN (gramsL q a) (gramsL q b) + (q * k + q)) : Spoilt q a b := by
  refine ⟨fun h0 => by omega, fun _ => ⟨0, Nat.zero_le _, Nat.zero_le _, by simp, ?_⟩⟩
  rw [hk, Nat.mul_add, Nat.mul_one]
  exact h
theorem spoilt {q : Nat} (hq : 1 ≤ q) : ∀ a b, Spoilt q a b := by
  refine two_lists (fun b => ?_) (fun a => ?_) fun x y a b h1 h2 h3 => ?_
  · cases b with
    | nil => exact ⟨fun _ => rfl, fun h => by rw [ed_nil] at h; simp at h⟩
    | cons y b =>
      refine spoilt_of (k := b.length) (by rw [ed_nil]; rfl) ?_
      rw [gramsL]
      simp only [List.length_nil]; omega
  · cases a with
    | nil => exact ⟨fun _ => rfl, fun h => by rw [ed_nil] at h; simp at h⟩
    | cons x a =>
      refine spoilt_of (k := a.length) (by rw [ed_nil']; rfl) ?_
      rw [gramsL_len hq, List.length_cons]
      have h : a.length ≤ q * a.length := Nat.le_mul_of_pos_left _ hq
      omega
  · rcases ed_cases x y a b with e | e | e
    · by_cases hxy : x = y
      · subst hxy
        rw [df_self, Nat.add_zero] at e
        refine ⟨fun h0 => by rw [h1.1 (by omega)], fun hk => ?_⟩
        obtain ⟨r, r1, r2, r3, r4⟩ := h1.2 (by omega)
        rw [e]
        refine ⟨r + 1, by simp; omega, by simp; omega, by simp [r3], ?_⟩
        by_cases hr : q ≤ r + 1
        · have ht : (x :: a).take q = (x :: b).take q := by
            obtain ⟨q', rfl⟩ : ∃ q', q = q' + 1 := ⟨q - 1, by omega⟩
            rw [List.take_succ_cons, List.take_succ_cons]
            congr 1
            have := congrArg (List.take q') r3
            rw [List.take_take, List.take_take] at this
            rwa [Nat.min_eq_left (by omega)] at this
          have ga : gramsL q (x :: a) = (x :: a).take q :: gramsL q a := by rw [gramsL, if_pos (by omega)]
          have gb : gramsL q (x :: b) = (x :: a).take q :: gramsL q b := by rw [gramsL, if_pos (by omega), ht]
          rw [ga, gb, pairN_both, List.length_cons]
          omega
        · have l1 := gramsL_cons_len hq x a
          have l2 := gramsL_more hq x a (gramsL q b)
          have l3 := gramsL_more' hq x b (gramsL q (x :: a))
          omega
      · rw [df_ne hxy] at e
        have l1 := gramsL_cons_len hq x a
        have l2 := gramsL_more hq x a (gramsL q b)
        have l3 := gramsL_more' hq y b (gramsL q (x :: a))
        have l4 := h1.weak
        exact spoilt_of e (by omega)
    · have l1 := gramsL_cons_len hq x a
      have l2 := gramsL_more hq x a (gramsL q (y :: b))
      have l4 := h2.weak
      exact spoilt_of e (by omega)
    · have l3 := gramsL_more' hq y b (gramsL q (x :: a))
      have l4 := h3.weak
      exact spoilt_of e (by omega)
/-- texts that differ by k have all pieces of the first one in common but q for each fault -/
theorem grams_left {q : Nat} (hq : 1 ≤ q) (a b : List UInt8) : (gramsL q a).length ≤ pairN (gramsL q a) (gramsL q b) + q * ed a b := (spoilt hq a b).weak
theorem grams_right {q : Nat} (hq : 1 ≤ q) (a b : List UInt8) : (gramsL q b).length ≤ pairN (gramsL q a) (gramsL q b) + q * ed a b := by
  rw [pairN_symm, ed_symm]; exact grams_left hq b a
theorem bl_irrefl (a : List UInt8) : ¬ a < a := List.lt_irrefl a
theorem bl_trans {a b c : List UInt8} (h1 : a < b) (h2 : b < c) : a < c := List.lt_trans h1 h2
theorem bl_asymm {a b : List UInt8} (h : a < b) : ¬ b < a := fun h2 => bl_irrefl a (bl_trans h h2)
theorem bl_tri {a b : List UInt8} (h1 : ¬ a < b) (h2 : ¬ b < a) : a = b := List.le_antisymm (List.not_lt.1 h2) (List.not_lt.1 h1)
theorem bl_le_lt {a b c : List UInt8} (h1 : ¬ b < a) (h2 : b < c) : a < c := by
  by_cases h : a < c
  · exact h
  · exfalso
    by_cases h3 : c < a
    · exact h1 (bl_trans h2 h3)
    · exact h1 (bl_tri h h3 ▸ h2)
/-- texts that do not fall -/
def UpL : List (List UInt8) → Prop
  | [] => True
  | x :: l => (∀ y ∈ l, ¬ y < x) ∧ UpL l
/-- one text more, behind all that are not above it -/
def insL (x : List UInt8) : List (List UInt8) → List (List UInt8)
  | [] => [x]
  | y :: l => if x < y then x :: y :: l else y :: insL x l
theorem insL_count (x u : List UInt8) (l : List (List UInt8)) : (insL x l).count u = (x :: l).count u := by
  induction l with
  | nil => rfl
  | cons y l ih =>
    rw [insL]
    by_cases h : x < y
    · rw [if_pos h]
    · rw [if_neg h, List.count_cons, ih, List.count_cons, List.count_cons, List.count_cons]; omega
theorem insL_len (x : List UInt8) (l : List (List UInt8)) : (insL x l).length = l.length + 1 := by
  induction l with
  | nil => rfl
  | cons y l ih =>
    rw [insL]
    by_cases h : x < y
    · rw [if_pos h]; rfl
    · rw [if_neg h, List.length_cons, ih]; rfl
theorem mem_insL {x y : List UInt8} {l : List (List UInt8)} (h : y ∈ insL x l) : y = x ∨ y ∈ l := by
  have h1 := List.count_pos_iff.2 h
  rw [insL_count] at h1
  exact List.mem_cons.1 (List.count_pos_iff.1 h1)
theorem insL_up {x : List UInt8} {l : List (List UInt8)} (h : UpL l) : UpL (insL x l) := by
  induction l with
  | nil => exact ⟨fun _ hy => (by cases hy), trivial⟩
  | cons y l ih =>
    rw [insL]
    by_cases hx : x < y
    · rw [if_pos hx]
      refine ⟨fun z hz => ?_, h⟩
      rcases List.mem_cons.1 hz with e | e
      · rw [e]; exact bl_asymm hx
      · intro hzx; exact h.1 z e (bl_trans hzx hx)
    · rw [if_neg hx]
      refine ⟨fun z hz => ?_, ih h.2⟩
      rcases mem_insL hz with e | e
      · rw [e]; exact hx
      · exact h.1 z e
/-- all texts put in one by one -/
def sortL : List (List UInt8) → List (List UInt8) → List (List UInt8)
  | out, [] => out
  | out, x :: l => sortL (insL x out) l
theorem sortL_up : ∀ (l out : List (List UInt8)), UpL out → UpL (sortL out l)
  | [], _, h => h
  | _ :: l, _, h => sortL_up l _ (insL_up h)
theorem sortL_count (u : List UInt8) : ∀ (l out : List (List UInt8)), (sortL out l).count u = out.count u + l.count u
  | [], out => by rw [sortL]; simp
  | x :: l, out => by rw [sortL, sortL_count u l, insL_count, List.count_cons, List.count_cons]; omega
theorem sortL_len : ∀ (l out : List (List UInt8)), (sortL out l).length = out.length + l.length
  | [], out => by rw [sortL]; simp
  | x :: l, out => by rw [sortL, sortL_len l, insL_len, List.length_cons]; omega
/-- two lists in order, held against each other from the first ones on -/
def comL : List (List UInt8) → List (List UInt8) → Nat
  | [], _ => 0
  | _ :: _, [] => 0
  | x :: A, y :: B => if x < y then comL A (y :: B) else if y < x then comL (x :: A) B else comL A B + 1
termination_by A B => A.length + B.length
theorem comL_nil' (A : List (List UInt8)) : comL A [] = 0 := by cases A <;> rw [comL]
theorem comL_nil (B : List (List UInt8)) : comL [] B = 0 := by rw [comL]
theorem comL_pair : ∀ n A B, A.length + B.length ≤ n → UpL A → UpL B → comL A B = pairN A B := by
  intro n
  induction n with
  | zero =>
    intro A B h _ _
    rw [List.eq_nil_of_length_eq_zero (l := A) (by omega), comL_nil, pairN_nil]
  | succ n ih =>
    intro A B h hA hB
    match A, B, h, hA, hB with
    | [], B, _, _, _ => rw [comL_nil, pairN_nil]
    | x :: A, [], _, _, _ => rw [comL_nil', pairN_nil']
    | x :: A, y :: B, h, hA, hB =>
      simp only [List.length_cons] at h
      rw [comL]
      by_cases h1 : x < y
      · rw [if_pos h1, ih _ _ (by simp only [List.length_cons]; omega) hA.2 hB, pairN_left]
        intro hm
        rcases List.mem_cons.1 hm with e | e
        · subst e; exact bl_irrefl _ h1
        · exact hB.1 x e h1
      · rw [if_neg h1]
        by_cases h2 : y < x
        · rw [if_pos h2, ih _ _ (by simp only [List.length_cons]; omega) hA hB.2, pairN_right]
          intro hm
          rcases List.mem_cons.1 hm with e | e
          · subst e; exact bl_irrefl _ h2
          · exact hA.1 y e h2
        · have e := bl_tri h1 h2
          subst e
          rw [if_neg h2, pairN_both, ih _ _ (by omega) hA.2 hB.2]
end Go.Proofs.Ytpniiaemgobaiaa

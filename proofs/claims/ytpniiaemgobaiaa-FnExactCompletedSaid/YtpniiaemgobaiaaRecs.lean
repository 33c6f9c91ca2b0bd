/-
  Records by end and pattern: putting them in one by one, and sorting them, gives the same list. No program's text: plain lists.
-/
import Derived.Test.YtpniiaemgobaiaaKit
namespace Go.Proofs.Ytpniiaemgobaiaa
set_option linter.unusedVariables false
set_option maxRecDepth 100000
structure Rc where
  p : Int
  e : Int
  d : Int
def ltR (x y : Rc) : Prop := x.e < y.e ∨ x.e = y.e ∧ x.p < y.p
instance (x y : Rc) : Decidable (ltR x y) := by unfold ltR; infer_instance
/-- two records that stand for different places -/
def farR (x y : Rc) : Prop := x.e ≠ y.e ∨ x.p ≠ y.p
theorem ltR_trans {x y z : Rc} (h : ltR x y) (k : ltR y z) : ltR x z := by unfold ltR at *; omega
theorem ltR_irrefl (x : Rc) : ¬ ltR x x := by unfold ltR; omega
theorem ltR_of {x y : Rc} (h : ¬ ltR y x) (k : farR x y) : ltR x y := by unfold ltR farR at *; omega
theorem farR_symm {x y : Rc} (h : farR x y) : farR y x := by unfold farR at *; omega
/-- one more, behind all that are less -/
def addR : List Rc → Rc → List Rc
  | [], x => [x]
  | y :: l, x => if ltR y x then y :: addR l x else x :: y :: l
theorem addR_perm (l : List Rc) (x : Rc) : (addR l x).Perm (x :: l) := by
  induction l with
  | nil => exact List.Perm.refl _
  | cons y l ih =>
    unfold addR
    split
    · exact (ih.cons y).trans (List.Perm.swap x y l)
    · exact List.Perm.refl _
theorem addR_sorted (l : List Rc) (x : Rc) (h : l.Pairwise ltR) (hf : ∀ y ∈ l, farR y x) : (addR l x).Pairwise ltR := by
  induction l with
  | nil => simp [addR]
  | cons y l ih =>
    rw [List.pairwise_cons] at h
    unfold addR
    split
    · next hlt =>
      rw [List.pairwise_cons]
      refine ⟨fun z hz => ?_, ih h.2 fun z hz => hf z (List.mem_cons_of_mem _ hz)⟩
      rcases List.mem_cons.1 ((addR_perm l x).mem_iff.1 hz) with rfl | hz
      · exact hlt
      · exact h.1 z hz
    · next hlt =>
      have hxy : ltR x y := ltR_of hlt (farR_symm (hf y (List.mem_cons_self ..)))
      rw [List.pairwise_cons]
      refine ⟨fun z hz => ?_, List.pairwise_cons.2 h⟩
      rcases List.mem_cons.1 hz with rfl | hz
      · exact hxy
      · exact ltR_trans hxy (h.1 z hz)
/-- put in one by one -/
def addAllR (l : List Rc) : List Rc → List Rc
  | [] => l
  | x :: r => addAllR (addR l x) r
theorem addAllR_perm (r : List Rc) : ∀ l, (addAllR l r).Perm (l ++ r) := by
  induction r with
  | nil => intro l; simp [addAllR]
  | cons x r ih =>
    intro l
    unfold addAllR
    exact (ih _).trans (((addR_perm l x).append_right r).trans (by simpa using (List.perm_middle (a := x) (l₁ := l) (l₂ := r)).symm))
theorem addAllR_sorted (r : List Rc) : ∀ l, l.Pairwise ltR → (l ++ r).Pairwise farR → (addAllR l r).Pairwise ltR := by
  induction r with
  | nil => intro l h _; simpa [addAllR] using h
  | cons x r ih =>
    intro l h hf
    unfold addAllR
    have hf2 := List.pairwise_append.1 hf
    refine ih _ (addR_sorted l x h fun y hy => hf2.2.2 y hy x (List.mem_cons_self ..)) ?_
    have hp : (addR l x ++ r).Perm (l ++ x :: r) := ((addR_perm l x).append_right r).trans (by simpa using (List.perm_middle (a := x) (l₁ := l) (l₂ := r)).symm)
    exact hf.perm hp.symm (fun h => farR_symm h)
theorem sorted_far {l : List Rc} (h : l.Pairwise ltR) : l.Pairwise farR := h.imp fun {a b} h => by unfold ltR at h; unfold farR; omega
theorem addAllR_append (r s : List Rc) : ∀ l, addAllR l (r ++ s) = addAllR (addAllR l r) s := by
  induction r with
  | nil => intro l; rfl
  | cons x r ih => intro l; simp only [List.cons_append, addAllR]; exact ih _
/-- two sorted lists of the same records are one -/
theorem sorted_uniq : ∀ (a b : List Rc), a.Perm b → a.Pairwise ltR → b.Pairwise ltR → a = b := by
  intro a
  induction a with
  | nil => intro b hp _ _; exact hp.nil_eq
  | cons x a ih =>
    intro b hp ha hb
    cases b with
    | nil => exact absurd hp.symm (by intro h; have := h.length_eq; simp at this)
    | cons y b =>
      rw [List.pairwise_cons] at ha hb
      have hxy : x = y := by
        have hx : x ∈ y :: b := hp.mem_iff.1 (List.mem_cons_self ..)
        have hy : y ∈ x :: a := hp.mem_iff.2 (List.mem_cons_self ..)
        rcases List.mem_cons.1 hx with h | h
        · exact h
        · rcases List.mem_cons.1 hy with h2 | h2
          · exact h2.symm
          · exact absurd (ltR_trans (ha.1 y h2) (hb.1 x h)) (ltR_irrefl x)
      subst hxy
      rw [ih b (List.Perm.cons_inv hp) ha.2 hb.2]
/-- what a sort gives of records that stand for different places is what putting them in one by one gives -/
theorem sort_is_add (l s : List Rc) (hf : l.Pairwise farR) (hp : s.Perm l) (hs : s.Pairwise fun x y => ¬ ltR y x) : s = addAllR [] l := by
  have hsf : s.Pairwise farR := hf.perm hp.symm (fun h => farR_symm h)
  have hss : s.Pairwise ltR := hs.imp₂ (fun a b h k => ltR_of h k) hsf
  exact sorted_uniq _ _ (hp.trans (by simpa using (addAllR_perm l []).symm)) hss (addAllR_sorted l [] List.Pairwise.nil (by simpa using hf))
end Go.Proofs.Ytpniiaemgobaiaa

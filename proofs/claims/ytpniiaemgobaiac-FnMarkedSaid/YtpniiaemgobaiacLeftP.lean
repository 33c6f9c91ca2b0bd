/-
  Chapter 17: what is chosen leftmost (plain): a stable sort and one pass choose what the model chooses again and again.
-/
import Derived.Sort.Defs
import Derived.Test.YtpniiaemgobaiacRows
namespace Go.Proofs.Ytpniiaemgobaiac
set_option linter.unusedVariables false
set_option maxRecDepth 100000
section ins
variable {α : Type} (lt : α → α → Bool)
/-- put in from behind: past all that it is less than -/
def insRev (x : α) : List α → List α
  | [] => [x]
  | y :: ys => if lt x y then y :: insRev x ys else x :: y :: ys
def sortRev (l : List α) : List α := l.foldl (fun S x => insRev lt x S) []
/-- the last one that stands (the list is turned round) with p -/
def lastP (p : α → Bool) : List α → Option α
  | [] => none
  | y :: ys => match lastP p ys with
    | some z => some z
    | none => if p y then some y else none
def aheadB (x : α) : Option α → Bool
  | none => true
  | some b => lt x b
structure OrdL : Prop where
  irr : ∀ x, lt x x = false
  tr : ∀ x y z, lt x y = true → lt y z = true → lt x z = true
  neg : ∀ x y z, lt x y = false → lt y z = false → lt x z = false
def DownL (B : List α) : Prop := B.Pairwise (fun a b => lt a b = false)
theorem insRev_down (h : OrdL lt) (x : α) : ∀ B, DownL lt B → DownL lt (insRev lt x B)
  | [], _ => List.pairwise_singleton _ _
  | y :: ys, hB => by
    obtain ⟨h1, h2⟩ := List.pairwise_cons.1 hB
    rw [insRev]
    split
    · rename_i hx
      have ih := insRev_down h x ys h2
      refine List.pairwise_cons.2 ⟨fun b hb => ?_, ih⟩
      have hm : ∀ C, b ∈ insRev lt x C → b = x ∨ b ∈ C := by
        intro C
        induction C with
        | nil => intro hb; rw [insRev, List.mem_singleton] at hb; exact .inl hb
        | cons c C ihC =>
          intro hb
          rw [insRev] at hb
          split at hb
          · rcases List.mem_cons.1 hb with e | e
            · exact .inr (e ▸ List.mem_cons_self)
            · rcases ihC e with e | e
              · exact .inl e
              · exact .inr (List.mem_cons_of_mem _ e)
          · rcases List.mem_cons.1 hb with e | e
            · exact .inl e
            · exact .inr e
      rcases hm ys hb with e | e
      · subst e
        cases hyb : lt y b with
        | false => rfl
        | true => have := h.tr _ _ _ hx hyb; rw [h.irr] at this; cases this
      · exact h1 b e
    · rename_i hx
      have hx2 : lt x y = false := by cases e : lt x y; rfl; exact absurd e hx
      refine List.pairwise_cons.2 ⟨fun b hb => ?_, hB⟩
      rcases List.mem_cons.1 hb with e | e
      · rw [e]; exact hx2
      · exact h.neg _ _ _ hx2 (h1 b e)
theorem lastP_mem {p : α → Bool} {b : α} : ∀ {B : List α}, lastP p B = some b → b ∈ B ∧ p b = true
  | y :: ys, h => by
    rw [lastP] at h
    cases e : lastP p ys with
    | some z => rw [e] at h; injection h with h; subst h; have := lastP_mem e; exact ⟨List.mem_cons_of_mem _ this.1, this.2⟩
    | none =>
      rw [e] at h
      by_cases hp : p y
      · rw [show (match (none : Option α) with | some z => some z | none => if p y = true then some y else none) = some y from if_pos hp] at h
        injection h with h; subst h; exact ⟨List.mem_cons_self, hp⟩
      · rw [show (match (none : Option α) with | some z => some z | none => if p y = true then some y else none) = none from if_neg hp] at h
        cases h
theorem lastP_ins (h : OrdL lt) (p : α → Bool) (x : α) : ∀ B, DownL lt B → lastP p (insRev lt x B) = if p x && aheadB lt x (lastP p B) then some x else lastP p B
  | [], _ => by cases hp : p x <;> simp [insRev, lastP, aheadB, hp]
  | y :: ys, hB => by
    obtain ⟨h1, h2⟩ := List.pairwise_cons.1 hB
    have ih := lastP_ins h p x ys h2
    rw [insRev]
    split
    · rename_i hx
      rw [lastP, ih, lastP]
      cases e : lastP p ys with
      | none =>
        cases hp : p x <;> simp [aheadB]
        cases hy : p y <;> simp [hx]
      | some b =>
        cases hp : p x <;> simp [aheadB]
        cases hb : lt x b <;> simp
    · rename_i hx
      have hx2 : lt x y = false := by cases e : lt x y; rfl; exact absurd e hx
      rw [lastP]
      cases e : lastP p (y :: ys) with
      | none => simp [aheadB]
      | some b =>
        have hm := (lastP_mem e).1
        have hxb : lt x b = false := by
          rcases List.mem_cons.1 hm with e | e
          · rw [e]; exact hx2
          · exact h.neg _ _ _ hx2 (h1 b e)
        simp [aheadB, hxb]
/-- the best one of those with p: the first of the least -/
def bestP (p : α → Bool) (l : List α) : Option α := l.foldl (fun b x => if p x && aheadB lt x b then some x else b) none
theorem sortRev_snoc (l : List α) (x : α) : sortRev lt (l ++ [x]) = insRev lt x (sortRev lt l) := by simp [sortRev]
theorem bestP_snoc (p : α → Bool) (l : List α) (x : α) : bestP lt p (l ++ [x]) = if p x && aheadB lt x (bestP lt p l) then some x else bestP lt p l := by simp [bestP]
theorem snoc_induction {Q : List α → Prop} (h0 : Q []) (h1 : ∀ l x, Q l → Q (l ++ [x])) (l : List α) : Q l := by
  have : ∀ r : List α, Q r.reverse := by
    intro r
    induction r with
    | nil => exact h0
    | cons x r ih => rw [List.reverse_cons]; exact h1 _ _ ih
  have h := this l.reverse
  rwa [List.reverse_reverse] at h
theorem sortRev_down (h : OrdL lt) (l : List α) : DownL lt (sortRev lt l) :=
  snoc_induction (Q := fun l => DownL lt (sortRev lt l)) List.Pairwise.nil (fun l x ih => by rw [sortRev_snoc]; exact insRev_down lt h x _ ih) l
theorem last_best (h : OrdL lt) (p : α → Bool) (l : List α) : lastP p (sortRev lt l) = bestP lt p l :=
  snoc_induction (Q := fun l => lastP p (sortRev lt l) = bestP lt p l) rfl (fun l x ih => by rw [sortRev_snoc, bestP_snoc, lastP_ins lt h p x _ (sortRev_down lt h l), ih]) l
theorem insRev_perm (x : α) : ∀ B : List α, (insRev lt x B).Perm (x :: B)
  | [] => List.Perm.refl _
  | y :: ys => by
    rw [insRev]
    split
    · exact ((insRev_perm x ys).cons y).trans (List.Perm.swap x y ys)
    · exact List.Perm.refl _
theorem sortRev_perm (l : List α) : (sortRev lt l).Perm l :=
  snoc_induction (Q := fun l => (sortRev lt l).Perm l) (List.Perm.refl _) (fun l x ih => by
    rw [sortRev_snoc]
    exact (insRev_perm lt x _).trans ((ih.cons x).trans (List.perm_append_singleton x l).symm)) l
/-- what is in order already stays -/
theorem sortRev_same (l : List α) (h : l.Pairwise (fun a b => lt b a = false)) : sortRev lt l = l.reverse := by
  revert h
  refine snoc_induction (Q := fun l => l.Pairwise (fun a b => lt b a = false) → sortRev lt l = l.reverse) (fun _ => rfl) (fun l x ih hp => ?_) l
  rw [List.pairwise_append] at hp
  rw [sortRev_snoc, ih hp.1, List.reverse_append]
  show insRev lt x l.reverse = x :: l.reverse
  cases e : l.reverse with
  | nil => rfl
  | cons y ys =>
    have hy : y ∈ l := by have : y ∈ l.reverse := by rw [e]; exact List.mem_cons_self
                          exact List.mem_reverse.1 this
    have := hp.2.2 y hy x (List.mem_singleton.2 rfl)
    rw [insRev, this]; rfl
theorem find_last (p : α → Bool) : ∀ B : List α, B.reverse.find? p = lastP p B
  | [] => rfl
  | y :: ys => by
    rw [List.reverse_cons, List.find?_append, find_last p ys, lastP]
    cases lastP p ys with
    | some z => rfl
    | none => cases hp : p y <;> simp [List.find?, hp]
end ins
section arr
variable {α : Type} [Inhabited α] (lt : α → α → Bool)
theorem arr_split {d : Array α} {A R : List α} {x : α} (h : d.toList = A ++ x :: R) : d[A.length]! = x := by
  have hl : A.length < d.size := by have := congrArg List.length h; simp at this; omega
  rw [getElem!_pos d A.length hl, ← Array.getElem_toList]
  simp [h]
theorem swp_split {d : Array α} {A R : List α} {y x : α} (h : d.toList = A ++ y :: x :: R) : (Go.Sort.swp d (A.length + 1) A.length).toList = A ++ x :: y :: R := by
  have h1 : d[A.length]! = y := arr_split h
  have h2 : d[A.length + 1]! = x := by
    have := arr_split (A := A ++ [y]) (R := R) (x := x) (d := d) (by rw [h]; simp)
    simpa using this
  unfold Go.Sort.swp
  rw [h1, h2, Array.toList_setIfInBounds, Array.toList_setIfInBounds, h]
  simp
theorem insInner_list (x : α) : ∀ (B R : List α) (d : Array α), d.toList = B.reverse ++ x :: R → (Go.Sort.insInner lt 0 B.length d).toList = (insRev lt x B).reverse ++ R
  | [], R, d, h => by rw [List.length_nil, Go.Sort.insInner]; simpa [insRev] using h
  | y :: ys, R, d, h => by
    rw [List.reverse_cons, List.append_assoc] at h
    have h' : d.toList = ys.reverse ++ y :: x :: R := by simpa using h
    have e1 : d[ys.length]! = y := by have := arr_split h'; rwa [List.length_reverse] at this
    have e2 : d[ys.length + 1]! = x := by
      have := arr_split (A := ys.reverse ++ [y]) (R := R) (x := x) (d := d) (by rw [h']; simp)
      simpa using this
    rw [List.length_cons, Go.Sort.insInner, e1, e2, insRev]
    cases hl : lt x y with
    | false => simp; simpa using h'
    | true =>
      have hs := swp_split h'
      rw [List.length_reverse] at hs
      have ih := insInner_list x ys (y :: R) _ hs
      simp [ih]
theorem insOuter_list (l : List α) : ∀ (n i : Nat) (d : Array α), i + n = l.length → d.toList = (sortRev lt (l.take i)).reverse ++ l.drop i → (Go.Sort.insOuter lt 0 l.length i d).toList = (sortRev lt l).reverse
  | 0, i, d, hn, h => by
    rw [Go.Sort.insOuter, if_neg (by omega), h, List.take_of_length_le (by omega), List.drop_eq_nil_of_le (by omega), List.append_nil]
  | n + 1, i, d, hn, h => by
    have hi : i < l.length := by omega
    rw [Go.Sort.insOuter, if_pos hi]
    rw [List.drop_eq_getElem_cons hi] at h
    have hl : (sortRev lt (l.take i)).length = i := by rw [(sortRev_perm lt _).length_eq, List.length_take]; omega
    have h2 := insInner_list lt l[i] _ _ d h
    rw [hl] at h2
    refine insOuter_list l n (i + 1) _ (by omega) ?_
    rw [h2, List.take_succ_eq_append_getElem hi, sortRev_snoc]
theorem insSort_list (d : Array α) : (Go.Sort.insertionSort lt d 0 d.size).toList = (sortRev lt d.toList).reverse := by
  unfold Go.Sort.insertionSort
  cases hl : d.toList with
  | nil =>
    have h0 : d.size = 0 := by have := congrArg List.length hl; simpa using this
    rw [Go.Sort.insOuter, if_neg (by omega), hl]; rfl
  | cons x xs =>
    have hs : d.size = (x :: xs).length := by rw [← hl]; simp
    rw [hs]
    exact insOuter_list lt (x :: xs) xs.length (0 + 1) d (by simp; omega) (by rw [hl]; rfl)
end arr
structure Fd where
  f : Int
  t : Int
  w : Int
instance : Inhabited Fd := ⟨⟨0, 0, 0⟩⟩
def ltF (x y : Fd) : Bool := decide (x.f < y.f ∨ (x.f = y.f ∧ y.t < x.t))
theorem ltF_yes {x y : Fd} : ltF x y = true ↔ x.f < y.f ∨ (x.f = y.f ∧ y.t < x.t) := decide_eq_true_iff
theorem ltF_no {x y : Fd} : ltF x y = false ↔ ¬ (x.f < y.f ∨ (x.f = y.f ∧ y.t < x.t)) := decide_eq_false_iff_not
theorem ordF : OrdL ltF := ⟨fun x => by rw [ltF_no]; omega, fun x y z => by rw [ltF_yes, ltF_yes, ltF_yes]; omega, fun x y z => by rw [ltF_no, ltF_no, ltF_no]; omega⟩
/-- what is chosen of a list in order, from a place on -/
def passF : List Fd → Int → List Fd
  | [], _ => []
  | x :: xs, e => if e ≤ x.f then x :: passF xs x.t else passF xs e
def fromP (e : Int) (x : Fd) : Bool := decide (e ≤ x.f)
theorem passF_find : ∀ (S : List Fd), S.Pairwise (fun a b => ltF b a = false) → (∀ x ∈ S, x.f < x.t) → ∀ e, passF S e = match S.find? (fromP e) with
    | none => []
    | some b => b :: passF S b.t
  | [], _, _, e => rfl
  | x :: xs, hS, ht, e => by
    obtain ⟨h1, h2⟩ := List.pairwise_cons.1 hS
    have hx := ht x List.mem_cons_self
    by_cases he : e ≤ x.f
    · have hp : fromP e x = true := decide_eq_true he
      rw [List.find?_cons, hp]
      show (if e ≤ x.f then x :: passF xs x.t else passF xs e) = x :: (if x.t ≤ x.f then x :: passF xs x.t else passF xs x.t)
      rw [if_pos he, if_neg (by omega)]
    · have hp : fromP e x = false := decide_eq_false he
      rw [List.find?_cons, hp, passF, if_neg he, passF_find xs h2 (fun y hy => ht y (List.mem_cons_of_mem _ hy)) e]
      cases hf : xs.find? (fromP e) with
      | none => rfl
      | some b =>
        have hb := List.mem_of_find?_eq_some hf
        have hbt := ht b (List.mem_cons_of_mem _ hb)
        have hxb := ltF_no.1 (h1 b hb)
        show b :: passF xs b.t = b :: (if b.t ≤ x.f then x :: passF xs x.t else passF xs b.t)
        rw [if_neg (by omega)]
def orderF (l : List Fd) : List Fd := (sortRev ltF l).reverse
theorem orderF_up (l : List Fd) : (orderF l).Pairwise (fun a b => ltF b a = false) := List.pairwise_reverse.2 (sortRev_down ltF ordF l)
theorem orderF_perm (l : List Fd) : (orderF l).Perm l := (List.reverse_perm _).trans (sortRev_perm ltF l)
def leftF (l : List Fd) : List Fd := passF (orderF l) 0
/-- the model's way: what is chosen from a place on -/
theorem left_step (l : List Fd) (ht : ∀ x ∈ l, x.f < x.t) (e : Int) : passF (orderF l) e = match bestP ltF (fromP e) l with
    | none => []
    | some b => b :: passF (orderF l) b.t := by
  rw [passF_find _ (orderF_up l) (fun x hx => ht x ((orderF_perm l).mem_iff.1 hx)) e]
  unfold orderF
  rw [find_last, last_best ltF ordF]
theorem passF_mem : ∀ (S : List Fd) (e : Int) (x : Fd), x ∈ passF S e → x ∈ S ∧ e ≤ x.f ∨ x ∈ S
  | [], _, _, h => by cases h
  | y :: ys, e, x, h => by
    rw [passF] at h
    split at h
    · rcases List.mem_cons.1 h with e2 | e2
      · exact .inr (e2 ▸ List.mem_cons_self)
      · rcases passF_mem ys _ x e2 with h | h
        · exact .inr (List.mem_cons_of_mem _ h.1)
        · exact .inr (List.mem_cons_of_mem _ h)
    · rcases passF_mem ys _ x h with h | h
      · exact .inr (List.mem_cons_of_mem _ h.1)
      · exact .inr (List.mem_cons_of_mem _ h)
theorem passF_sub (S : List Fd) (e : Int) {x : Fd} (h : x ∈ passF S e) : x ∈ S := by rcases passF_mem S e x h with h | h; exact h.1; exact h
/-- each begins behind the one ahead, and the first behind e -/
def ApartF : Int → List Fd → Prop
  | _, [] => True
  | e, x :: xs => e ≤ x.f ∧ ApartF x.t xs
theorem passF_apart : ∀ (S : List Fd) (e : Int), ApartF e (passF S e)
  | [], _ => trivial
  | x :: xs, e => by
    rw [passF]
    split
    · exact ⟨by assumption, passF_apart xs _⟩
    · exact passF_apart xs e
theorem passF_len : ∀ (S : List Fd) (e : Int), (passF S e).length ≤ S.length
  | [], _ => Nat.le_refl _
  | x :: xs, e => by
    rw [passF]
    split
    · have := passF_len xs x.t; simp; omega
    · have := passF_len xs e; simp; omega
theorem leftF_len (l : List Fd) : (leftF l).length ≤ l.length := by
  have := passF_len (orderF l) 0
  rw [(orderF_perm l).length_eq] at this
  exact this
/-- each one is met by one that is chosen -/
theorem passF_met : ∀ (S : List Fd) (e : Int) (x : Fd), (∀ x ∈ S, x.f < x.t) → S.Pairwise (fun a b => ltF b a = false) → x ∈ S → e ≤ x.f → ∃ c ∈ passF S e, c.f ≤ x.f ∧ x.f < c.t
  | y :: ys, e, x, ht, hS, hx, he => by
    obtain ⟨h1, h2⟩ := List.pairwise_cons.1 hS
    have hy := ht y List.mem_cons_self
    have hyx : y.f ≤ x.f := by
      rcases List.mem_cons.1 hx with e2 | e2
      · rw [e2]; exact Int.le_refl _
      · have := ltF_no.1 (h1 x e2); omega
    rw [passF]
    split
    · by_cases hc : x.f < y.t
      · exact ⟨y, List.mem_cons_self, hyx, hc⟩
      · have hxs : x ∈ ys := by
          rcases List.mem_cons.1 hx with e2 | e2
          · subst e2; omega
          · exact e2
        obtain ⟨c, hc1, hc2⟩ := passF_met ys y.t x (fun z hz => ht z (List.mem_cons_of_mem _ hz)) h2 hxs (by omega)
        exact ⟨c, List.mem_cons_of_mem _ hc1, hc2⟩
    · have hxs : x ∈ ys := by
        rcases List.mem_cons.1 hx with e2 | e2
        · subst e2; omega
        · exact e2
      exact passF_met ys e x (fun z hz => ht z (List.mem_cons_of_mem _ hz)) h2 hxs he
theorem apart_ge : ∀ (m : List Fd) (e : Int), ApartF e m → (∀ x ∈ m, x.f < x.t) → ∀ x ∈ m, e ≤ x.f
  | y :: ys, e, h, ht, x, hx => by
    rcases List.mem_cons.1 hx with e2 | e2
    · rw [e2]; exact h.1
    · have := apart_ge ys y.t h.2 (fun z hz => ht z (List.mem_cons_of_mem _ hz)) x e2
      have := ht y List.mem_cons_self
      have := h.1
      omega
theorem apart_up : ∀ (m : List Fd) (e : Int), ApartF e m → (∀ x ∈ m, x.f < x.t) → m.Pairwise (fun a b => ltF b a = false)
  | [], _, _, _ => List.Pairwise.nil
  | y :: ys, e, h, ht => by
    refine List.pairwise_cons.2 ⟨fun b hb => ?_, apart_up ys y.t h.2 fun z hz => ht z (List.mem_cons_of_mem _ hz)⟩
    have := apart_ge ys y.t h.2 (fun z hz => ht z (List.mem_cons_of_mem _ hz)) b hb
    have := ht y List.mem_cons_self
    rw [ltF_no]; omega
theorem passF_same : ∀ (m : List Fd) (e : Int), ApartF e m → passF m e = m
  | [], _, _ => rfl
  | y :: ys, e, h => by rw [passF, if_pos h.1, passF_same ys y.t h.2]
theorem leftF_again (l : List Fd) (ht : ∀ x ∈ l, x.f < x.t) : leftF (leftF l) = leftF l := by
  have ha : ApartF 0 (leftF l) := passF_apart _ _
  have hm : ∀ x ∈ leftF l, x.f < x.t := fun x hx => ht x ((orderF_perm l).mem_iff.1 (passF_sub _ _ hx))
  have ho : orderF (leftF l) = leftF l := by
    show (sortRev ltF (leftF l)).reverse = _
    rw [sortRev_same ltF _ (apart_up _ 0 ha hm), List.reverse_reverse]
  show passF (orderF (leftF l)) 0 = leftF l
  rw [ho]; exact passF_same _ _ ha
end Go.Proofs.Ytpniiaemgobaiac

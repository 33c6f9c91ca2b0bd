/-
  Plain facts: by how much lists of bytes differ: its own laws (the one as the other, by way of a third, turned round, piece by piece), and that the columns reckon it.
-/
import Derived.Test.YtpniiaemgobaiaaColsIt
namespace Go.Proofs.Ytpniiaemgobaiaa
open Go.RowKit
set_option linter.unusedVariables false
set_option maxRecDepth 100000
/-- are two bytes unlike? -/
def df (x y : UInt8) : Nat := if x = y then 0 else 1
theorem df_self (x : UInt8) : df x x = 0 := if_pos rfl
theorem df_le (x y : UInt8) : df x y ≤ 1 := by unfold df; split <;> omega
theorem df_ne {x y : UInt8} (h : ¬ x = y) : df x y = 1 := if_neg h
theorem df_symm (x y : UInt8) : df x y = df y x := by
  by_cases h : x = y
  · subst h; rfl
  · rw [df_ne h, df_ne fun e => h e.symm]
theorem df_tri (x z y : UInt8) : df x y ≤ df x z + df z y := by
  by_cases h : x = z
  · subst h; omega
  · have := df_le x y; rw [df_ne h]; omega
/-- by how much two lists differ -/
def ed : List UInt8 → List UInt8 → Nat
  | [], b => b.length
  | x :: a, [] => a.length + 1
  | x :: a, y :: b => min (ed a b + df x y) (min (ed a (y :: b) + 1) (ed (x :: a) b + 1))
termination_by a b => a.length + b.length
theorem ed_nil (b : List UInt8) : ed [] b = b.length := by rw [ed]
theorem ed_nil' (a : List UInt8) : ed a [] = a.length := by
  cases a with
  | nil => rw [ed]
  | cons x a => rw [ed]; rfl
theorem ed_cons (x y : UInt8) (a b : List UInt8) : ed (x :: a) (y :: b) = min (ed a b + df x y) (min (ed a (y :: b) + 1) (ed (x :: a) b + 1)) := by rw [ed]
theorem ed_put (y : UInt8) (a b : List UInt8) : ed a (y :: b) ≤ ed a b + 1 := by
  cases a with
  | nil => rw [ed_nil, ed_nil]; simp
  | cons x a => rw [ed_cons]; omega
theorem ed_drop (x : UInt8) (a b : List UInt8) : ed (x :: a) b ≤ ed a b + 1 := by
  cases b with
  | nil => rw [ed_nil', ed_nil']; simp
  | cons y b => rw [ed_cons]; omega
theorem ed_both (x y : UInt8) (a b : List UInt8) : ed (x :: a) (y :: b) ≤ ed a b + df x y := by rw [ed_cons]; omega
theorem ed_cases (x y : UInt8) (a b : List UInt8) : ed (x :: a) (y :: b) = ed a b + df x y ∨ ed (x :: a) (y :: b) = ed a (y :: b) + 1 ∨ ed (x :: a) (y :: b) = ed (x :: a) b + 1 := by
  rw [ed_cons]; omega
/-- a way of proving something of two lists -/
theorem two_lists {M : List UInt8 → List UInt8 → Prop} (h0 : ∀ b, M [] b) (h1 : ∀ a, M a []) (h2 : ∀ x y a b, M a b → M a (y :: b) → M (x :: a) b → M (x :: a) (y :: b)) : ∀ a b, M a b := by
  have key : ∀ n a b, a.length + b.length ≤ n → M a b := by
    intro n
    induction n with
    | zero => intro a b h; cases a with
      | nil => exact h0 b
      | cons x a => simp at h
    | succ n ih =>
      intro a b h
      cases a with
      | nil => exact h0 b
      | cons x a => cases b with
        | nil => exact h1 _
        | cons y b =>
          simp only [List.length_cons] at h
          exact h2 x y a b (ih _ _ (by omega)) (ih _ _ (by simp only [List.length_cons]; omega)) (ih _ _ (by simp only [List.length_cons]; omega))
  intro a b
  exact key _ a b (Nat.le_refl _)
theorem ed_symm : ∀ a b, ed a b = ed b a := by
  refine two_lists (fun b => by rw [ed_nil, ed_nil']) (fun a => by rw [ed_nil, ed_nil']) fun x y a b h1 h2 h3 => ?_
  rw [ed_cons, ed_cons, h1, h2, h3, df_symm x y]; omega
theorem ed_len : ∀ a b, a.length ≤ b.length + ed a b ∧ b.length ≤ a.length + ed a b ∧ ed a b ≤ max a.length b.length := by
  refine two_lists (fun b => by rw [ed_nil]; simp) (fun a => by rw [ed_nil']; simp) fun x y a b h1 h2 h3 => ?_
  have := ed_cases x y a b
  have q := ed_both x y a b
  simp only [List.length_cons] at *
  have d := df_le x y
  omega
theorem ed_self : ∀ a, ed a a = 0 := by
  intro a
  induction a with
  | nil => rw [ed_nil]; rfl
  | cons x a ih => have := ed_both x x a a; rw [df_self] at this; omega
theorem ed_zero : ∀ a b, ed a b = 0 → a = b := by
  refine two_lists (fun b h => by rw [ed_nil] at h; exact (List.eq_nil_of_length_eq_zero h).symm) (fun a h => by rw [ed_nil'] at h; exact List.eq_nil_of_length_eq_zero h) fun x y a b h1 _ _ h => ?_
  rcases ed_cases x y a b with e | e | e
  · by_cases hxy : x = y
    · subst hxy; rw [h1 (by omega)]
    · rw [df_ne hxy] at e; omega
  · omega
  · omega
theorem ed_tri_all : ∀ n a c b, a.length + c.length + b.length ≤ n → ed a b ≤ ed a c + ed c b := by
  intro n
  induction n with
  | zero =>
    intro a c b h
    have ha : a = [] := List.eq_nil_of_length_eq_zero (by omega)
    have hb : b = [] := List.eq_nil_of_length_eq_zero (by omega)
    subst ha hb; rw [ed_nil]; simp
  | succ n ih =>
    intro a c b h
    match a, c, b, h with
    | [], c, b, h => have := ed_len c b; rw [ed_nil, ed_nil]; omega
    | x :: a, c, [], h => have := ed_len (x :: a) c; rw [ed_nil', ed_nil']; omega
    | x :: a, [], y :: b, h => have := ed_len (x :: a) (y :: b); rw [ed_nil', ed_nil]; omega
    | x :: a, z :: c, y :: b, h =>
      simp only [List.length_cons] at h
      rcases ed_cases x z a c with e | e | e
      · rcases ed_cases z y c b with f | f | f
        · have i := ih a c b (by omega)
          have j := ed_both x y a b
          have t := df_tri x z y
          omega
        · have i := ih a c (y :: b) (by simp only [List.length_cons]; omega)
          have j := ed_drop x a (y :: b)
          omega
        · have i := ih (x :: a) (z :: c) b (by simp only [List.length_cons]; omega)
          have j := ed_put y (x :: a) b
          omega
      · have i := ih a (z :: c) (y :: b) (by simp only [List.length_cons]; omega)
        have j := ed_drop x a (y :: b)
        omega
      · rcases ed_cases z y c b with f | f | f
        · have i := ih (x :: a) c b (by simp only [List.length_cons]; omega)
          have j := ed_put y (x :: a) b
          omega
        · have i := ih (x :: a) c (y :: b) (by simp only [List.length_cons]; omega)
          omega
        · have i := ih (x :: a) (z :: c) b (by simp only [List.length_cons]; omega)
          have j := ed_put y (x :: a) b
          omega
theorem ed_tri (a c b : List UInt8) : ed a b ≤ ed a c + ed c b := ed_tri_all _ a c b (Nat.le_refl _)
theorem ed_prepend (c d : List UInt8) : ∀ a b, ed (a ++ c) (b ++ d) ≤ ed a b + ed c d := by
  refine two_lists (fun b => ?_) (fun a => ?_) fun x y a b h1 h2 h3 => ?_
  · rw [ed_nil]
    induction b with
    | nil => simp
    | cons y b ih => have := ed_put y ([] ++ c) (b ++ d); simp only [List.cons_append, List.length_cons, List.nil_append] at *; omega
  · rw [ed_nil']
    induction a with
    | nil => simp
    | cons x a ih => have := ed_drop x (a ++ c) ([] ++ d); simp only [List.cons_append, List.length_cons, List.nil_append] at *; omega
  · simp only [List.cons_append] at *
    have p1 := ed_put y (x :: (a ++ c)) (b ++ d)
    have p2 := ed_drop x (a ++ c) (y :: (b ++ d))
    have p3 := ed_both x y (a ++ c) (b ++ d)
    rcases ed_cases x y a b with e | e | e
    · omega
    · omega
    · omega
theorem ed_rev_le : ∀ a b, ed a.reverse b.reverse ≤ ed a b := by
  refine two_lists (fun b => by simp [ed_nil]) (fun a => by simp [ed_nil']) fun x y a b h1 h2 h3 => ?_
  simp only [List.reverse_cons] at *
  rcases ed_cases x y a b with e | e | e
  · have := ed_prepend [x] [y] a.reverse b.reverse
    have q : ed [x] [y] ≤ df x y := by have := ed_both x y [] []; rw [ed_nil] at this; simpa using this
    omega
  · have := ed_prepend [x] [] a.reverse (b.reverse ++ [y])
    rw [ed_nil', List.append_nil] at this
    simp only [List.length_cons, List.length_nil] at this
    omega
  · have := ed_prepend [] [y] (a.reverse ++ [x]) b.reverse
    rw [ed_nil, List.append_nil] at this
    simp only [List.length_cons, List.length_nil] at this
    omega
theorem ed_rev (a b : List UInt8) : ed a.reverse b.reverse = ed a b := by
  have h1 := ed_rev_le a b
  have h2 := ed_rev_le a.reverse b.reverse
  rw [List.reverse_reverse, List.reverse_reverse] at h2
  omega
theorem ed_same_head (x : UInt8) (a b : List UInt8) : ed (x :: a) (x :: b) = ed a b := by
  have h1 := ed_both x x a b
  rw [df_self] at h1
  have h2 := ed_put x b b
  have h3 := ed_drop x a a
  have h4 := ed_self b
  have h5 := ed_self a
  have h6 := ed_tri a (x :: b) b
  have h7 := ed_tri a (x :: a) b
  have h8 := ed_drop x b b
  have h9 := ed_put x a a
  have := ed_cons x x a b
  rw [df_self] at this
  omega
theorem ed_snoc (x y : UInt8) (a b : List UInt8) : ed (a ++ [x]) (b ++ [y]) = min (ed a b + df x y) (min (ed a (b ++ [y]) + 1) (ed (a ++ [x]) b + 1)) := by
  have h := ed_cons x y a.reverse b.reverse
  have e1 : x :: a.reverse = (a ++ [x]).reverse := by simp
  have e2 : y :: b.reverse = (b ++ [y]).reverse := by simp
  rw [e1, e2] at h
  rw [ed_rev, ed_rev, ed_rev, ed_rev] at h
  exact h
theorem ed_same_last (x : UInt8) (a b : List UInt8) : ed (a ++ [x]) (b ++ [x]) = ed a b := by
  have h := ed_same_head x a.reverse b.reverse
  have e1 : x :: a.reverse = (a ++ [x]).reverse := by simp
  have e2 : x :: b.reverse = (b ++ [x]).reverse := by simp
  rw [e1, e2, ed_rev, ed_rev] at h
  exact h

theorem ed_drop_last (x : UInt8) (a b : List UInt8) : ed (a ++ [x]) b ≤ ed a b + 1 := by
  have h := ed_drop x a.reverse b.reverse
  rw [show x :: a.reverse = (a ++ [x]).reverse by simp, ed_rev, ed_rev] at h
  exact h
theorem ed_put_last (y : UInt8) (a b : List UInt8) : ed a (b ++ [y]) ≤ ed a b + 1 := by
  rw [ed_symm a, ed_symm a]; exact ed_drop_last y b a
theorem ed_both_last (x y : UInt8) (a b : List UInt8) : ed (a ++ [x]) (b ++ [y]) ≤ ed a b + df x y := by rw [ed_snoc]; omega
/-- the bytes of a text -/
def bl (s : ByteArray) : List UInt8 := s.data.toList
theorem bl_len (s : ByteArray) : (bl s).length = s.size := by show s.data.toList.length = s.data.size; simp
theorem bl_take (s : ByteArray) (i : Nat) (h : i < s.size) : (bl s).take (i + 1) = (bl s).take i ++ [byteAt s i] := by
  have h2 : i < (bl s).length := by rw [bl_len]; exact h
  rw [List.take_succ_eq_append_getElem h2]
  unfold byteAt
  rw [List.getD_eq_getElem?_getD, List.getElem?_eq_getElem (show i < s.data.toList.length from h2)]; rfl
theorem eqP_df (s : ByteArray) (b : UInt8) (i : Nat) (C : Int) : (if eqP s (b.toNat : Int) i then C else C + 1) = C + (df (byteAt s i) b : Nat) := by
  unfold eqP df
  by_cases h : byteAt s i = b
  · rw [h]; simp
  · have h2 : ¬ ((byteAt s i).toNat : Int) = (b.toNat : Int) := fun e => h (UInt8.toNat_inj.1 (by omega))
    simp [h, h2]
theorem colAt_step (s r : ByteArray) (rise : Int) (k i : Nat) : colAt s r rise (k + 1) (i + 1) = min3 (colAt s r rise k i + (df (byteAt s i) (byteAt r k) : Nat)) (colAt s r rise k (i + 1) + 1) (colAt s r rise (k + 1) i + 1) := by
  have h := nextAt_succ (eqP s ((byteAt r k).toNat : Int)) (colAt s r rise k) (colAt s r rise k 0 + rise) i
  rw [eqP_df] at h
  exact h
theorem colAt_first0 (s r : ByteArray) (rise : Int) (i : Nat) : colAt s r rise 0 i = i := rfl
theorem colAt_next0 (s r : ByteArray) (rise : Int) (k : Nat) : colAt s r rise (k + 1) 0 = colAt s r rise k 0 + rise := rfl
/-- the columns of all that was read reckon by how much it differs -/
theorem colAt_ed (s r : ByteArray) : ∀ k i, k ≤ r.size → i ≤ s.size → colAt s r 1 k i = (ed ((bl s).take i) ((bl r).take k) : Nat) := by
  intro k
  induction k with
  | zero => intro i _ hi; rw [colAt_first0, List.take_zero, ed_nil', List.length_take, bl_len, Nat.min_eq_left hi]
  | succ k ihk =>
    intro i hk
    induction i with
    | zero => intro _; rw [colAt_next0, ihk 0 (by omega) (by omega), List.take_zero, ed_nil, ed_nil, List.length_take, List.length_take, bl_len]; omega
    | succ i ihi =>
      intro hi
      rw [colAt_step, ihk i (by omega) (by omega), ihk (i + 1) (by omega) hi, ihi (by omega), bl_take s i (by omega), bl_take r k (by omega), ed_snoc]
      have := min3_spec ((ed ((bl s).take i) ((bl r).take k) : Int) + (df (byteAt s i) (byteAt r k) : Nat)) ((ed ((bl s).take i ++ [byteAt s i]) ((bl r).take k) : Int) + 1) ((ed ((bl s).take i) ((bl r).take k ++ [byteAt r k]) : Int) + 1)
      generalize min3 ((ed ((bl s).take i) ((bl r).take k) : Int) + (df (byteAt s i) (byteAt r k) : Nat)) ((ed ((bl s).take i ++ [byteAt s i]) ((bl r).take k) : Int) + 1) ((ed ((bl s).take i) ((bl r).take k ++ [byteAt r k]) : Int) + 1) = q at *
      omega
/-- a piece of what was read -/
def piece (r : ByteArray) (j k : Nat) : List UInt8 := ((bl r).take k).drop j
theorem piece_all (r : ByteArray) (k : Nat) (h : k ≤ r.size) : piece r k k = [] := by
  unfold piece
  rw [List.drop_eq_nil_iff, List.length_take, bl_len]; omega
theorem piece_succ (r : ByteArray) (j k : Nat) (hj : j ≤ k) (h : k < r.size) : piece r j (k + 1) = piece r j k ++ [byteAt r k] := by
  unfold piece
  rw [bl_take r k h, List.drop_append_of_le_length (by rw [List.length_take, bl_len]; omega)]
/-- where a piece may begin anywhere, the columns reckon the least of what differs -/
theorem colAt_least (s r : ByteArray) : ∀ k i, k ≤ r.size → i ≤ s.size → (∀ j, j ≤ k → colAt s r 0 k i ≤ (ed ((bl s).take i) (piece r j k) : Nat)) ∧ ∃ j, j ≤ k ∧ colAt s r 0 k i = (ed ((bl s).take i) (piece r j k) : Nat) := by
  intro k
  induction k with
  | zero =>
    intro i _ hi
    have e : ∀ j, piece r j 0 = [] := fun j => by unfold piece; simp
    have e2 : (colAt s r 0 0 i : Int) = (ed ((bl s).take i) [] : Nat) := by rw [colAt_first0, ed_nil', List.length_take, bl_len, Nat.min_eq_left hi]
    exact ⟨fun j _ => by rw [e, e2]; exact Int.le_refl _, 0, Nat.le_refl _, by rw [e, e2]⟩
  | succ k ihk =>
    intro i hk
    have h0 : ∀ q, colAt s r 0 q 0 = 0 := fun q => by
      induction q with
      | zero => rfl
      | succ q ih => rw [colAt_next0, ih]; rfl
    induction i with
    | zero =>
      intro _
      rw [h0, List.take_zero]
      exact ⟨fun j _ => by omega, k + 1, Nat.le_refl _, by rw [piece_all r _ hk, ed_nil]; rfl⟩
    | succ i ihi =>
      intro hi
      obtain ⟨a1, j1, b1, c1⟩ := ihk i (by omega) (by omega)
      obtain ⟨a2, j2, b2, c2⟩ := ihk (i + 1) (by omega) hi
      obtain ⟨a3, j3, b3, c3⟩ := ihi (by omega)
      have hm := min3_spec (colAt s r 0 k i + (df (byteAt s i) (byteAt r k) : Nat)) (colAt s r 0 k (i + 1) + 1) (colAt s r 0 (k + 1) i + 1)
      rw [colAt_step]
      generalize min3 (colAt s r 0 k i + (df (byteAt s i) (byteAt r k) : Nat)) (colAt s r 0 k (i + 1) + 1) (colAt s r 0 (k + 1) i + 1) = q at *
      rw [bl_take s i (by omega)] at a2 c2 ⊢
      have low : ∀ j, j ≤ k + 1 → q ≤ (ed ((bl s).take i ++ [byteAt s i]) (piece r j (k + 1)) : Nat) := by
        intro j hj
        by_cases e : j = k + 1
        · subst e
          have := a3 (k + 1) (Nat.le_refl _)
          rw [piece_all r _ hk, ed_nil'] at this ⊢
          rw [List.length_append, List.length_singleton]
          omega
        · have hj2 : j ≤ k := by omega
          have x1 := a1 j hj2
          have x2 := a2 j hj2
          have x3 := a3 j hj
          rw [piece_succ r j k hj2 (by omega)] at x3 ⊢
          rw [ed_snoc]
          omega
      refine ⟨low, ?_⟩
      rcases hm.2.2.2 with e | e | e
      · refine ⟨j1, by omega, ?_⟩
        have x := low j1 (by omega)
        rw [piece_succ r j1 k b1 (by omega)] at x ⊢
        have y := ed_both_last (byteAt s i) (byteAt r k) ((bl s).take i) (piece r j1 k)
        omega
      · refine ⟨j2, by omega, ?_⟩
        have x := low j2 (by omega)
        rw [piece_succ r j2 k b2 (by omega)] at x ⊢
        have y := ed_put_last (byteAt r k) ((bl s).take i ++ [byteAt s i]) (piece r j2 k)
        omega
      · refine ⟨j3, b3, ?_⟩
        have x := low j3 b3
        have y := ed_drop_last (byteAt s i) ((bl s).take i) (piece r j3 (k + 1))
        omega
end Go.Proofs.Ytpniiaemgobaiaa

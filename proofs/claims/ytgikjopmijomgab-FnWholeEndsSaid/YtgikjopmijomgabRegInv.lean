/-
  A region that draws its order, by what each operation's temporary holds: one proof for each operation, whatever the order.
-/
import Derived.Orders
import Derived.OwnWalkIn
import Derived.Test.YtgikjopmijomgabKit
namespace Go.Proofs.Ytgikjopmijomgab
open Go Go.RowKit
section
variable {P : Program} {ops : Array Oper} {Q : Exit → Act → World → Prop}
def leftN (listed : Array Bool) : Nat := listed.toList.countP (fun b => !b)
theorem leftN_set {listed : Array Bool} {i : Nat} (hi : i < listed.size) (h : listed.getD i true = false) : leftN (listed.setIfInBounds i true) + 1 = leftN listed := by
  obtain ⟨L⟩ := listed
  have hi' : i < L.length := by simpa using hi
  have h' : L[i] = false := by simpa [hi'] using h
  unfold leftN
  simp only [List.setIfInBounds_toArray]
  rw [List.countP_set hi', h']
  have : 0 < L.countP (fun b => !b) := List.countP_pos_iff.2 ⟨false, by rw [← h']; exact List.getElem_mem hi', rfl⟩
  simp
  omega
theorem leftN_pos {listed : Array Bool} {i : Nat} (hi : i < listed.size) (h : listed.getD i true = false) : 0 < leftN listed := by
  have := leftN_set hi h; omega
theorem wpAny_inv (Inv : Array Bool → Act → World → Prop)
    (hstep : ∀ listed a w i, i ∈ Region.ready .any ops listed → Inv listed a w → wpOp P ops Q i (Inv (listed.setIfInBounds i true)) a w)
    (hdone : ∀ listed a w, listed.size = ops.size → Region.ready .any ops listed = [] → Inv listed a w → Q .normal a w) :
    ∀ m listed a w, listed.size = ops.size → leftN listed ≤ m → Inv listed a w → wpAny P .any ops Q m listed a w := by
  intro m
  induction m with
  | zero =>
    intro listed a w hs hl hI
    have hr : Region.ready .any ops listed = [] := by
      cases hr : Region.ready .any ops listed with
      | nil => rfl
      | cons i r =>
        exfalso
        obtain ⟨h1, o, ho, _⟩ := mem_ready.1 (show i ∈ Region.ready .any ops listed by rw [hr]; exact List.mem_cons_self)
        have := leftN_pos (by rw [hs]; exact (Array.getElem?_eq_some_iff.1 ho).1) h1
        omega
    exact ⟨hr, hdone _ _ _ hs hr hI⟩
  | succ m ih =>
    intro listed a w hs hl hI
    refine ⟨fun h => hdone _ _ _ hs h hI, fun i hi => wpOp_mono (fun a' w' h' => ih _ a' w' (by simpa using hs) ?_ h') (hstep _ _ _ _ hi hI)⟩
    obtain ⟨h1, o, ho, _⟩ := mem_ready.1 hi
    have := leftN_set (by rw [hs]; exact (Array.getElem?_eq_some_iff.1 ho).1) h1
    omega
/-- each operation waits for earlier ones alone; no two write one temporary, none one of the base's -/
def formOk (ops : Array Oper) (base : List Tmp) : Bool :=
  (List.range ops.size).all fun i => match ops[i]? with
    | none => true
    | some o => o.guard.isNone && (o.after.all fun e => !Region.binds .any e || decide (e.on < i)) && match o.dst with
      | none => true
      | some d => !base.contains d && (List.range ops.size).all fun j => j == i || match ops[j]? with | none => true | some o' => o'.dst != some d
theorem formOk_spec {base : List Tmp} (h : formOk ops base = true) {i : Nat} {o : Oper} (ho : ops[i]? = some o) :
    o.guard = none ∧ (∀ e ∈ o.after, Region.binds .any e = true → e.on < i) ∧ ∀ d, o.dst = some d → d ∉ base ∧ ∀ j o', ops[j]? = some o' → j ≠ i → o'.dst ≠ some d := by
  have hi := (Array.getElem?_eq_some_iff.1 ho).1
  have h1 := List.all_eq_true.1 h i (List.mem_range.2 hi)
  rw [ho] at h1
  simp only [Bool.and_eq_true] at h1
  refine ⟨by simpa using h1.1.1, fun e he hb => ?_, fun d hd => ?_⟩
  · have := Array.all_eq_true'.1 h1.1.2 e he
    rw [hb] at this
    simpa using this
  · have h2 := h1.2
    rw [hd] at h2
    simp only [Bool.and_eq_true] at h2
    refine ⟨by simpa using h2.1, fun j o' hj hne hd' => ?_⟩
    have h3 := List.all_eq_true.1 h2.2 j (List.mem_range.2 (Array.getElem?_eq_some_iff.1 hj).1)
    rw [hj] at h3
    dsimp only at h3
    rw [hd'] at h3
    simp [hne] at h3
theorem all_listed {base : List Tmp} (h : formOk ops base = true) {listed : Array Bool} (hs : listed.size = ops.size) (hr : Region.ready .any ops listed = []) : ∀ i, i < ops.size → listed.getD i false = true := by
  intro i
  induction i using Nat.strongRecOn with
  | ind i ih =>
    intro hi
    have ho : ops[i]? = some ops[i] := Array.getElem?_eq_getElem hi
    cases hl : listed.getD i false with
    | true => rfl
    | false =>
      exfalso
      have hl2 : listed.getD i true = false := by
        have : i < listed.size := by omega
        simp [this] at hl ⊢; exact hl
      have : i ∈ Region.ready .any ops listed := mem_ready.2 ⟨hl2, _, ho, fun e he hb => ih e.on ((formOk_spec h ho).2.1 e he hb) (by have := (formOk_spec h ho).2.1 e he hb; omega)⟩
      rw [hr] at this
      cases this
variable (Wd : World → Prop) (R : Nat → Value → World → Prop) (base : List Tmp) (B : Tmp → Value) (D : List Deferred) (n : Nat)
structure InvT (ops : Array Oper) (listed : Array Bool) (a : Act) (w : World) : Prop where
  wd : Wd w
  size : a.tmps.size = n
  defers : a.defers = D
  base : ∀ t ∈ base, a.eval (.tmp t) = B t
  row : ∀ (i : Nat) (o : Oper) (d : Tmp), ops[i]? = some o → o.dst = some d → listed.getD i false = true → R i (a.eval (.tmp d)) w
/-- what an operation does: its value is as its row says, and all rows are kept -/
def DoesT (i : Nat) (o : Oper) (a : Act) (w : World) : Act → World → Prop := fun a' w' => (∃ v, a' = a.put o.dst v ∧ R i v w') ∧ Wd w' ∧ ∀ j v, R j v w → R j v w'
variable {Wd R base B D n}
theorem region_inv {id : Nat} {a : Act} {w : World} (hm : P.follows .mixedOrders = true) (hf : formOk ops base = true) (hdb : (ops.all fun o => match o.dst with | some d => decide (d < n) | none => true) = true)
    (h0 : Wd w.drew) (hs : a.tmps.size = n) (hD : a.defers = D) (hB : ∀ t ∈ base, a.eval (.tmp t) = B t)
    (hop : ∀ (i : Nat) (o : Oper), ops[i]? = some o → ∀ (a : Act) (w : World), Wd w → a.tmps.size = n → a.defers = D → (∀ t ∈ base, a.eval (.tmp t) = B t) →
      (∀ e ∈ o.after, Region.binds .any e = true → ∀ (o' : Oper) (d : Tmp), ops[e.on]? = some o' → o'.dst = some d → R e.on (a.eval (.tmp d)) w) → o.wp P a w (DoesT Wd R i o a w) Q)
    (hdone : ∀ (a : Act) (w : World), Wd w → a.tmps.size = n → a.defers = D → (∀ t ∈ base, a.eval (.tmp t) = B t) → (∀ (i : Nat) (o : Oper) (d : Tmp), ops[i]? = some o → o.dst = some d → R i (a.eval (.tmp d)) w) → Q .normal a w) :
    (Code.region id ops true).wp P Q a w := by
  have hd : ∀ (i : Nat) (o : Oper) (d : Tmp), ops[i]? = some o → o.dst = some d → d < n := fun i o d ho hd => by
    have := Array.all_eq_true'.1 hdb o (Array.mem_of_getElem? ho)
    rw [hd] at this
    simpa using this
  refine wp_region_any hm (wpAny_inv (InvT Wd R base B D n ops) ?_ ?_ ops.size _ a _ (by simp) ?_ ⟨h0, hs, hD, hB, fun i o d _ _ hl => ?_⟩)
  · intro listed a w i hi hI
    obtain ⟨h1, o, ho, hall⟩ := mem_ready.1 hi
    obtain ⟨hg, hdep, hdst⟩ := formOk_spec hf ho
    unfold wpOp
    rw [ho]
    dsimp only
    rw [if_pos (by simp [Region.wanted, hg])]
    refine .inl (Oper.wp_mono (fun a' w' h' => ?_) (hop i o ho a w hI.wd hI.size hI.defers hI.base fun e he hb o' d ho' hd' => hI.row e.on o' d ho' hd' (hall e he hb)))
    obtain ⟨⟨v, rfl, hv⟩, hw', hk⟩ := h'
    have hev : ∀ t, o.dst ≠ some t → (a.put o.dst v).eval (.tmp t) = a.eval (.tmp t) := fun t ht => Act.eval_put fun d hd' he => ht (by cases he; exact hd')
    refine ⟨hw', ?_, ?_, fun t ht => ?_, fun j o' d ho' hd' hl => ?_⟩
    · rw [← hI.size]; cases o.dst <;> simp [Act.put]
    · rw [← hI.defers]; cases o.dst <;> rfl
    · rw [hev t (fun e => (hdst t e).1 ht)]; exact hI.base t ht
    · by_cases e : j = i
      · subst e
        rw [ho] at ho'; cases ho'
        rw [hd']
        have hdn : d < a.tmps.size := by rw [hI.size]; exact hd j o d ho hd'
        have : (a.put (some d) v).eval (.tmp d) = v := by simp [Act.put, Act.eval, hdn]
        rw [this]; exact hv
      · rw [hev d (fun e2 => (hdst d e2).2 j o' ho' e hd')]
        refine hk j _ (hI.row j o' d ho' hd' ?_)
        rwa [getD_set_ne false (Ne.symm e)] at hl
  · intro listed a w hs hr hI
    exact hdone a w hI.wd hI.size hI.defers hI.base fun i o d ho hd' => hI.row i o d ho hd' (all_listed hf hs hr i (Array.getElem?_eq_some_iff.1 ho).1)
  · unfold leftN
    exact Nat.le_trans List.countP_le_length (by simp)
  · exfalso
    have e : (Array.replicate ops.size false)[i]?.getD false = false := by rw [Array.getElem?_replicate]; split <;> rfl
    rw [Array.getD_eq_getD_getElem?, e] at hl
    cases hl
/-- as formOk, where a base's temporary may be written -/
def formOk3 (ops : Array Oper) : Bool :=
  (List.range ops.size).all fun i => match ops[i]? with
    | none => true
    | some o => o.guard.isNone && (o.after.all fun e => !Region.binds .any e || decide (e.on < i)) && match o.dst with
      | none => true
      | some d => (List.range ops.size).all fun j => j == i || match ops[j]? with | none => true | some o' => o'.dst != some d
theorem formOk3_ok (h : formOk3 ops = true) : formOk ops [] = true := by
  unfold formOk3 at h
  unfold formOk
  refine List.all_eq_true.2 fun i hi => ?_
  have := List.all_eq_true.1 h i hi
  cases ho : ops[i]? with
  | none => rfl
  | some o =>
    rw [ho] at this
    dsimp only at this ⊢
    cases hd : o.dst with
    | none => rw [hd] at this; exact this
    | some d => rw [hd] at this; simpa using this
/-- the i-th comes up ahead of each that writes t -/
def aheadOf (ops : Array Oper) (i : Nat) (t : Tmp) : Bool := ops.all fun o => o.dst != some t || o.after.any fun e => Region.binds .any e && e.on == i
structure InvU (Wd : World → Prop) (R : Nat → Value → World → Prop) (B : Tmp → Value) (D : List Deferred) (n : Nat) (ops : Array Oper) (listed : Array Bool) (a : Act) (w : World) : Prop where
  wd : Wd w
  size : a.tmps.size = n
  defers : a.defers = D
  closed : ∀ k o, ops[k]? = some o → listed.getD k false = true → ∀ e ∈ o.after, Region.binds .any e = true → listed.getD e.on false = true
  base : ∀ t, (∀ (i : Nat) (o : Oper), ops[i]? = some o → o.dst = some t → listed.getD i false = false) → a.eval (.tmp t) = B t
  row : ∀ (i : Nat) (o : Oper) (d : Tmp), ops[i]? = some o → o.dst = some d → listed.getD i false = true → R i (a.eval (.tmp d)) w
/-- the law, the temporaries known by what they held at the beginning until they are written -/
theorem region_inv3 {Wd : World → Prop} {R : Nat → Value → World → Prop} {D : List Deferred} {n id : Nat} {a : Act} {w : World} (hm : P.follows .mixedOrders = true) (hf : formOk3 ops = true) (hdb : (ops.all fun o => match o.dst with | some d => decide (d < n) | none => true) = true)
    (h0 : Wd w.drew) (hs : a.tmps.size = n) (hD : a.defers = D)
    (hop : ∀ (i : Nat) (o : Oper), ops[i]? = some o → ∀ (a' : Act) (w : World), Wd w → a'.tmps.size = n → a'.defers = D → (∀ t, aheadOf ops i t = true → a'.eval (.tmp t) = a.eval (.tmp t)) →
      (∀ e ∈ o.after, Region.binds .any e = true → ∀ (o' : Oper) (d : Tmp), ops[e.on]? = some o' → o'.dst = some d → R e.on (a'.eval (.tmp d)) w) → o.wp P a' w (DoesT Wd R i o a' w) Q)
    (hdone : ∀ (a' : Act) (w : World), Wd w → a'.tmps.size = n → a'.defers = D → (∀ t, (ops.all fun o => o.dst != some t) = true → a'.eval (.tmp t) = a.eval (.tmp t)) → (∀ (i : Nat) (o : Oper) (d : Tmp), ops[i]? = some o → o.dst = some d → R i (a'.eval (.tmp d)) w) → Q .normal a' w) :
    (Code.region id ops true).wp P Q a w := by
  have hd : ∀ (i : Nat) (o : Oper) (d : Tmp), ops[i]? = some o → o.dst = some d → d < n := fun i o d ho hd => by
    have := Array.all_eq_true'.1 hdb o (Array.mem_of_getElem? ho)
    rw [hd] at this
    simpa using this
  have hf1 := formOk3_ok hf
  have e0 : ∀ i, (Array.replicate ops.size false).getD i false = false := fun i => by
    rw [Array.getD_eq_getD_getElem?, Array.getElem?_replicate]; split <;> rfl
  refine wp_region_any hm (wpAny_inv (InvU Wd R (fun t => a.eval (.tmp t)) D n ops) ?_ ?_ ops.size _ a _ (by simp) ?_ ⟨h0, hs, hD, fun k o _ hl => ?_, fun t _ => rfl, fun i o d _ _ hl => ?_⟩)
  · intro listed a' w hi' hi hI
    obtain ⟨h1, o, ho, hall⟩ := mem_ready.1 hi
    obtain ⟨hg, hdep, hdst⟩ := formOk_spec hf1 ho
    have hun : listed.getD hi' false = false := by
      rcases Nat.lt_or_ge hi' listed.size with h' | h'
      · simpa [h'] using h1
      · simp [Array.getElem?_eq_none h']
    have hset : ∀ k, listed.getD k false = true → (listed.setIfInBounds hi' true).getD k false = true := by
      intro k hk
      rcases Decidable.em (hi' = k) with rfl | hne
      · rw [hun] at hk; cases hk
      · rw [getD_set_ne false hne]; exact hk
    unfold wpOp
    rw [ho]
    dsimp only
    rw [if_pos (by simp [Region.wanted, hg])]
    refine .inl (Oper.wp_mono (fun a2 w2 h' => ?_) (hop hi' o ho a' w hI.wd hI.size hI.defers (fun t ht => hI.base t fun j o' hj hdj => ?_) fun e he hb o' d ho' hd' => hI.row e.on o' d ho' hd' (hall e he hb)))
    · obtain ⟨⟨v, rfl, hv⟩, hw', hk⟩ := h'
      have hev : ∀ t, o.dst ≠ some t → (a'.put o.dst v).eval (.tmp t) = a'.eval (.tmp t) := fun t ht => Act.eval_put fun d hd' he => ht (by cases he; exact hd')
      refine ⟨hw', ?_, ?_, fun k o' hk' hl e he hb => ?_, fun t ht => ?_, fun j o' d ho' hd' hl => ?_⟩
      · rw [← hI.size]; cases o.dst <;> simp [Act.put]
      · rw [← hI.defers]; cases o.dst <;> rfl
      · rcases Decidable.em (hi' = k) with rfl | hne
        · rw [ho] at hk'; cases hk'
          exact hset _ (hall e he hb)
        · rw [getD_set_ne false hne] at hl
          exact hset _ (hI.closed k o' hk' hl e he hb)
      · have hno : o.dst ≠ some t := fun e => by
          have := ht hi' o ho e
          have hs' : hi' < listed.size := by
            rcases Nat.lt_or_ge hi' listed.size with h' | h'
            · exact h'
            · simp [Array.getElem?_eq_none h'] at h1
          simp [hs'] at this
        rw [hev t hno]
        refine hI.base t fun j o' hj hdj => ?_
        have := ht j o' hj hdj
        rcases Decidable.em (hi' = j) with rfl | hne
        · exact hun
        · rwa [getD_set_ne false hne] at this
      · by_cases e : j = hi'
        · subst e
          rw [ho] at ho'; cases ho'
          rw [hd']
          have hdn : d < a'.tmps.size := by rw [hI.size]; exact hd j o d ho hd'
          have : (a'.put (some d) v).eval (.tmp d) = v := by simp [Act.put, Act.eval, hdn]
          rw [this]; exact hv
        · rw [hev d (fun e2 => (hdst d e2).2 j o' ho' e hd')]
          refine hk j _ (hI.row j o' d ho' hd' ?_)
          rwa [getD_set_ne false (Ne.symm e)] at hl
    · have h3 := Array.all_eq_true'.1 ht o' (Array.mem_of_getElem? hj)
      rw [hdj] at h3
      simp only [bne_self_eq_false, Bool.false_or] at h3
      obtain ⟨e, he, hb⟩ := Array.any_eq_true'.1 h3
      rw [Bool.and_eq_true, beq_iff_eq] at hb
      cases hl : listed.getD j false with
      | false => rfl
      | true =>
        have := hI.closed j o' hj hl e he hb.1
        rw [hb.2, hun] at this
        cases this
  · intro listed a' w hs hr hI
    refine hdone a' w hI.wd hI.size hI.defers (fun t ht => hI.base t fun i o ho hdo => ?_) fun i o d ho hd' => hI.row i o d ho hd' (all_listed hf1 hs hr i (Array.getElem?_eq_some_iff.1 ho).1)
    have := Array.all_eq_true'.1 ht o (Array.mem_of_getElem? ho)
    rw [hdo] at this
    simp at this
  · unfold leftN
    exact Nat.le_trans List.countP_le_length (by simp)
  · rw [e0] at hl; cases hl
  · rw [e0] at hl; cases hl
end
end Go.Proofs.Ytgikjopmijomgab

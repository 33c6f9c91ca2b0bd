/-
  A region that draws its order, in whatever fence (in a round too): a load of a cell that nobody turns before it may be taken first. What is said of the world must hold behind each operation but the late ones, which wait for all that is taken so.
-/
import Derived.OrdersIn
import Derived.OrdersHeld
import Derived.OwnWalkIn
import Derived.Test.YtgikjopmijomgabKit
namespace Go.Proofs.Ytgikjopmijomgab
open Go Go.RowKit
section
variable {F : Fence} {n : Nat} {P : Program} {ops : Array Oper} {Q : Exit → Act → World → Prop} {S : World → Prop}
/-- in every world of which S holds the operation gives v, and it calls nothing -/
def Gives (P : Program) (ops : Array Oper) (S : World → Prop) (o : Oper) (v : Value) (a : Act) : Prop :=
  YieldsIf P ops S o v a ∧ ∀ w, o.about P w a.eval = none
theorem Gives.put {oi oj : Oper} {v : Value} {a : Act} (h : Gives P ops S oi v a) (hs : ∀ cs b, oi.op ≠ .select cs b) (hl : ∀ d, oj.dst = some d → d ∉ oi.looksAt ops) (u : Value) :
    Gives P ops S oi v (a.put oj.dst u) :=
  ⟨h.1.of_same (execOp_put oi hs a oj.dst u hl) (wanted_put oi a oj.dst u hl), fun w => (about_put oi w a oj.dst u hl).trans (h.2 w)⟩
/-- an operation that stands apart: whether the other's value lies there already makes no difference -/
theorem apart_step {j : Nat} {oi oj : Oper} {v : Value} (hj : ops[j]? = some oj) (hap : oi.apart ops oj = true) (hsi : ∀ cs b, oi.op ≠ .select cs b) (hsj : ∀ cs b, oj.op ≠ .select cs b)
    (hdj : ∀ c, oj.op ≠ .defer c) (hQ : ∀ c a w, Q (.panic c) (a.put oi.dst v) w → Q (.panic c) a w) {K : Act → World → Prop} {a : Act} {w : World} (hy : Gives P ops S oi v a)
    (h : wpOpIn F n P ops Q j K (a.put oi.dst v) w) : wpOpIn F n P ops Q j (fun a' w' => Gives P ops S oi v a' ∧ K (a'.put oi.dst v) w') a w := by
  have hp := Oper.apart_spec hap
  have st := fun u => hy.put (oj := oj) hsi hp.2.2 u
  have sw : ∀ (b : Act) u, (b.put oj.dst u).put oi.dst v = (b.put oi.dst v).put oj.dst u := fun b u => (Act.put_comm b v u hp.2.1).symm
  unfold wpOpIn at h ⊢
  rw [hj] at h ⊢
  dsimp only at h ⊢
  rw [wanted_put oj a oi.dst v hp.1] at h
  by_cases hw : Region.wanted oj (yielded ops a.tmps) = true
  · rw [if_pos hw] at h ⊢
    unfold Oper.wpIn at h ⊢
    rw [about_put oj w a oi.dst v hp.1, Oper.semAt_plain _ _ _ hdj, execOp_put oj hsj a oi.dst v hp.1] at h
    rw [Oper.semAt_plain _ _ _ hdj]
    refine ⟨h.1, ?_⟩
    have h2 := h.2
    have en : ∀ e w', (match e, w' with
        | Ending.returned u, w'' => K ((a.put oi.dst v).put oj.dst u) w''
        | Ending.panicked c, w'' => Q (.panic c) (a.put oi.dst v) w''
        | Ending.outgrown, _ => LetsOut Q : Prop) → (match e, w' with
        | Ending.returned u, w'' => Gives P ops S oi v (a.put oj.dst u) ∧ K ((a.put oj.dst u).put oi.dst v) w''
        | Ending.panicked c, w'' => Q (.panic c) a w''
        | Ending.outgrown, _ => LetsOut Q : Prop) := by
      intro e w' he
      cases e with
      | returned u => exact ⟨st u, by rw [sw]; exact he⟩
      | panicked c => exact hQ _ _ _ he
      | outgrown => exact he
    cases hr : (execOp a.eval oj).run P w with
    | ok x w' =>
      rw [hr] at h2
      cases x with
      | value u => exact ⟨st u, by rw [sw]; exact h2⟩
      | skip => exact ⟨st _, by rw [sw]; exact h2⟩
      | defer d =>
        have hyd : Gives P ops S oi v { a with defers := d :: a.defers } := ⟨hy.1.of_same rfl rfl, hy.2⟩
        refine ⟨hyd.put hsi hp.2.2 _, ?_⟩
        rw [sw, ← Act.put_defers]
        exact h2
      | enter f args => exact ⟨h2.1, CallsIn.mono h2.2 fun e w'' he => en e w'' he⟩
      | row r args => exact ⟨h2.1, RowsIn.mono h2.2 fun u w'' he => ⟨st u, by rw [sw]; exact he⟩⟩
      | round l f tmps assign body => exact ⟨h2.1, RoundIn.mono h2.2 fun e w'' he => en e w'' he⟩
      | _ => exact h2.elim
    | halt x w' =>
      rw [hr] at h2
      cases x with
      | panic u => exact hQ _ _ _ h2
      | _ => exact h2
  · rw [if_neg hw] at h ⊢
    rw [about_put oj w a oi.dst v hp.1] at h
    exact ⟨h.1, st _, by rw [sw]; exact h.2⟩
/-- whatever order is drawn from here on; S holds behind each operation that is not late -/
def wpAnyL (F : Fence) (n : Nat) (P : Program) (ops : Array Oper) (Q : Exit → Act → World → Prop) (S : World → Prop) (late : List Nat) : Nat → Array Bool → Act → World → Prop
  | 0, listed, a, w => Region.ready .any ops listed = [] ∧ Q .normal a w
  | m + 1, listed, a, w => (Region.ready .any ops listed = [] → Q .normal a w) ∧
    ∀ i ∈ Region.ready .any ops listed, wpOpIn F n P ops Q i (fun a' w' => (late.contains i = false → S w') ∧ wpAnyL F n P ops Q S late m (listed.setIfInBounds i true) a' w') a w
variable {late : List Nat}
theorem wpAnyL.any : ∀ (m : Nat) (listed : Array Bool) (a : Act) (w : World), wpAnyL F n P ops Q S late m listed a w → wpAnyIn F n P .any ops Q m listed a w
  | 0, _, _, _, h => h
  | m + 1, _, _, _, h => ⟨h.1, fun i hi => wpOpIn_mono (fun _ _ h' => wpAnyL.any m _ _ _ h'.2) (h.2 i hi)⟩
theorem regionL {id : Nat} {a : Act} {w : World} (S : World → Prop) (late : List Nat) (hm : P.follows .mixedOrders = true)
    (h : wpAnyL F n P ops Q S late ops.size (Array.replicate ops.size false) a w.drew) : (Code.region id ops true).wpIn F n P Q a w :=
  wpIn_region_any hm (wpAnyL.any _ _ _ _ h)
/-- the j-th waits for the i-th, by so many steps at most -/
def leads (ops : Array Oper) (i : Nat) : Nat → Nat → Bool
  | 0, _ => false
  | m + 1, j => match ops[j]? with
    | some o => o.after.any fun e => Region.binds .any e && (e.on == i || leads ops i m e.on)
    | none => false
/-- what has come up had nothing to wait for -/
def closedB (ops : Array Oper) (listed : Array Bool) : Bool :=
  (List.range listed.size).all fun k => !listed.getD k false || match ops[k]? with
    | some o => o.after.all fun e => !Region.binds .any e || listed.getD e.on false
    | none => true
def Closed (ops : Array Oper) (listed : Array Bool) : Prop := ∀ k o, ops[k]? = some o → listed.getD k false = true → ∀ e ∈ o.after, Region.binds .any e = true → listed.getD e.on false = true
theorem closedB_spec {listed : Array Bool} (h : closedB ops listed = true) : Closed ops listed := by
  intro k o hk hl e he hb
  have hs : k < listed.size := by
    rcases Nat.lt_or_ge k listed.size with h' | h'
    · exact h'
    · simp [Array.getElem?_eq_none h'] at hl
  have := List.all_eq_true.1 h k (List.mem_range.2 hs)
  rw [hl, hk] at this
  rw [Bool.not_true, Bool.false_or] at this
  have := Array.all_eq_true'.1 this e he
  rw [hb, Bool.not_true, Bool.false_or] at this
  exact this
theorem Closed.set {listed : Array Bool} {j : Nat} (h : Closed ops listed) (hj : j ∈ Region.ready .any ops listed) : Closed ops (listed.setIfInBounds j true) := by
  obtain ⟨_, oj, hoj, hall⟩ := mem_ready.1 hj
  have keep : ∀ k, listed.getD k false = true → (listed.setIfInBounds j true).getD k false = true := by
    intro k hk
    rcases Decidable.em (j = k) with rfl | hne
    · rcases Nat.lt_or_ge j listed.size with h' | h'
      · simp [h']
      · simp [Array.getElem?_eq_none h'] at hk
    · rw [getD_set_ne false hne]; exact hk
  intro k o hk hl e he hb
  rcases Decidable.em (j = k) with rfl | hne
  · rw [hoj] at hk; cases hk
    exact keep _ (hall e he hb)
  · rw [getD_set_ne false hne] at hl
    exact keep _ (h k o hk hl e he hb)
/-- all late ones wait for the i-th -/
def waits (ops : Array Oper) (late : List Nat) (i : Nat) : Bool := late.all fun j => leads ops i ops.size j
theorem leads_ready {i : Nat} {listed : Array Bool} (hc : Closed ops listed) (hi : listed.getD i false = false) : ∀ (m j : Nat), leads ops i m j = true → ∀ oj, ops[j]? = some oj → (∀ e ∈ oj.after, Region.binds .any e = true → listed.getD e.on false = true) → False := by
  intro m
  induction m with
  | zero => intro j h; cases h
  | succ m ih =>
    intro j h oj hoj hall
    rw [leads, hoj] at h
    obtain ⟨e, he, hb⟩ := Array.any_eq_true'.1 h
    rw [Bool.and_eq_true, Bool.or_eq_true] at hb
    have hl := hall e he hb.1
    rcases hb.2 with h | h
    · rw [beq_iff_eq.1 h, hi] at hl; cases hl
    · cases m with
      | zero => cases h
      | succ m =>
        have hx : ∃ o, ops[e.on]? = some o := by
          cases hx : ops[e.on]? with
          | some o => exact ⟨o, rfl⟩
          | none => rw [leads, hx] at h; cases h
        obtain ⟨o, ho⟩ := hx
        exact ih e.on h o ho (hc e.on o ho hl)
theorem waits_ready {i j : Nat} {listed : Array Bool} (hw : waits ops late i = true) (hc : Closed ops listed) (hi : listed.getD i false = false) (hj : j ∈ Region.ready .any ops listed) : late.contains j = false := by
  cases hl : late.contains j with
  | false => rfl
  | true =>
    exfalso
    obtain ⟨_, oj, hoj, hall⟩ := mem_ready.1 hj
    exact leads_ready hc hi _ j (List.all_eq_true.1 hw j (by simpa using hl)) oj hoj hall
theorem firstL {i : Nat} {oi : Oper} {v : Value} (hi : ops[i]? = some oi) (hsel : ∀ (j : Nat) (o : Oper) cs b, ops[j]? = some o → o.op ≠ .select cs b) (hdef : ∀ (j : Nat) (o : Oper) c, ops[j]? = some o → o.op ≠ .defer c)
    (hQ : ∀ c a w, Q (.panic c) (a.put oi.dst v) w → Q (.panic c) a w) : ∀ (m : Nat) (listed : Array Bool) (a : Act) (w : World),
      (∀ j oj, ops[j]? = some oj → j ≠ i → listed.getD j true = false → (∀ e ∈ oj.after, Region.binds .any e = true → e.on ≠ i) → oi.apart ops oj = true) →
      waits ops late i = true → Closed ops listed → i ∈ Region.ready .any ops listed → Gives P ops S oi v a → S w →
      wpAnyL F n P ops Q S late m (listed.setIfInBounds i true) (a.put oi.dst v) w → wpAnyL F n P ops Q S late (m + 1) listed a w := by
  have here : ∀ (a : Act) (w : World) (K : Act → World → Prop), Gives P ops S oi v a → S w → K (a.put oi.dst v) w → wpOpIn F n P ops Q i K a w := by
    intro a w K hy hS hK
    unfold wpOpIn
    rw [hi]
    dsimp only
    rcases hy.1 with ⟨hw, hv⟩ | ⟨hw, rfl⟩
    · rw [if_pos hw]
      refine ⟨fun f hf => (by rw [hy.2 w] at hf; cases hf), ?_⟩
      rw [Oper.semAt_plain _ _ _ (fun c => hdef i oi c hi), hv w hS]
      exact hK
    · rw [hw]
      exact ⟨fun f hf => (by rw [hy.2 w] at hf; cases hf), hK⟩
  intro m
  induction m with
  | zero =>
    intro listed a w _ _ _ hr hy hS H
    refine ⟨fun h => absurd (h ▸ hr) (List.not_mem_nil), fun j hj => ?_⟩
    rcases Decidable.em (j = i) with rfl | hne
    · exact here a w _ hy hS ⟨fun _ => hS, H⟩
    · have := ready_mono hj hne
      rw [H.1] at this
      cases this
  | succ m ih =>
    intro listed a w hfree hlate hcl hr hy hS H
    have h0 : listed.getD i false = false := by
      have := (mem_ready.1 hr).1
      rcases Nat.lt_or_ge i listed.size with h' | h'
      · simpa [h'] using this
      · simp [Array.getElem?_eq_none h']
    refine ⟨fun h => absurd (h ▸ hr) (List.not_mem_nil), fun j hj => ?_⟩
    rcases Decidable.em (j = i) with rfl | hne
    · exact here a w _ hy hS ⟨fun _ => hS, H⟩
    · have hjl := waits_ready hlate hcl h0 hj
      obtain ⟨hun, oj, hoj, hall⟩ := mem_ready.1 hj
      have hnot : ∀ e ∈ oj.after, Region.binds .any e = true → e.on ≠ i := fun e he hb heq => by
        have h1 := hall e he hb
        rw [heq, h0] at h1
        cases h1
      refine wpOpIn_mono (fun a' w' h3 => ⟨h3.2.1, ih (listed.setIfInBounds j true) a' w' ?_ hlate (hcl.set hj) (ready_mono hr (Ne.symm hne)) h3.1 (h3.2.1 hjl) ?_⟩)
        (apart_step hoj (hfree j oj hoj hne hun hnot) (fun cs b => hsel i oi cs b hi) (fun cs b => hsel j oj cs b hoj) (fun c => hdef j oj c hoj) hQ hy (H.2 j (ready_mono hj hne)))
      · intro k ok hk hki hku hno
        refine hfree k ok hk hki ?_ hno
        rcases Decidable.em (j = k) with rfl | hjk
        · exact hun
        · rwa [getD_set_ne true hjk] at hku
      · rw [Array.setIfInBounds_comm _ _ hne]
        exact h3.2.2
/-- no operation is a defer -/
def noDefer (ops : Array Oper) : Bool := ops.all fun o => match o.op with | .defer _ => false | _ => true
theorem noDefer_spec (h : noDefer ops = true) (j : Nat) (o : Oper) (c : Call) (hj : ops[j]? = some o) : o.op ≠ .defer c := by
  intro he
  have := Array.all_eq_true'.1 h o (Array.mem_of_getElem? hj)
  rw [he] at this
  cases this
/-- take the i-th first -/
theorem takeL {m i : Nat} {oi : Oper} {v : Value} {listed : Array Bool} {a : Act} {w : World} (hi : ops[i]? = some oi) (hs : Region.noSelect ops = true) (hd : noDefer ops = true)
    (hf : Region.free .any ops listed i = true) (hr : (Region.ready .any ops listed).contains i = true) (hl : waits ops late i = true) (hc : closedB ops listed = true)
    (hQ : ∀ c a w, Q (.panic c) (a.put oi.dst v) w → Q (.panic c) a w) (hS : S w) (hy : Gives P ops S oi v a)
    (h : wpAnyL F n P ops Q S late m (listed.setIfInBounds i true) (a.put oi.dst v) w) : wpAnyL F n P ops Q S late (m + 1) listed a w :=
  firstL hi (Region.noSelect_spec hs) (noDefer_spec hd) hQ m listed a w (Region.free_spec hi hf) hl (closedB_spec hc) (by simpa using hr) hy hS h
/-- one alone may come up -/
theorem oneL {m i : Nat} {o : Oper} {listed : Array Bool} {a : Act} {w : World} (hr : Region.ready .any ops listed = [i]) (hi : ops[i]? = some o)
    (h : ∀ K : Act → World → Prop, (∀ a' w', (late.contains i = false → S w') → wpAnyL F n P ops Q S late m (listed.setIfInBounds i true) a' w' → K a' w') →
      if Region.wanted o (yielded ops a.tmps) = true then Oper.wpIn F n P o a w K Q else (∀ f, o.about P w a.eval = some f → F.fn f) ∧ K (a.put o.dst undef) w) : wpAnyL F n P ops Q S late (m + 1) listed a w := by
  refine ⟨fun h0 => (by rw [hr] at h0; cases h0), fun j hj => ?_⟩
  rw [hr] at hj
  obtain rfl := List.mem_singleton.1 hj
  unfold wpOpIn
  rw [hi]
  exact h _ fun _ _ h1 h2 => ⟨h1, h2⟩
theorem doneL {listed : Array Bool} {a : Act} {w : World} (hr : Region.ready .any ops listed = []) (h : Q .normal a w) : ∀ m, wpAnyL F n P ops Q S late m listed a w
  | 0 => ⟨hr, h⟩
  | _ + 1 => ⟨fun _ => h, fun j hj => by rw [hr] at hj; cases hj⟩
end
end Go.Proofs.Ytgikjopmijomgab

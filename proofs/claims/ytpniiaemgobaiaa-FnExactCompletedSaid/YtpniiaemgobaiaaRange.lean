/-
  A range over a function whose iterator hands memory of its own to the body: what is handed is known in the round's world; T: the blocks that the caller's knowledge speaks of.
-/
import Derived.Test.YtpniiaemgobaiaaProg
import Derived.RangeFuncNested
import Derived.RangeFuncBound
import Derived.RangeFuncCalls
import Derived.RangeFuncLeaves
import Derived.Shelf.Abstract
import Derived.Shelf.RegionOpen
import Derived.WalkKit
import Derived.OwnWalkIn
import Derived.TacticsInMore
import Derived.LoopNIn
import Derived.LoopIn
namespace Go.Proofs.Ytpniiaemgobaiaa
open Go Go.RowKit
set_option linter.unusedVariables false
set_option maxRecDepth 100000
/-- two worlds agree on the blocks of T -/
structure On (T : Nat → Prop) (A B : World) : Prop where
  os : B.os = A.os
  tape : B.tape = A.tape
  output : B.output = A.output
  size : A.heap.size ≤ B.heap.size
  block : ∀ b, T b → b < A.heap.size → B.heap[b]? = A.heap[b]?
theorem On.refl (T : Nat → Prop) (A : World) : On T A A := ⟨rfl, rfl, rfl, Nat.le_refl _, fun _ _ _ => rfl⟩
theorem On.trans {T : Nat → Prop} {A B C : World} (h : On T A B) (k : On T B C) : On T A C :=
  ⟨k.os.trans h.os, k.tape.trans h.tape, k.output.trans h.output, Nat.le_trans h.size k.size, fun b t l => (k.block b t (Nat.lt_of_lt_of_le l h.size)).trans (h.block b t l)⟩
theorem On.mono {T U : Nat → Prop} {A B : World} (h : On T A B) (hU : ∀ b, U b → b < A.heap.size → T b) : On U A B :=
  ⟨h.os, h.tape, h.output, h.size, fun b u l => h.block b (hU b u l) l⟩
theorem On.of_below {T : Nat → Prop} {n : Nat} {A B : World} (h : Below n A B) (hT : ∀ b, T b → b < A.heap.size → b < n) : On T A B :=
  ⟨h.os, h.tape, h.output, h.size, fun b t l => h.block b (hT b t l)⟩
theorem On.below {T : Nat → Prop} {n : Nat} {A B : World} (h : On T A B) (hn : n ≤ A.heap.size) (hT : ∀ b, b < n → T b) : Below n A B :=
  ⟨h.os, h.tape, h.output, h.size, fun b l => h.block b (hT b l) (by omega)⟩
theorem On.cell {T : Nat → Prop} {A B : World} (h : On T A B) {p : Addr} (hT : T p.block) (hp : p.block < A.heap.size) : B.cell? p = A.cell? p := World.cell?_of_block (h.block p.block hT hp)
theorem On.frozen {T : Nat → Prop} {A B : World} (h : On T A B) {p : Addr} (hT : T p.block) (hp : p.block < A.heap.size) : B.frozen? p = A.frozen? p := World.frozen?_of_block (h.block p.block hT hp)
theorem On.putObj (T : Nat → Prop) (A : World) (l : Nat) (o : Obj) (hl : ¬ T l) : On T A (A.putObj l o) :=
  ⟨rfl, rfl, rfl, by simp, fun b t _ => World.putObj_heap_other (fun e => hl (by rw [← e]; exact t))⟩
theorem On.alloc {T : Nat → Prop} {A B : World} (h : On T A B) (o : Obj) : On T A (B.alloc o) :=
  h.trans ⟨rfl, rfl, rfl, by simp, fun b _ l => Below.heap_alloc _ _ _ l⟩
theorem On.setCell {T : Nat → Prop} {A B : World} (h : On T A B) {p : Addr} (hp : ¬ T p.block) (u : Value) : On T A (B.setCell p u) :=
  h.trans ⟨rfl, rfl, rfl, by simp [World.setCell], fun b t _ => Below.heap_setCell _ _ _ _ (fun e => hp (by rw [← e]; exact t))⟩
theorem On.drew {T : Nat → Prop} {A B : World} (h : On T A B) : On T A B.drew := ⟨h.os, h.tape, h.output, h.size, h.block⟩
/-- what a round does to the caller's knowledge: T' is of T and of new blocks; all outside of T is kept -/
def Goes {α : Type} (J : Nat → (Nat → Prop) → World → Prop) (k : Nat) (T : Nat → Prop) (W : World) (W' : World) : Prop :=
  ∃ T' : Nat → Prop, J (k + 1) T' W' ∧ On (fun b => ¬ T b) W W' ∧ ∀ b, T' b → (T b ∨ W.heap.size ≤ b) ∧ b < W'.heap.size
def roundEnd (J : Nat → (Nat → Prop) → World → Prop) (k : Nat) (T : Nat → Prop) (W : World) : Exit → Act → World → Prop
  | .normal, _, W' => Goes (α := Unit) J k T W W'
  | _, _, _ => False
/-- AN ITERATOR: it calls yield N times, each time with something that H tells; it ends. -/
def Iter {α : Type} (F : Fence) (n : Nat) (P : Program) (gf : Nat) (lb : Array Value) (encs : α → Array Value) (H : Nat → α → World → Prop) (N : Nat) (T0 : Nat → Prop) (w : World) : Prop :=
  ∀ (l : Nat) (W : World) (K : Nat → (Nat → Prop) → World → Prop), On (fun _ => True) w W →
    (∀ k T A B, K k T A → On T A B → K k T B) →
    (∀ k T x W1, k < N → K k T W1 → H k x W1 → YieldAt F (n - 1) P l (encs x) W1 fun e W' => e = .returned (.bool true) ∧ Goes (α := Unit) K k T W1 W') →
    (∃ T, K 0 T W ∧ ∀ b, T b → (T0 b ∨ w.heap.size ≤ b) ∧ b < W.heap.size) →
    CallsIn F n P gf (#[.func (.yield l) #[] #[]] ++ lb) W fun e W' => (∃ v, e = .returned v) ∧ ∃ T, K N T W'
variable {F : Fence} {n : Nat} {P : Program}
theorem range_law {α : Type} {g : Operand} {ps : Array Tmp} {assign body : Code} {Q : Exit → Act → World → Prop} {a : Act} {w : World}
    (hro : F.round = none) (h1 : 1 ≤ n) {gf : Nat} {lb : Array Value} (hg : a.eval g = .func (.func gf) #[] lb) (hFg : F.fn gf) (eg : ∀ args w, (callFunc gf args).run P w = .ok (.enter gf args) w)
    {encs : α → Array Value} {H : Nat → α → World → Prop} {N : Nat} {T0 : Nat → Prop} (hit : Iter F (n - 1) P gf lb encs H N T0 w) (hps : ∀ x, (encs x).size = ps.size)
    (hH : ∀ k x W l o o', H k x W → W.heap[l]? = some o → o.isCells = false → H k x (W.putObj l o'))
    (J : Nat → (Nat → Prop) → World → Prop) (hJ : ∀ k T A B, J k T A → On T A B → J k T B) (hT0 : ∀ b, T0 b → b < w.heap.size) (h0 : J 0 T0 w) (a₁ : α → Act)
    (hassign : ∀ (l : Nat) (x : α) (W : World) (K : Act → World → Prop), K (a₁ x) W →
      assign.wpIn (F.inRound l) (n - 1 - 1) P (Exit.then K (fun _ _ _ => False)) { tmps := (ps.zip (encs x)).foldl (fun t (p, v) => t.setIfInBounds p v) a.tmps, defers := [] } W)
    (hbody : ∀ (l k : Nat) (T : Nat → Prop) (x : α) (W : World), k < N → J k T W → H k x W → body.wpIn (F.inRound l) (n - 1 - 1) P (roundEnd J k T W) (a₁ x) W)
    (hdone : ∀ (D : Nat) (T : Nat → Prop) (W : World), w.heap.size ≤ D → ¬ T D → J N T W → W.heap[D]? = some (.deferred (some [])) → Q .normal { a with defers := { target := .collected D, args := #[] } :: a.defers } W) :
    (Code.rangeFunc g ps assign body).wpIn F n P Q a w := by
  refine wpIn_rangeFunc fun fn hfn => ?_
  rw [hro]
  let rec' : LoopState → Option Code → Loop := fun st pe => { state := st, pending := pe, fn, tmps := a.tmps, params := ps, assign, body, defers := w.heap.size }
  have hD : (w.alloc (.deferred (some []))).heap.size = w.heap.size + 1 := World.size_alloc _ _
  let W1 := (w.alloc (.deferred (some []))).alloc (.loop (rec' .ready none))
  let l := w.heap.size + 1
  have eL : W1.heap[l]? = some (.loop (rec' .ready none)) := by
    have := World.alloc_heap_new (w.alloc (.deferred (some []))) (.loop (rec' .ready none)); rwa [hD] at this
  have eD : W1.heap[w.heap.size]? = some (.deferred (some [])) := (Below.heap_alloc _ _ _ (by omega)).trans (World.alloc_heap_new w _)
  have hW : ∀ T, On T w W1 := fun T => ((On.refl T w).alloc _).alloc _
  refine ⟨l, _, W1, { target := .fn (.func gf) lb, args := #[.func (.yield l) #[] #[]] }, W1, gf, #[.func (.yield l) #[] #[]] ++ lb, W1, run_enterLoop_outer _ _ _ _ _, ?_, ?_, ?_, fun _ => h1, ?_⟩
  · simp only [resolve, hg]; simp [go_sem, l]
  · intro f' hf'; simp [Target.leads] at hf'; subst hf'; exact hFg
  · simp [invoke, go_sem, eg]
  -- what is known between two rounds: the caller's, and the two blocks of the law
  let K : Nat → (Nat → Prop) → World → Prop := fun k U W => ∃ T : Nat → Prop, J k T W ∧ ¬ T w.heap.size ∧ ¬ T l ∧ (∀ b, T b → U b) ∧ U w.heap.size ∧ U l ∧ (∀ b, U b → T b ∨ b = w.heap.size ∨ b = l) ∧ W.heap[l]? = some (.loop (rec' .ready none)) ∧ W.heap[w.heap.size]? = some (.deferred (some []))
  refine (hit l W1 K (hW _) ?_ ?_ ⟨fun b => T0 b ∨ b = w.heap.size ∨ b = l, ⟨T0, hJ _ _ _ _ h0 (hW _), fun h => Nat.lt_irrefl _ (hT0 _ h), fun h => by have := hT0 _ h; omega, fun b h => .inl h, .inr (.inl rfl), .inr (.inr rfl), fun b h => h, eL, eD⟩, ?_⟩).mono ?_
  · rintro k U A B ⟨T, hj, d1, d2, s1, u1, u2, s2, f1, f2⟩ hAB
    have b1 := (Array.getElem?_eq_some_iff.1 f1).1; have b2 := (Array.getElem?_eq_some_iff.1 f2).1
    exact ⟨T, hJ _ _ _ _ hj (hAB.mono fun b t _ => s1 b t), d1, d2, s1, u1, u2, s2, (hAB.block _ u2 b1).trans f1, (hAB.block _ u1 b2).trans f2⟩
  · rintro k U x W hk ⟨T, hj, d1, d2, s1, u1, u2, s2, f1, f2⟩ hx
    have b1 := (Array.getElem?_eq_some_iff.1 f1).1; have b2 := (Array.getElem?_eq_some_iff.1 f2).1
    refine ⟨fn, _, assign, body, run_yield (P := P) (args := encs x) f1 (hps x), roundIn_of_wpIn hfn (hassign l x W _ ⟨_, run_beginRound f1 rfl, ?_⟩)⟩
    have o1 : On T W (W.putObj l (.loop (rec' .busy none))) := On.putObj _ _ _ _ d2
    refine wpIn_mono (hbody l k T x (W.putObj l (.loop (rec' .busy none))) hk (hJ _ _ _ _ hj o1) (hH _ _ _ _ _ _ hx f1 rfl)) ?_
    intro e a3 W3 hp
    cases e with
    | normal =>
      obtain ⟨T', hj', ho, ht⟩ := hp
      have g1 : W3.heap[l]? = some (.loop (rec' .busy none)) := (ho.block l d2 (by simpa using b1)).trans (World.putObj_heap_same b1)
      have g2 : W3.heap[w.heap.size]? = some (.deferred (some [])) := (ho.block _ d1 (by simpa using b2)).trans ((World.putObj_heap_other (by omega)).trans f2)
      have q1 : ¬ T' l := fun h => (ht l h).1.elim d2 (fun h => by simp at h; omega)
      have q2 : ¬ T' w.heap.size := fun h => (ht _ h).1.elim d1 (fun h => by simp at h; omega)
      have b3 := (Array.getElem?_eq_some_iff.1 g1).1
      refine ⟨_, _, run_endRound (P := P) none g1, rfl, fun b => T' b ∨ b = w.heap.size ∨ b = l, ⟨T', hJ _ _ _ _ hj' (On.putObj _ _ _ _ q1), q2, q1, fun b h => .inl h, .inr (.inl rfl), .inr (.inr rfl), fun b h => h, World.putObj_heap_same b3, (World.putObj_heap_other (by omega)).trans g2⟩, ?_, ?_⟩
      · have v : ¬ ¬ U l := fun h => h u2
        exact ((On.putObj _ _ _ _ v).trans (ho.mono fun b h _ t => h (s1 b t))).trans (On.putObj _ _ _ _ v)
      · rintro b (h | rfl | rfl)
        · have hb3 := (ht b h).2
          rcases (ht b h).1 with h | h
          · exact ⟨.inl (s1 b h), by simpa using hb3⟩
          · exact ⟨.inr (by simpa using h), by simpa using hb3⟩
        · exact ⟨.inl u1, by simpa using (Array.getElem?_eq_some_iff.1 g2).1⟩
        · exact ⟨.inl u2, by simpa using b3⟩
    | ret => exact hp.elim
    | exit id => exact hp.elim
    | goto t => exact hp.elim
    | panic ch => exact hp.elim
    | outgrown => exact hp.elim
  · have hs := (hW (fun _ => True)).size
    have b1 := (Array.getElem?_eq_some_iff.1 eL).1; have b2 := (Array.getElem?_eq_some_iff.1 eD).1
    rintro b (h | h | h)
    · exact ⟨.inl h, by have := hT0 b h; omega⟩
    · exact ⟨.inr (by omega), by omega⟩
    · exact ⟨.inr (by omega), by omega⟩
  · rintro e W2 ⟨⟨v, rfl⟩, U, T, hj, d1, d2, s1, u1, u2, s2, f1, f2⟩
    exact ⟨none, _, run_endLoop (P := P) f1 (by simp [rec']), hdone _ T _ (Nat.le_refl _) d1 (hJ _ _ _ _ hj (On.putObj _ _ _ _ d2)) ((World.putObj_heap_other (by omega)).trans f2)⟩
end Go.Proofs.Ytpniiaemgobaiaa

/-
  A range over a function whose round lays its variable in a block of its own (a struct): XRange's law, with what the assignment lays.
-/
import Derived.Test.YtgikjopmijomgabRange
namespace Go.Proofs.Ytgikjopmijomgab
open Go Go.RowKit
set_option linter.unusedVariables false
set_option maxRecDepth 100000
variable {F : Fence} {n : Nat} {P : Program}
theorem range_law2 {α : Type} {g : Operand} {ps : Array Tmp} {assign body : Code} {Q : Exit → Act → World → Prop} {a : Act} {w : World}
    (hro : F.round = none) (h1 : 1 ≤ n) {gf : Nat} {lb : Array Value} (hg : a.eval g = .func (.func gf) #[] lb) (hFg : F.fn gf) (eg : ∀ args w, (callFunc gf args).run P w = .ok (.enter gf args) w)
    {encs : α → Array Value} {H : Nat → α → World → Prop} {N : Nat} {T0 : Nat → Prop} (hit : Iter F (n - 1) P gf lb encs H N T0 w) (hps : ∀ x, (encs x).size = ps.size)
    (O : α → Obj) (hO : ∀ x, (O x).isCells = true)
    (hH : ∀ k x W l o o', H k x W → W.heap[l]? = some o → o.isCells = false → H k x (W.putObj l o'))
    (hHO : ∀ k x W, H k x W → H k x (W.alloc (O x)))
    (J : Nat → (Nat → Prop) → World → Prop) (hJ : ∀ k T A B, J k T A → On T A B → J k T B) (hT0 : ∀ b, T0 b → b < w.heap.size) (h0 : J 0 T0 w) (a₁ : α → Nat → Act)
    (hassign : ∀ (l : Nat) (x : α) (W : World) (b : Nat) (K : Act → World → Prop), b = W.heap.size → K (a₁ x b) (W.alloc (O x)) →
      assign.wpIn (F.inRound l) (n - 1 - 1) P (Exit.then K (fun _ _ _ => False)) { tmps := (ps.zip (encs x)).foldl (fun t (p, v) => t.setIfInBounds p v) a.tmps, defers := [] } W)
    (hbody : ∀ (l k : Nat) (T : Nat → Prop) (x : α) (b : Nat) (W : World), k < N → J k T W → H k x W → W.heap[b]? = some (O x) → (∀ c, T c → c < b) → b + 1 = W.heap.size → body.wpIn (F.inRound l) (n - 1 - 1) P (roundEnd J k T W) (a₁ x b) W)
    (hdone : ∀ (D : Nat) (T : Nat → Prop) (W : World), w.heap.size ≤ D → ¬ T D → J N T W → W.heap[D]? = some (.deferred (some [])) → Q .normal { a with defers := { target := .collected D, args := #[] } :: a.defers } W) :
    (Code.rangeFunc g ps assign body).wpIn F n P Q a w := by
  refine wpIn_rangeFunc fun fn hfn => ?_
  rw [hro]
  let rec' : LoopState → Option Code → Loop := fun st pe => { state := st, pending := pe, fn, tmps := a.tmps, params := ps, assign, body, defers := w.heap.size }
  have hD : (w.alloc (.deferred (some []))).heap.size = w.heap.size + 1 := World.size_alloc _ _
  let W1 := (w.alloc (.deferred (some []))).alloc (.loop (rec' .ready none))
  let l := w.heap.size + 1
  have eL : W1.heap[l]? = some (.loop (rec' .ready none)) := by
    have := World.alloc_heap_new (w.alloc (.deferred (some []))) (.loop (rec' .ready none)); rwa [hD] at this
  have eD : W1.heap[w.heap.size]? = some (.deferred (some [])) := (Below.heap_alloc _ _ _ (by omega)).trans (World.alloc_heap_new w _)
  have hW : ∀ T, On T w W1 := fun T => ((On.refl T w).alloc _).alloc _
  refine ⟨l, _, W1, { target := .fn (.func gf) lb, args := #[.func (.yield l) #[] #[]] }, W1, gf, #[.func (.yield l) #[] #[]] ++ lb, W1, run_enterLoop_outer _ _ _ _ _, ?_, ?_, ?_, fun _ => h1, ?_⟩
  · simp only [resolve, hg]; simp [go_sem, l]
  · intro f' hf'; simp [Target.leads] at hf'; subst hf'; exact hFg
  · simp [invoke, go_sem, eg]
  let K : Nat → (Nat → Prop) → World → Prop := fun k U W => ∃ T : Nat → Prop, J k T W ∧ ¬ T w.heap.size ∧ ¬ T l ∧ (∀ b, T b → U b) ∧ U w.heap.size ∧ U l ∧ (∀ b, U b → T b ∨ b = w.heap.size ∨ b = l) ∧ W.heap[l]? = some (.loop (rec' .ready none)) ∧ W.heap[w.heap.size]? = some (.deferred (some [])) ∧ ∀ b, T b → b < W.heap.size
  refine (hit l W1 K (hW _) ?_ ?_ ⟨fun b => T0 b ∨ b = w.heap.size ∨ b = l, ⟨T0, hJ _ _ _ _ h0 (hW _), fun h => Nat.lt_irrefl _ (hT0 _ h), fun h => by have := hT0 _ h; omega, fun b h => .inl h, .inr (.inl rfl), .inr (.inr rfl), fun b h => h, eL, eD, fun b h => by have := hT0 b h; have := (hW (fun _ => True)).size; omega⟩, ?_⟩).mono ?_
  · rintro k U A B ⟨T, hj, d1, d2, s1, u1, u2, s2, f1, f2, tl⟩ hAB
    have b1 := (Array.getElem?_eq_some_iff.1 f1).1; have b2 := (Array.getElem?_eq_some_iff.1 f2).1
    exact ⟨T, hJ _ _ _ _ hj (hAB.mono fun b t _ => s1 b t), d1, d2, s1, u1, u2, s2, (hAB.block _ u2 b1).trans f1, (hAB.block _ u1 b2).trans f2, fun b t => Nat.lt_of_lt_of_le (tl b t) hAB.size⟩
  · rintro k U x W hk ⟨T, hj, d1, d2, s1, u1, u2, s2, f1, f2, tl⟩ hx
    have b1 := (Array.getElem?_eq_some_iff.1 f1).1; have b2 := (Array.getElem?_eq_some_iff.1 f2).1
    have hal : On (fun _ => True) W (W.alloc (O x)) := (On.refl _ W).alloc _
    have f1' : (W.alloc (O x)).heap[l]? = some (.loop (rec' .ready none)) := (hal.block l trivial b1).trans f1
    have f2' : (W.alloc (O x)).heap[w.heap.size]? = some (.deferred (some [])) := (hal.block _ trivial b2).trans f2
    have hj' : J k T (W.alloc (O x)) := hJ _ _ _ _ hj (hal.mono fun _ _ _ => trivial)
    have hx' := hHO k x W hx
    have hxb : (W.alloc (O x)).heap[W.heap.size]? = some (O x) := World.alloc_heap_new W _
    have hxl : W.heap.size ≠ l := fun e => by rw [e] at hxb; rw [hxb] at f1'; have := hO x; rw [Option.some.inj f1'] at this; cases this
    have b1' := (Array.getElem?_eq_some_iff.1 f1').1; have b2' := (Array.getElem?_eq_some_iff.1 f2').1
    have hsz : (W.alloc (O x)).heap.size = W.heap.size + 1 := World.size_alloc _ _
    refine ⟨fn, _, assign, body, run_yield (P := P) (args := encs x) f1 (hps x), roundIn_of_wpIn hfn (hassign l x W W.heap.size _ rfl ⟨_, run_beginRound f1' rfl, ?_⟩)⟩
    generalize hV : W.alloc (O x) = V at *
    have o1 : On T V (V.putObj l (.loop (rec' .busy none))) := On.putObj _ _ _ _ d2
    refine wpIn_mono (hbody l k T x W.heap.size (V.putObj l (.loop (rec' .busy none))) hk (hJ _ _ _ _ hj' o1) (hH _ _ _ _ _ _ hx' f1' rfl) ((World.putObj_heap_other hxl).trans hxb) tl (by simp [hsz])) ?_
    intro e a3 W3 hp
    cases e with
    | normal =>
      obtain ⟨T', hj'', ho, ht⟩ := hp
      have g1 : W3.heap[l]? = some (.loop (rec' .busy none)) := (ho.block l d2 (by simpa using b1')).trans (World.putObj_heap_same b1')
      have g2 : W3.heap[w.heap.size]? = some (.deferred (some [])) := (ho.block _ d1 (by simpa using b2')).trans ((World.putObj_heap_other (by omega)).trans f2')
      have q1 : ¬ T' l := fun h => (ht l h).1.elim d2 (fun h => by simp at h; omega)
      have q2 : ¬ T' w.heap.size := fun h => (ht _ h).1.elim d1 (fun h => by simp at h; omega)
      have b3 := (Array.getElem?_eq_some_iff.1 g1).1
      refine ⟨_, _, run_endRound (P := P) none g1, rfl, fun b => T' b ∨ b = w.heap.size ∨ b = l, ⟨T', hJ _ _ _ _ hj'' (On.putObj _ _ _ _ q1), q2, q1, fun b h => .inl h, .inr (.inl rfl), .inr (.inr rfl), fun b h => h, World.putObj_heap_same b3, (World.putObj_heap_other (by omega)).trans g2, fun b t => by have := (ht b t).2; simpa using this⟩, ?_, ?_⟩
      · have v : ¬ ¬ U l := fun h => h u2
        exact (((hal.mono fun _ _ _ => trivial).trans (On.putObj _ _ _ _ v)).trans (ho.mono fun b h _ t => h (s1 b t))).trans (On.putObj _ _ _ _ v)
      · rintro b (h | rfl | rfl)
        · have hb3 := (ht b h).2
          rcases (ht b h).1 with h | h
          · exact ⟨.inl (s1 b h), by simpa using hb3⟩
          · exact ⟨.inr (by simp at h; omega), by simpa using hb3⟩
        · exact ⟨.inl u1, by simpa using (Array.getElem?_eq_some_iff.1 g2).1⟩
        · exact ⟨.inl u2, by simpa using b3⟩
    | ret => exact hp.elim
    | exit id => exact hp.elim
    | goto t => exact hp.elim
    | panic ch => exact hp.elim
    | outgrown => exact hp.elim
  · have hs := (hW (fun _ => True)).size
    have b1 := (Array.getElem?_eq_some_iff.1 eL).1; have b2 := (Array.getElem?_eq_some_iff.1 eD).1
    rintro b (h | h | h)
    · exact ⟨.inl h, by have := hT0 b h; omega⟩
    · exact ⟨.inr (by omega), by omega⟩
    · exact ⟨.inr (by omega), by omega⟩
  · rintro e W2 ⟨⟨v, rfl⟩, U, T, hj, d1, d2, s1, u1, u2, s2, f1, f2, tl⟩
    exact ⟨none, _, run_endLoop (P := P) f1 (by simp [rec']), hdone _ T _ (Nat.le_refl _) d1 (hJ _ _ _ _ hj (On.putObj _ _ _ _ d2)) ((World.putObj_heap_other (by omega)).trans f2)⟩
end Go.Proofs.Ytgikjopmijomgab

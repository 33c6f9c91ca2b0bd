/-
  Cells that a call may write, from anywhere in a block: views of them; several that lie apart.
-/
import Derived.Test.YtpniiaemgobaiaaOwnV
import Derived.Test.YtpniiaemgobaiaaStructs
import Derived.Test.YtpniiaemgobaiaaMid
namespace Go.Proofs.Ytpniiaemgobaiaa
open Go.RowKit
set_option linter.unusedVariables false
set_option maxRecDepth 100000
def upf {α : Type} (f : Nat → α) (i : Nat) (x : α) : Nat → α := fun j => if j = i then x else f j
theorem upf_other {α : Type} (f : Nat → α) (i j : Nat) (x : α) (h : j ≠ i) : upf f i x j = f j := by unfold upf; rw [if_neg h]
theorem upf_self {α : Type} (f : Nat → α) (i : Nat) (x : α) : upf f i x i = x := by unfold upf; rw [if_pos rfl]
/-- of what was there nothing but the blocks of S is turned -/
structure Trn (S : Nat → Prop) (w w1 : World) : Prop where
  os : w1.os = w.os
  tape : w1.tape = w.tape
  output : w1.output = w.output
  size : w.heap.size ≤ w1.heap.size
  block : ∀ k, k < w.heap.size → ¬ S k → w1.heap[k]? = w.heap[k]?
theorem Trn.refl (S : Nat → Prop) (w : World) : Trn S w w := ⟨rfl, rfl, rfl, Nat.le_refl _, fun _ _ _ => rfl⟩
theorem Trn.trans {S : Nat → Prop} {u v w : World} (h : Trn S u v) (k : Trn S v w) : Trn S u w :=
  ⟨k.os.trans h.os, k.tape.trans h.tape, k.output.trans h.output, Nat.le_trans h.size k.size, fun i hi hn => (k.block i (Nat.lt_of_lt_of_le hi h.size) hn).trans (h.block i hi hn)⟩
theorem Trn.mono {S T : Nat → Prop} {u v : World} (h : Trn S u v) (hS : ∀ k, k < u.heap.size → S k → T k) : Trn T u v := ⟨h.os, h.tape, h.output, h.size, fun k hk hn => h.block k hk fun hs => hn (hS k hk hs)⟩
theorem Trn.of_below {S : Nat → Prop} {u v : World} (h : Below u.heap.size u v) : Trn S u v := ⟨h.os, h.tape, h.output, h.size, fun k hk _ => h.block k hk⟩
theorem Trn.of_grown {S : Nat → Prop} {u v : World} {r : Option Nat} (h : u.grownBy v r) (hr : ∀ k, r = some k → S k) : Trn S u v := ⟨h.os, h.tape, h.output, h.size, fun k hk hn => h.block k hk fun e => hn (hr k e.symm)⟩
theorem Trn.set {S : Nat → Prop} (w : World) (g o : Nat) (x : Value) (hg : S g) : Trn S w (w.setCell ⟨g, o, none⟩ x) := Trn.of_grown (grownBy_setCell1 w g o x) fun k e => by cases e; exact hg
theorem Trn.alloc {S : Nat → Prop} (w : World) (A : Obj) : Trn S w (w.alloc A) := Trn.of_grown (World.grownBy_alloc w A none) fun k e => by cases e
theorem Trn.below {S : Nat → Prop} {u v : World} {B : Nat} (h : Trn S u v) (hS : ∀ k, S k → B ≤ k) (hB : B ≤ u.heap.size) : Below B u v := ⟨h.os, h.tape, h.output, h.size, fun k hk => h.block k (by omega) fun hs => by have := hS k hs; omega⟩
theorem Trn.cell {S : Nat → Prop} {u v : World} {b o : Nat} {x : Value} (h : Trn S u v) (hc : u.cell? ⟨b, o, none⟩ = some x) (hb : ¬ S b) : v.cell? ⟨b, o, none⟩ = some x :=
  (World.cell?_of_block (h.block b (block_lt_of_cell hc) hb)).trans hc
/-- V, from a on, may be written -/
def Wr (w : World) (a : Option Addr) (V : List Value) : Prop :=
  V = [] ∨ ∃ g off, a = some ⟨g, off, none⟩ ∧ ValsAt w g off V ∧ ∀ i, w.frozen? ⟨g, i, none⟩ = false
/-- the block of what holds n of something -/
def blkO (a : Option Addr) (n : Nat) : Option Nat := if n = 0 then none else a.map (·.block)
theorem blkO_some {g o n : Nat} (h : n ≠ 0) : blkO (some ⟨g, o, none⟩) n = some g := by unfold blkO; rw [if_neg h]; rfl
theorem frozen_of_block {w w1 : World} {g i : Nat} (h : w1.heap[g]? = w.heap[g]?) : w1.frozen? ⟨g, i, none⟩ = w.frozen? ⟨g, i, none⟩ := by
  unfold World.frozen?; simp only [h]
section
variable {w w1 : World} {a : Option Addr} {V : List Value}
theorem Wr.vals (h : Wr w a V) : Vals w a V := by
  rcases h with h | ⟨g, off, e, h, _⟩
  · exact .inl h
  · exact .inr ⟨g, off, e, h⟩
theorem Wr.nil (w : World) (a : Option Addr) : Wr w a [] := .inl rfl
theorem Wr.at (h : Wr w a V) (i : Nat) (hi : i < V.length) : ∃ g off, a = some ⟨g, off, none⟩ ∧ g < w.heap.size ∧ ValsAt w g off V ∧ ∀ i, w.frozen? ⟨g, i, none⟩ = false := by
  rcases h with rfl | ⟨g, off, e, h, hf⟩
  · simp at hi
  · exact ⟨g, off, e, block_lt_of_cell (h i hi), h, hf⟩
theorem Wr.on (h : Wr w a V) (hb : V ≠ [] → ∀ g o, a = some ⟨g, o, none⟩ → g < w.heap.size → w1.heap[g]? = w.heap[g]?) : Wr w1 a V := by
  by_cases e : V = []
  · exact .inl e
  · obtain ⟨g, off, rfl, hlt, hv, hf⟩ := h.at 0 (by cases V <;> simp_all)
    have hg := hb e g off rfl hlt
    exact .inr ⟨g, off, rfl, fun i hi => (World.cell?_of_block hg).trans (hv i hi), fun i => (frozen_of_block hg).trans (hf i)⟩
theorem Wr.kept (h : Wr w a V) (hb : Below w.heap.size w w1) : Wr w1 a V := h.on fun _ g o _ hlt => hb.block g hlt
theorem Wr.grown {r : Option Nat} (h : Wr w a V) (hg : w.grownBy w1 r) (hr : V ≠ [] → ∀ g o, a = some ⟨g, o, none⟩ → r ≠ some g) : Wr w1 a V :=
  h.on fun e g o ha hlt => hg.block g hlt fun e2 => hr e g o ha e2.symm
theorem Wr.trn {S : Nat → Prop} (h : Wr w a V) (ht : Trn S w w1) (hS : V ≠ [] → ∀ g o, a = some ⟨g, o, none⟩ → ¬ S g) : Wr w1 a V := h.on fun e g o ha hlt => ht.block g hlt (hS e g o ha)
theorem Wr.mid {B C : Nat} (h : Wr w a V) (hm : Mid B C w w1) (hr : V ≠ [] → ∀ g o, a = some ⟨g, o, none⟩ → g < B ∨ C ≤ g) : Wr w1 a V :=
  h.on fun e g o ha hlt => hm.block g hlt (hr e g o ha)
theorem Wr.set {g off : Nat} (h : Wr w (some ⟨g, off, none⟩) V) (i : Nat) (x : Value) (hi : i < V.length) : Wr (w.setCell ⟨g, off + i, none⟩ x) (some ⟨g, off, none⟩) (V.set i x) := by
  obtain ⟨g', off', e, _, hv, hf⟩ := h.at i hi
  cases e
  refine .inr ⟨g, off, rfl, fun j hj => ?_, fun j => by rw [World.frozen?_setCell]; exact hf j⟩
  have hj' : j < V.length := by simpa using hj
  rw [valAt_set V i j x hi]
  by_cases e : i = j
  · subst e; rw [if_pos rfl]; exact World.cell?_setCell_same w _ _ (hv i hi)
  · rw [if_neg e, World.cell?_setCell_other w _ _ _ (by intro e2; apply e; simp only [Addr.mk.injEq] at e2; omega)]; exact hv j hj'
theorem Wr.set_grown (g o : Nat) (x : Value) : w.grownBy (w.setCell ⟨g, o, none⟩ x) (some g) := grownBy_setCell1 w g o x
theorem OwnV.wr {e m B n cap : Nat} (h : OwnV e m w B a n cap V) : Wr w a V := by
  rcases h.vals with h0 | ⟨g, off, rfl, hv⟩
  · exact .inl h0
  · by_cases e0 : V = []
    · exact .inl e0
    · have hn : 0 < n := by
        rcases Nat.eq_zero_or_pos n with rfl | h1
        · exfalso; apply e0; apply List.eq_nil_of_length_eq_zero; rw [h.len, Nat.zero_mul]
        · exact h1
      obtain ⟨g', e, _, _⟩ := h.head 0 hn
      cases e
      exact .inr ⟨g, 0, rfl, hv, fun i => h.frozen i⟩
end
/-- numbers that may be written -/
def WrI (w : World) (a : Option Addr) (L : List Int) : Prop := Wr w a (L.map (Value.int .i64))
theorem valAt_map (L : List Int) (i : Nat) (h : i < L.length) : valAt (L.map (Value.int .i64)) i = .int .i64 (intAt L i) := by
  simp [valAt, intAt, List.getD_eq_getElem?_getD, h]
theorem ValsAt.ints {w : World} {b off : Nat} {L : List Int} (h : ValsAt w b off (L.map (Value.int .i64))) : IntsAt w b off L := fun i hi => by
  have := h i (by simpa using hi); rwa [valAt_map L i hi] at this
theorem WrI.ints {w : World} {a : Option Addr} {L : List Int} (h : WrI w a L) : Ints w a L := by
  rcases h with h | ⟨g, off, e, h, _⟩
  · exact .inl (by simpa using h)
  · exact .inr ⟨g, off, e, h.ints⟩
theorem OwnM.v {w : World} {a : Option Addr} {L : List Int} {e m B n cap : Nat} (h : OwnM e m w B a n cap L) : OwnV e m w B a n cap (L.map (Value.int .i64)) := ⟨by rw [List.length_map]; exact h.1, h.2⟩
theorem OwnN.v {w : World} {a : Option Addr} {L : List Int} {B n cap : Nat} (h : OwnN w B a n cap L) : OwnV 2 1 w B a n cap (L.map (Value.int .i64)) := ⟨by rw [List.length_map, h.1, Nat.mul_one], h.2⟩
theorem WrI.set {w : World} {g off : Nat} {L : List Int} (h : WrI w (some ⟨g, off, none⟩) L) (i : Nat) (x : Int) (hi : i < L.length) : WrI (w.setCell ⟨g, off + i, none⟩ (.int .i64 x)) (some ⟨g, off, none⟩) (L.set i x) := by
  have := Wr.set h i (.int .i64 x) (by simpa using hi)
  unfold WrI; rw [List.map_set]; exact this
/-- m of them, from block B on and below E where there is something in them, no two in one block -/
structure Lies (B E m : Nat) (A : Nat → Option Addr) (N : Nat → Nat) : Prop where
  inn : ∀ i, i < m → N i ≠ 0 → ∃ g o, A i = some ⟨g, o, none⟩ ∧ B ≤ g ∧ g < E
  apart : ∀ i j, i < j → j < m → N i ≠ 0 → N j ≠ 0 → ∀ g o g' o', A i = some ⟨g, o, none⟩ → A j = some ⟨g', o', none⟩ → g ≠ g'
theorem Lies.ne {B E m : Nat} {A : Nat → Option Addr} {N : Nat → Nat} (h : Lies B E m A N) {i j : Nat} (hi : i < m) (hj : j < m) (hij : i ≠ j) (ni : N i ≠ 0) (nj : N j ≠ 0) {g o g' o' : Nat} (e1 : A i = some ⟨g, o, none⟩) (e2 : A j = some ⟨g', o', none⟩) : g ≠ g' := by
  by_cases h1 : i < j
  · exact h.apart i j h1 hj ni nj g o g' o' e1 e2
  · exact fun e => h.apart j i (by omega) hi nj ni g' o' g o e2 e1 e.symm
theorem Lies.zero (B E : Nat) (A : Nat → Option Addr) (N : Nat → Nat) : Lies B E 0 A N := ⟨fun _ h => by omega, fun _ _ _ h => by omega⟩
theorem Lies.wide {B E B' E' m : Nat} {A : Nat → Option Addr} {N : Nat → Nat} (h : Lies B E m A N) (hB : B' ≤ B) (hE : E ≤ E') : Lies B' E' m A N :=
  ⟨fun i hi hn => by obtain ⟨g, o, e, h1, h2⟩ := h.inn i hi hn; exact ⟨g, o, e, by omega, by omega⟩, h.apart⟩
theorem Lies.len {B E m : Nat} {A : Nat → Option Addr} {N N' : Nat → Nat} (h : Lies B E m A N) (hN : ∀ i, i < m → N' i ≠ 0 → N i ≠ 0) : Lies B E m A N' :=
  ⟨fun i hi hn => h.inn i hi (hN i hi hn), fun i j hij hj ni nj => h.apart i j hij hj (hN i (by omega) ni) (hN j hj nj)⟩
theorem Lies.congr {B E m : Nat} {A A' : Nat → Option Addr} {N N' : Nat → Nat} (h : Lies B E m A N) (hA : ∀ i, i < m → A' i = A i) (hN : ∀ i, i < m → N' i = N i) : Lies B E m A' N' :=
  ⟨fun i hi hn => by rw [hA i hi]; exact h.inn i hi (by rw [← hN i hi]; exact hn), fun i j hij hj ni nj g o g' o' e1 e2 => h.apart i j hij hj (by rw [← hN i (by omega)]; exact ni) (by rw [← hN j hj]; exact nj) g o g' o' (by rw [← hA i (by omega)]; exact e1) (by rw [← hA j hj]; exact e2)⟩
/-- one more, in a block from C on, behind all others -/
theorem Lies.more {B C E m : Nat} {A : Nat → Option Addr} {N : Nat → Nat} (h : Lies B C m A N) (hB : B ≤ C) (hE : C ≤ E) (hm : N m ≠ 0 → ∃ g o, A m = some ⟨g, o, none⟩ ∧ C ≤ g ∧ g < E) : Lies B E (m + 1) A N := by
  refine ⟨fun i hi hn => ?_, fun i j hij hj ni nj g o g' o' e1 e2 => ?_⟩
  · by_cases e : i = m
    · subst e; obtain ⟨g, o, e1, h1, h2⟩ := hm hn; exact ⟨g, o, e1, by omega, h2⟩
    · obtain ⟨g, o, e1, h1, h2⟩ := h.inn i (by omega) hn; exact ⟨g, o, e1, h1, by omega⟩
  · by_cases e : j = m
    · subst e
      obtain ⟨g2, o2, q1, q2, q3⟩ := hm nj
      rw [q1] at e2; cases e2
      obtain ⟨g3, o3, r1, r2, r3⟩ := h.inn i hij ni
      rw [r1] at e1; cases e1
      omega
    · exact h.apart i j hij (by omega) ni nj g o g' o' e1 e2
theorem OwnV.form0 {e m : Nat} {w : World} {B n cap : Nat} {a : Option Addr} {V : List Value} (h : OwnV e m w B a n cap V) : (a = none ∧ n = 0 ∧ cap = 0) ∨ ∃ g, a = some ⟨g, 0, none⟩ ∧ n ≤ cap := by
  rcases h.2.2 with ⟨hv, h0⟩ | ⟨g, c, cur, hv, _, _, hnc, _⟩
  · simp only [Value.slice.injEq] at hv
    exact .inl ⟨hv.1, hv.2.1, hv.2.2⟩
  · simp only [Value.slice.injEq] at hv
    exact .inr ⟨g, hv.1, by omega⟩
theorem OwnV.lie {e m : Nat} {w : World} {B n cap : Nat} {a : Option Addr} {V : List Value} (h : OwnV e m w B a n cap V) (hn : n ≠ 0) : ∃ g o, a = some ⟨g, o, none⟩ ∧ B ≤ g ∧ g < w.heap.size := by
  obtain ⟨g, e, h1, h2⟩ := h.head 0 (by omega); exact ⟨g, 0, e, h1, h2⟩
end Go.Proofs.Ytpniiaemgobaiaa

/-
  What is turned lies between two bounds.
-/
import Derived.Test.YtpniiaemgobaiaaInts
namespace Go.Proofs.Ytpniiaemgobaiaa
open Go.RowKit
set_option linter.unusedVariables false
set_option maxRecDepth 100000
/-- nothing but blocks from B on and below C is turned -/
structure Mid (B C : Nat) (w w' : World) : Prop where
  os : w'.os = w.os
  tape : w'.tape = w.tape
  output : w'.output = w.output
  size : w.heap.size ≤ w'.heap.size
  block : ∀ k, k < w.heap.size → (k < B ∨ C ≤ k) → w'.heap[k]? = w.heap[k]?
theorem Mid.refl (B C : Nat) (w : World) : Mid B C w w := ⟨rfl, rfl, rfl, Nat.le_refl _, fun _ _ _ => rfl⟩
theorem Mid.trans {B C : Nat} {u v w : World} (h : Mid B C u v) (k : Mid B C v w) : Mid B C u w :=
  ⟨k.os.trans h.os, k.tape.trans h.tape, k.output.trans h.output, Nat.le_trans h.size k.size, fun i hi ho => (k.block i (Nat.lt_of_lt_of_le hi h.size) ho).trans (h.block i hi ho)⟩
theorem Mid.below {B C : Nat} {u v : World} (h : Mid B C u v) (hB : B ≤ u.heap.size) : Below B u v := ⟨h.os, h.tape, h.output, h.size, fun k hk => h.block k (by omega) (.inl hk)⟩
theorem Mid.of_grown {B C : Nat} {u v : World} {r : Option Nat} (h : u.grownBy v r) (hr : ∀ k, r = some k → B ≤ k ∧ k < C) : Mid B C u v :=
  ⟨h.os, h.tape, h.output, h.size, fun k hk ho => h.block k hk fun e => by have := hr k e.symm; omega⟩
theorem Mid.cell {B C : Nat} {u v : World} {b o : Nat} {x : Value} (h : Mid B C u v) (hc : u.cell? ⟨b, o, none⟩ = some x) (hb : b < B ∨ C ≤ b) : v.cell? ⟨b, o, none⟩ = some x :=
  (World.cell?_of_block (h.block b (block_lt_of_cell hc) hb)).trans hc
theorem Mid.ints {B C : Nat} {u v : World} {a : Option Addr} {n cap D : Nat} {L : List Int} (h : Mid B C u v) (ho : OwnN u D a n cap L) (hD : C ≤ D) : OwnN v D a n cap L := by
  refine ⟨ho.1, ho.2.1, ?_⟩
  rcases ho.2.2 with h0 | ⟨g, c, cur, hv, hb, hg, r⟩
  · exact .inl h0
  · exact .inr ⟨g, c, cur, hv, hb, (h.block g (lt_of_block hg) (.inr (Nat.le_trans hD hb))).trans hg, r⟩
end Go.Proofs.Ytpniiaemgobaiaa

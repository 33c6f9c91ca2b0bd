/-
  The reader of drawn bytes: whatever it draws, it turns its own block alone.
-/
import Derived.Test.YtpniiaemgobaiaaBytes
import Derived.Outline
namespace Go.Proofs.Ytpniiaemgobaiaa
open Go.RowKit
set_option linter.unusedVariables false
set_option maxRecDepth 100000
theorem grownBy_trans {w w1 w2 : World} {r : Option Nat} (h : w.grownBy w1 r) (h2 : w1.grownBy w2 r) : w.grownBy w2 r :=
  ⟨h2.os.trans h.os, h2.tape.trans h.tape, h2.output.trans h.output, Nat.le_trans h.size h2.size, fun k hk hne => (h2.block k (Nat.lt_of_lt_of_le hk h.size) hne).trans (h.block k hk hne)⟩
theorem grownBy_drewN {w w1 : World} {r : Option Nat} (h : w.grownBy w1 r) (n : Nat) : w.grownBy (w1.drewN n) r := ⟨h.os, h.tape, h.output, h.size, h.block⟩
theorem grownBy_setCell (w : World) (R o : Nat) (v : Value) : w.grownBy (w.setCell ⟨R, o, none⟩ v) (some R) :=
  ⟨rfl, rfl, rfl, by simp [World.setCell], fun k _ hne => heap_setCell_other w ⟨R, o, none⟩ k v (fun e => hne (by rw [e]))⟩
theorem isRow_kept {k : IntKind} {w w1 : World} {a : Option Addr} {len cap : Nat} {z : List Int} {R : Nat} (h : IsRow k w a len cap z) (hR : R ≤ w.heap.size) (hb : ∀ x, a = some x → 0 < z.length → x.block < R) (hg : ∀ j, j < R → w1.heap[j]? = w.heap[j]?) : IsRow k w1 a len cap z := by
  rcases h with h | ⟨x, rfl, h1, h2, h3, h4, h5⟩
  · exact .inl h
  · refine .inr ⟨x, rfl, h1, h2, h3, fun i hi => ?_, h5⟩
    have hx := hb x rfl (by omega)
    have e : (x.add i).block = x.block := by unfold Addr.add; split <;> rfl
    rw [← h4 i hi]
    exact World.cell?_of_block (by rw [e]; exact hg _ hx)
/-- a step that writes to new blocks alone -/
theorem grownBy_own {w wa wb : World} {R : Nat} {row : Option Nat} (h : w.grownBy wa (some R)) (h2 : wa.grownBy wb row) (hr : ∀ k, row = some k → w.heap.size ≤ k) : w.grownBy wb (some R) :=
  ⟨h2.os.trans h.os, h2.tape.trans h.tape, h2.output.trans h.output, Nat.le_trans h.size h2.size, fun k hk hne => (h2.block k (Nat.lt_of_lt_of_le hk h.size) (fun e => by have := hr k e.symm; omega)).trans (h.block k hk hne)⟩
theorem grownBy_alloc {w wa : World} {R : Nat} (h : w.grownBy wa (some R)) (o : Obj) : w.grownBy (wa.alloc o) (some R) := grownBy_trans h (World.grownBy_alloc wa o _)
/-- one element of a literal that was laid ahead of a draw -/
theorem pick_any {p : Value → Prop} {w w2 : World} {R k : Nat} {cs : Array Value} {t : TypeId} (hg : (w.alloc (.cells cs t)).grownBy w2 (some R)) (hR : R < w.heap.size) (hk : k < cs.size) (hall : ∀ v ∈ cs.toList, p v) :
    ∃ v, w2.cell? ⟨w.heap.size, k, none⟩ = some v ∧ p v := by
  refine ⟨cs[k], hg.cell (by rw [World.cell?_alloc_new]; simp [hk]) (by simp; omega), hall _ (by simp)⟩
theorem byte_range (b : UInt8) : -9223372036854775808 ≤ (b.toNat : Int) ∧ (b.toNat : Int) ≤ 9223372036854775807 := by have := b.toNat_lt; omega
theorem isRow_lt {k : IntKind} {w : World} {a : Option Addr} {len cap : Nat} {z : List Int} (h : IsRow k w a len cap z) : ∀ x, a = some x → 0 < z.length → x.block < w.heap.size := by
  intro x hx hz
  rcases h with ⟨rfl, _⟩ | ⟨y, rfl, h1, h2, h3, h4, h5⟩
  · cases hx
  · cases hx
    have := block_lt_of_cell (h4 0 hz)
    have e : (x.add 0).block = x.block := by unfold Addr.add; split <;> rfl
    omega
theorem isRow_below {k : IntKind} {w w1 : World} {a : Option Addr} {len cap : Nat} {z : List Int} (h : IsRow k w a len cap z) (hb : Below w.heap.size w w1) : IsRow k w1 a len cap z :=
  isRow_kept h (Nat.le_refl _) (isRow_lt h) (fun j hj => hb.block j hj)
theorem below_rd {w w1 w2 : World} (h : Below w.heap.size w w1) (hg : w1.grownBy w2 (some w.heap.size)) : Below w.heap.size w w2 := h.grown hg h.size (fun k hk => by cases hk; exact Nat.le_refl _)
end Go.Proofs.Ytpniiaemgobaiaa

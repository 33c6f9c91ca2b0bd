/-
  Slices of structs of any one-cell fields: a call's own ones, their cells in one list of values; such slices as they are read.
-/
import Derived.Test.YtpniiaemgobaiaaInts
namespace Go.Proofs.Ytpniiaemgobaiaa
open Go.RowKit
set_option linter.unusedVariables false
set_option maxRecDepth 100000
def valAt (V : List Value) (i : Nat) : Value := V.getD i (.bool false)
theorem valAt_left {V X : List Value} {j : Nat} (h : j < V.length) : valAt (V ++ X) j = valAt V j := by
  simp [valAt, List.getD_eq_getElem?_getD, List.getElem?_append_left h]
theorem valAt_right {V X : List Value} {i j : Nat} (h : i = V.length + j) : valAt (V ++ X) i = valAt X j := by
  subst h; simp [valAt, List.getD_eq_getElem?_getD, List.getElem?_append_right]
theorem valAt_set (V : List Value) (i j : Nat) (x : Value) (h : i < V.length) : valAt (V.set i x) j = if i = j then x else valAt V j := by
  simp only [valAt, List.getD_eq_getElem?_getD, List.getElem?_set]
  by_cases e : i = j
  · subst e; simp [h]
  · simp [e]
def ValsAt (w : World) (b off : Nat) (V : List Value) : Prop := ∀ i, i < V.length → w.cell? ⟨b, off + i, none⟩ = some (valAt V i)
/-- a slice whose cells read as V -/
def Vals (w : World) (a : Option Addr) (V : List Value) : Prop := V = [] ∨ ∃ b off, a = some ⟨b, off, none⟩ ∧ ValsAt w b off V
theorem Vals.at {w : World} {a : Option Addr} {V : List Value} (h : Vals w a V) (i : Nat) (hi : i < V.length) : ∃ b off, a = some ⟨b, off, none⟩ ∧ ValsAt w b off V := by
  rcases h with rfl | h
  · simp at hi
  · exact h
theorem ValsAt.kept {w w1 : World} {b off : Nat} {V : List Value} (h : ValsAt w b off V) (hb : Below w.heap.size w w1) : ValsAt w1 b off V := by
  intro i hi
  have h0 := h i hi
  have hlt : b < w.heap.size := block_lt_of_cell h0
  exact (hb.cell (p := ⟨b, _, none⟩) hlt).trans h0
theorem Vals.kept {w w1 : World} {a : Option Addr} {V : List Value} (h : Vals w a V) (hb : Below w.heap.size w w1) : Vals w1 a V := by
  rcases h with rfl | ⟨b, off, rfl, h⟩
  · exact .inl rfl
  · exact .inr ⟨b, off, rfl, h.kept hb⟩
/-- a slice of n structs of m cells each, all cells in one list V, that lies in memory laid from block B on -/
def OwnV (e m : Nat) (w : World) (B : Nat) (a : Option Addr) (n cap : Nat) (V : List Value) : Prop := V.length = n * m ∧ w.ownsRow B e m (.slice a n cap) n V
section
variable {e m : Nat} {w w1 : World} {B : Nat} {a : Option Addr} {n cap : Nat} {V : List Value}
theorem OwnV.len (h : OwnV e m w B a n cap V) : V.length = n * m := h.1
theorem OwnV.kept (h : OwnV e m w B a n cap V) (hb : Below w.heap.size w w1) : OwnV e m w1 B a n cap V :=
  ⟨h.1, h.2.kept (grown_of_below hb none) (by cases hv : (Value.slice a n cap).ownBlock <;> simp)⟩
theorem OwnV.mono {C : Nat} (h : OwnV e m w B a n cap V) (hC : C ≤ B) : OwnV e m w C a n cap V := by
  refine ⟨h.1, h.2.1, ?_⟩
  rcases h.2.2 with h | ⟨g, c, cur, h1, h2, r⟩
  · exact .inl h
  · exact .inr ⟨g, c, cur, h1, Nat.le_trans hC h2, r⟩
theorem OwnV.vals (h : OwnV e m w B a n cap V) : Vals w a V := by
  obtain ⟨hl, h⟩ := h
  rcases h.2 with ⟨hv, h0⟩ | ⟨g, cap', cur, hv, hb, hg, r⟩
  · exact .inl (List.eq_nil_of_length_eq_zero (by rw [hl, h0, Nat.zero_mul]))
  · simp only [Value.slice.injEq] at hv
    obtain ⟨rfl, _, rfl⟩ := hv
    refine .inr ⟨g, 0, rfl, fun i hi => ?_⟩
    rw [Nat.zero_add, h.cellAt i (by rw [← hl]; exact hi)]
    simp [valAt, List.getD_eq_getElem?_getD, List.getElem?_eq_getElem hi]
theorem OwnV.head (h : OwnV e m w B a n cap V) (i : Nat) (hi : i < n) : ∃ g, a = some ⟨g, 0, none⟩ ∧ B ≤ g ∧ g < w.heap.size := by
  rcases h.2.2 with ⟨hv, h0⟩ | ⟨g, cap', cur, hv, hb, hg, r⟩
  · omega
  · simp only [Value.slice.injEq] at hv
    exact ⟨g, hv.1, hb, lt_of_block hg⟩
theorem OwnV.cell {g : Nat} (h : OwnV e m w B (some ⟨g, 0, none⟩) n cap V) (i : Nat) (hi : i < n * m) : w.cell? ⟨g, i, none⟩ = some (valAt V i) := by
  obtain ⟨hl, h⟩ := h
  have hi2 : i < V.length := by rw [hl]; exact hi
  rw [h.cellAt i hi]
  simp [valAt, List.getD_eq_getElem?_getD, List.getElem?_eq_getElem hi2]
theorem OwnV.frozen {g : Nat} (h : OwnV e m w B (some ⟨g, 0, none⟩) n cap V) (i : Nat) : w.frozen? ⟨g, i, none⟩ = false := h.2.frozenAt i
theorem OwnV.set {g : Nat} (h : OwnV e m w B (some ⟨g, 0, none⟩) n cap V) (i : Nat) (x : Value) : OwnV e m (w.setCell ⟨g, i, none⟩ x) B (some ⟨g, 0, none⟩) n cap (V.set i x) :=
  ⟨by simpa using h.1, (h.2.stored i x).1⟩
theorem OwnV.set_grown {g : Nat} (h : OwnV e m w B (some ⟨g, 0, none⟩) n cap V) (i : Nat) (x : Value) : w.grownBy (w.setCell ⟨g, i, none⟩ x) (some g) := (h.2.stored i x).2
theorem OwnV.turn (h : OwnV e m w B a n cap V) (hB : B ≤ w.heap.size) (hg : w.grownBy w1 (Value.slice a n cap).ownBlock) : Below B w w1 :=
  (Below.refl B w).grown hg hB fun k hk => (h.2.lt k hk).1
theorem OwnV.turn_lt (h : OwnV e m w B a n cap V) : ∀ k, (Value.slice a n cap).ownBlock = some k → k < w.heap.size := fun k hk => (h.2.lt k hk).2
theorem OwnV.nil (w : World) (B : Nat) : OwnV e m w B none 0 0 [] := ⟨by simp, World.ownsRow_nil w B _ m⟩
theorem OwnV.shape {v : Value} (hV : V.length = n * m) (h : w.ownsRow B e m v n V) : ∃ a cap, v = .slice a n cap ∧ OwnV e m w B a n cap V := by
  rcases h.2 with ⟨rfl, rfl⟩ | ⟨g, cap, cur, rfl, r⟩
  · exact ⟨none, 0, rfl, hV, h⟩
  · exact ⟨some ⟨g, 0, none⟩, cap, rfl, hV, h⟩
end
theorem oneV {l : List Value} (h : l.all (·.oneCell') = true) : ∀ u ∈ l, u.oneCell' = true := List.all_eq_true.1 h
end Go.Proofs.Ytpniiaemgobaiaa

/-
  Slices of structs of numbers: a call's own ones, their cells in one list.
-/
import Derived.Test.YtpniiaemgobaiaaInts
namespace Go.Proofs.Ytpniiaemgobaiaa
open Go.RowKit
set_option linter.unusedVariables false
set_option maxRecDepth 100000
/-- a slice of n structs of m numbers each, all numbers in one list L, that lies in memory laid from block B on -/
def OwnM (e m : Nat) (w : World) (B : Nat) (a : Option Addr) (n cap : Nat) (L : List Int) : Prop := L.length = n * m ∧ w.ownsRow B e m (.slice a n cap) n (L.map (Value.int .i64))
section
variable {e m : Nat} {w w1 : World} {B : Nat} {a : Option Addr} {n cap : Nat} {L : List Int}
theorem OwnM.len (h : OwnM e m w B a n cap L) : L.length = n * m := h.1
theorem OwnM.kept (h : OwnM e m w B a n cap L) (hb : Below w.heap.size w w1) : OwnM e m w1 B a n cap L :=
  ⟨h.1, h.2.kept (grown_of_below hb none) (by cases hv : (Value.slice a n cap).ownBlock <;> simp)⟩
theorem OwnM.mono {C : Nat} (h : OwnM e m w B a n cap L) (hC : C ≤ B) : OwnM e m w C a n cap L := by
  refine ⟨h.1, h.2.1, ?_⟩
  rcases h.2.2 with h | ⟨g, c, cur, h1, h2, r⟩
  · exact .inl h
  · exact .inr ⟨g, c, cur, h1, Nat.le_trans hC h2, r⟩
theorem OwnM.ints (h : OwnM e m w B a n cap L) : Ints w a L := by
  obtain ⟨hl, h⟩ := h
  rcases h.2 with ⟨hv, h0⟩ | ⟨g, cap', cur, hv, hb, hg, r⟩
  · exact .inl (List.eq_nil_of_length_eq_zero (by rw [hl, h0, Nat.zero_mul]))
  · simp only [Value.slice.injEq] at hv
    obtain ⟨rfl, _, rfl⟩ := hv
    refine .inr ⟨g, 0, rfl, fun i hi => ?_⟩
    rw [Nat.zero_add, h.cellAt i (by rw [← hl]; exact hi)]
    simp [intAt, List.getD_eq_getElem?_getD, List.getElem?_eq_getElem hi]
theorem OwnM.head (h : OwnM e m w B a n cap L) (i : Nat) (hi : i < n) : ∃ g, a = some ⟨g, 0, none⟩ ∧ B ≤ g ∧ g < w.heap.size := by
  rcases h.2.2 with ⟨hv, h0⟩ | ⟨g, cap', cur, hv, hb, hg, r⟩
  · omega
  · simp only [Value.slice.injEq] at hv
    exact ⟨g, hv.1, hb, lt_of_block hg⟩
theorem OwnM.cell {g : Nat} (h : OwnM e m w B (some ⟨g, 0, none⟩) n cap L) (i : Nat) (hi : i < n * m) : w.cell? ⟨g, i, none⟩ = some (.int .i64 (intAt L i)) := by
  obtain ⟨hl, h⟩ := h
  have hi2 : i < L.length := by rw [hl]; exact hi
  rw [h.cellAt i hi]
  simp [intAt, List.getD_eq_getElem?_getD, List.getElem?_eq_getElem hi2]
theorem OwnM.frozen {g : Nat} (h : OwnM e m w B (some ⟨g, 0, none⟩) n cap L) (i : Nat) : w.frozen? ⟨g, i, none⟩ = false := h.2.frozenAt i
theorem OwnM.set {g : Nat} (h : OwnM e m w B (some ⟨g, 0, none⟩) n cap L) (i : Nat) (x : Int) : OwnM e m (w.setCell ⟨g, i, none⟩ (.int .i64 x)) B (some ⟨g, 0, none⟩) n cap (L.set i x) :=
  ⟨by simpa using h.1, by have := (h.2.stored i (.int .i64 x)).1; rw [List.map_set]; exact this⟩
theorem OwnM.set_grown {g : Nat} (h : OwnM e m w B (some ⟨g, 0, none⟩) n cap L) (i : Nat) (x : Int) : w.grownBy (w.setCell ⟨g, i, none⟩ (.int .i64 x)) (some g) := (h.2.stored i (.int .i64 x)).2
theorem OwnM.turn (h : OwnM e m w B a n cap L) (hB : B ≤ w.heap.size) (hg : w.grownBy w1 (Value.slice a n cap).ownBlock) : Below B w w1 :=
  (Below.refl B w).grown hg hB fun k hk => (h.2.lt k hk).1
theorem OwnM.turn_lt (h : OwnM e m w B a n cap L) : ∀ k, (Value.slice a n cap).ownBlock = some k → k < w.heap.size := fun k hk => (h.2.lt k hk).2
theorem OwnM.nil (w : World) (B : Nat) : OwnM e m w B none 0 0 [] := ⟨by simp, World.ownsRow_nil w B _ m⟩
theorem OwnM.shape {v : Value} (hL : L.length = n * m) (h : w.ownsRow B e m v n (L.map (Value.int .i64))) : ∃ a cap, v = .slice a n cap ∧ OwnM e m w B a n cap L := by
  rcases h.2 with ⟨rfl, rfl⟩ | ⟨g, cap, cur, rfl, r⟩
  · exact ⟨none, 0, rfl, hL, h⟩
  · exact ⟨some ⟨g, 0, none⟩, cap, rfl, hL, h⟩
/-- kept where its own block is as it was -/
theorem OwnM.on (h : OwnM e m w B a n cap L) (hb : ∀ g, (Value.slice a n cap).ownBlock = some g → w1.heap[g]? = w.heap[g]?) : OwnM e m w1 B a n cap L := by
  refine ⟨h.1, h.2.1, ?_⟩
  rcases h.2.2 with h | ⟨g, c, cur, h1, h2, h3, r⟩
  · exact .inl h
  · refine .inr ⟨g, c, cur, h1, h2, ?_, r⟩
    rw [hb g (by rw [h1]; rfl)]; exact h3
end
theorem pair_lt {i n : Nat} (h : i < n) : i * 2 < n * 2 ∧ i * 2 + 1 < n * 2 := by omega
end Go.Proofs.Ytpniiaemgobaiaa

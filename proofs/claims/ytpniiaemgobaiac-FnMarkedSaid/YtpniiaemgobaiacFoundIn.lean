/-
  A slice of what was found, that came in: its size, the law's copy of it (with XSesTo's text, the names turned).
-/
import Derived.Test.YtpniiaemgobaiacStructs
import Derived.Deep.RegionLaw
namespace Go.Proofs.Ytpniiaemgobaiac
open Go.RowKit
set_option linter.unusedVariables false
set_option maxRecDepth 100000
theorem found_info : (Try.prog.info? 30).map (fun i => (i.zero, i.size, i.bytes)) = some (some (.agg #[.int .i64 0, .int .i64 0, .int .i64 0]), 3, 24) := by kernel_rfl
theorem OwnM.madeF {w : World} {B : Nat} {g n : Nat} (h : w.ownsRow B 30 3 (.slice (some ⟨g, 0, none⟩) n n) n (madeCells (Value.agg #[.int .i64 0, .int .i64 0, .int .i64 0]).cells (n * 3)).toList) :
    ∃ L, OwnM 30 3 w B (some ⟨g, 0, none⟩) n n L := by
  have e : ∃ L : List Int, (madeCells (Value.agg #[.int .i64 0, .int .i64 0, .int .i64 0]).cells (n * 3)).toList = L.map (Value.int .i64) := by
    refine ⟨List.replicate (n * 3) 0, ?_⟩
    apply List.ext_getElem
    · simp [madeCells]
    · intro i h1 h2
      have hi : i < n * 3 := by simpa using h2
      have hm : i % 3 = 0 ∨ i % 3 = 1 ∨ i % 3 = 2 := by omega
      simp only [madeCells, List.getElem_map, List.getElem_replicate]
      rcases hm with hm | hm | hm <;> simp [Value.cells, hm]
  obtain ⟨L, hL⟩ := e
  rw [hL] at h
  exact ⟨L, by have := h.1; simpa using this, h⟩
end Go.Proofs.Ytpniiaemgobaiac

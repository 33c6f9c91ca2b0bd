/-
  Owned numbers are kept where their own block is.
-/
import Derived.Test.YtodmohepgmhipaaInts
namespace Go.Proofs.Ytodmohepgmhipaa
open Go.RowKit
set_option linter.unusedVariables false
set_option maxRecDepth 100000
theorem OwnN.on {w w1 : World} {B : Nat} {a : Option Addr} {n cap : Nat} {L : List Int} (h : OwnN w B a n cap L) (hb : ∀ g, (Value.slice a n cap).ownBlock = some g → w1.heap[g]? = w.heap[g]?) : OwnN w1 B a n cap L := by
  refine ⟨h.1, h.2.1, ?_⟩
  rcases h.2.2 with h | ⟨g, c, cur, h1, h2, h3, r⟩
  · exact .inl h
  · refine .inr ⟨g, c, cur, h1, h2, ?_, r⟩
    rw [hb g (by rw [h1]; rfl)]; exact h3
end Go.Proofs.Ytodmohepgmhipaa

/-
  Slices of nodes: the laws' mark on them turns what lies between two bounds only.
-/
import Derived.Test.YtodmohepgmhipaaNodesTo
import Derived.Test.YtodmohepgmhipaaMid
namespace Go.Proofs.Ytodmohepgmhipaa
open Go.RowKit
set_option linter.unusedVariables false
set_option maxRecDepth 100000
/-- n nodes in block g, whose numbers we no longer know -/
structure NSome (w : World) (B C g n : Nat) (S : Nat → Value) (M : Nat → List Int) (cur : Array Value) : Prop where
  blk : w.heap[g]? = some (.cells cur 87 (0, 0))
  siz : cur.size = n * 5
  row : ∀ i, i < n → cur[i * 5 + 3]? = some (S (i * 2)) ∧ cur[i * 5 + 4]? = some (S (i * 2 + 1))
  nest : Nest w B C g (n * 2) S M
theorem NMade.forget {w : World} {B C g n : Nat} {L : List Nd} {cur : Array Value} {S : Nat → Value} (h : NMade w B C g n n L cur S) : NSome w B C g n S (lstOf L) cur :=
  ⟨h.blk, h.siz, fun i hi => ⟨(h.row i hi).2.2.2.1, (h.row i hi).2.2.2.2⟩, h.nest⟩
theorem NSome.set {w : World} {B C g n i o : Nat} {S : Nat → Value} {M : Nat → List Int} {cur : Array Value} (h : NSome w B C g n S M cur) (v : Value) (hc : ∀ j, o ≠ j * 5 + 3 ∧ o ≠ j * 5 + 4) : NSome (w.setCell ⟨g, o, none⟩ v) B C g n S M (cur.setIfInBounds o v) :=
  ⟨heap_setCell_same _ _ _ _ _ _ h.blk, by simpa using h.siz, fun j hj => by
    simp only [Array.getElem?_setIfInBounds]
    rw [if_neg (hc j).1, if_neg (hc j).2]; exact h.row j hj, h.nest.setg _ _⟩
theorem NSome.mark {w w1 : World} {B C g n j : Nat} {S : Nat → Value} {M : Nat → List Int} {cur : Array Value} {a : Option Addr} {cap : Nat} {K : List Int} (h : NSome w B C g n S M cur) (hj : j < n * 2) (hS : S j = .slice a (M j).length cap) (hl : K.length = (M j).length)
    (ho : OwnN w1 B a (M j).length cap K) (hg : w.grownBy w1 (Value.slice a (M j).length cap).ownBlock) : NSome w1 B C g n S (updN M j K) cur :=
  ⟨(hg.block g (lt_of_block h.blk) fun e => (h.nest.lies j hj g (by rw [hS]; exact e.symm)).2 rfl).trans h.blk, h.siz, h.row, h.nest.mark hj hS hl ho hg⟩
theorem lens_upd {M : Nat → List Int} {len : Nat → Nat} {j : Nat} {K : List Int} (h : ∀ i, (M i).length = len i) (hK : K.length = (M j).length) : ∀ i, (updN M j K i).length = len i := fun i => by
  by_cases e : i = j
  · subst e; rw [updN_self, hK]; exact h i
  · rw [updN_other _ _ _ _ e]; exact h i
end Go.Proofs.Ytodmohepgmhipaa

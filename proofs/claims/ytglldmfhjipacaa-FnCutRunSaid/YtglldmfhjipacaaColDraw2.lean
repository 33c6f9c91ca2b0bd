/-
  Chapter 3: what DrawFirstCol, DrawNextCol and DrawColOk hand over.
-/
import Derived.Test.YtglldmfhjipacaaColDraw
namespace Go.Proofs.Ytglldmfhjipacaa
open Go.RowKit
set_option linter.unusedVariables false
set_option maxRecDepth 100000
theorem set3_turn (X : World) (B : Nat) (x y z : Value) : X.grownBy (((X.setCell ⟨B, 0, none⟩ x).setCell ⟨B, 1, none⟩ y).setCell ⟨B, 2, none⟩ z) (some B) :=
  grownBy_trans (grownBy_setCell X B 0 x) (grownBy_trans (grownBy_setCell _ B 1 y) (grownBy_setCell _ B 2 z))
end Go.Proofs.Ytglldmfhjipacaa

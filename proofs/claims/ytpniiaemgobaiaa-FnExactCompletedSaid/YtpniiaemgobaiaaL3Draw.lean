/-
  Drawn patterns, texts, and what chapter 3's drawers hand over, whatever they read.
-/
import Derived.Test.YtpniiaemgobaiaaRd
import Derived.Test.YtpniiaemgobaiaaInts
import Derived.Test.YtpniiaemgobaiaaL2Pat
import Derived.Deep.RegionHeld3
namespace Go.Proofs.Ytpniiaemgobaiaa
open Go.RowKit
set_option linter.unusedVariables false
set_option maxRecDepth 100000
def i64B (k : Int) : Prop := -9223372036854775808 ≤ k ∧ k ≤ 9223372036854775807
theorem set3_grown {w X : World} {R B : Nat} (h : w.grownBy X (some R)) (hB : w.heap.size ≤ B) (x y z : Value) : w.grownBy (((X.setCell ⟨B, 0, none⟩ x).setCell ⟨B, 1, none⟩ y).setCell ⟨B, 2, none⟩ z) (some R) :=
  grownBy_own (grownBy_own (grownBy_own h (grownBy_setCell X B 0 x) (fun k e => by cases e; exact hB)) (grownBy_setCell _ B 1 y) (fun k e => by cases e; exact hB)) (grownBy_setCell _ B 2 z) (fun k e => by cases e; exact hB)
theorem set3_cell {X : World} {b B i : Nat} (h : B ≠ b) (x y v : Value) : (((X.setCell ⟨b, 0, none⟩ x).setCell ⟨b, 1, none⟩ y).setCell ⟨b, 2, none⟩ v).cell? ⟨B, i, none⟩ = X.cell? ⟨B, i, none⟩ :=
  World.cell?_of_block ((Below.heap_setCell _ ⟨b, 2, none⟩ _ B h).trans ((Below.heap_setCell _ ⟨b, 1, none⟩ _ B h).trans (Below.heap_setCell _ ⟨b, 0, none⟩ _ B h)))
end Go.Proofs.Ytpniiaemgobaiaa

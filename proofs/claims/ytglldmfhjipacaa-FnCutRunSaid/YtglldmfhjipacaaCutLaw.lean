/-
  The laws' own helpers on structs of a slice of int64 and a number (Cut).
-/
import Derived.Test.YtglldmfhjipacaaIntLaw
import Derived.Test.YtglldmfhjipacaaL2Pat
import Derived.Test.YtglldmfhjipacaaL4New
namespace Go.Proofs.Ytglldmfhjipacaa
open Go.RowKit
set_option linter.unusedVariables false
set_option maxRecDepth 100000
theorem below_set2 {B g : Nat} {w1 w : World} (h : Below B w1 w) (hg : B ≤ g) (a b : Value) : Below B w1 ((w.setCell ⟨g, 0, none⟩ a).setCell ⟨g, 1, none⟩ b) :=
  (h.setCell (p := ⟨g, 0, none⟩) hg a).setCell (p := ⟨g, 1, none⟩) hg b
theorem OwnN.set2 {w : World} {B g : Nat} {a : Option Addr} {n cap : Nat} {L : List Int} (h : OwnN w B a n cap L) (hg : g < B) (x y : Value) : OwnN ((w.setCell ⟨g, 0, none⟩ x).setCell ⟨g, 1, none⟩ y) B a n cap L :=
  (h.kept_hi (grownBy_setCell1 w g 0 x) (fun k hk => by cases hk; exact hg)).kept_hi (grownBy_setCell1 _ g 1 y) (fun k hk => by cases hk; exact hg)
end Go.Proofs.Ytglldmfhjipacaa

/-
  Chapter 1: contracts of Alike, in the program and in its model.
-/
import Derived.Test.YtpniiaemgobaiaaL1Folded
import Derived.Outline
namespace Go.Proofs.Ytpniiaemgobaiaa
open Go.RowKit
set_option linter.unusedVariables false
set_option maxRecDepth 100000
theorem spec_l1Eq (x y : Int) (f : Bool) (w : World) (h0 : 0 ≤ x) (h1 : x ≤ 255) (h2 : 0 ≤ y) (h3 : y ≤ 255) :
    Calls Try.prog 55 #[.int .u8 x, .int .u8 y, .bool f] w fun e w' => e = .returned (.bool (eqI x y f)) ∧ w = w' := by
  cases f
  · go_enter Try.func55, Try.ntmps55
    go_wp2
    go_ret
    exact ⟨rfl, rfl⟩
  · go_enter Try.func55, Try.ntmps55
    go_wp2_with (go_at_call 79; refine (spec_l1Fold _ _ (by omega) (by omega)).mono ?_; rintro e w' ⟨rfl, rfl⟩)
    go_ret
    exact ⟨rfl, rfl⟩

end Go.Proofs.Ytpniiaemgobaiaa

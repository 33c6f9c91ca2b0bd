/-
  Chapter 1: contracts of Alike, in the program and in its model.
-/
import Derived.Test.YtgikjopmijomgabL1Folded
import Derived.Outline
namespace Go.Proofs.Ytgikjopmijomgab
open Go.RowKit
set_option linter.unusedVariables false
set_option maxRecDepth 100000
theorem impl_alike (a b : ByteArray) (f : Bool) (w : World) (ha : a.size ≤ 140737488351232) (hb : b.size ≤ 140737488351232) :
    Calls Try.prog 19 #[.string a, .string b, .bool f] w fun e w' => e = .returned (.bool (alikeS a b f)) ∧ Below w.heap.size w w' := by
  cases f
  · go_enter Try.func19, Try.ntmps19
    go_wp2
    go_ret
    exact ⟨by simp only [alikeS, ← ByteArray.toList_eq]; rfl, Below.refl _ _⟩
  · go_enter Try.func19, Try.ntmps19
    go_wp2_with (go_at_call 14; refine (impl_folded _ _ (by omega)).mono ?_; rintro e w1 ⟨rfl, hb1⟩)
    go_ret
    exact ⟨by simp only [alikeS, ByteArray.toList_eq]; rfl, below_step ‹Below w.heap.size w _› hb1⟩
theorem spec_l1Eq (x y : Int) (f : Bool) (w : World) (h0 : 0 ≤ x) (h1 : x ≤ 255) (h2 : 0 ≤ y) (h3 : y ≤ 255) :
    Calls Try.prog 59 #[.int .u8 x, .int .u8 y, .bool f] w fun e w' => e = .returned (.bool (eqI x y f)) ∧ w = w' := by
  cases f
  · go_enter Try.func59, Try.ntmps59
    go_wp2
    go_ret
    exact ⟨rfl, rfl⟩
  · go_enter Try.func59, Try.ntmps59
    go_wp2_with (go_at_call 62; refine (spec_l1Fold _ _ (by omega) (by omega)).mono ?_; rintro e w' ⟨rfl, rfl⟩)
    go_ret
    exact ⟨rfl, rfl⟩

end Go.Proofs.Ytgikjopmijomgab

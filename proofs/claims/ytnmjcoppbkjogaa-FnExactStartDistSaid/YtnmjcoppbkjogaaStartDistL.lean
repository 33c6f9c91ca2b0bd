/-
  FnExactStartDist: the walk (by wip/tools/mk_twolaw.py).
-/
import Derived.Test.YtnmjcoppbkjogaaL19St
namespace Go.Proofs.Ytnmjcoppbkjogaa
open Go.RowKit
set_option linter.unusedVariables false
set_option maxRecDepth 100000
set_option maxHeartbeats 1000000 in
theorem law_FnExactStartDist (s : ByteArray) (hs : s.size ≤ maxLen) (r : ByteArray) (hr : r.size ≤ maxLen) (w : World) :
    Calls Try.prog 8 #[.string s, .string r] w fun e w' => e = .returned (.bool true) ∧ Below w.heap.size w w' := by
  unfold maxLen at hs hr
  by_cases h1 : s.size ≤ 1048576
  · by_cases h2 : r.size ≤ 1048576
    · have e0 : (startDI s r != startDI s r) = false := by simp
      have i1 : ¬ (1048576 : Int) < (s.size : Int) := by omega
      have i2 : ¬ (1048576 : Int) < (r.size : Int) := by omega
      go_enter Try.func8, Try.ntmps8
      go_wp2_with fail
      refine (spec_startDist s r _ h1 h2).mono ?_
      rintro e w1 ⟨rfl, hb1⟩
      go_wp2_with fail
      refine (impl_startDist s r _ h1 h2).mono ?_
      rintro e w2 ⟨rfl, hb2⟩
      go_wp2
      go_ret
      exact ⟨rfl, hb1.trans (hb2.mono hb1.size)⟩
    · have i1 : ¬ (1048576 : Int) < (s.size : Int) := by omega
      have i2 : (1048576 : Int) < (r.size : Int) := by omega
      go_enter Try.func8, Try.ntmps8
      go_wp2
      go_ret
      exact ⟨rfl, Below.refl _ _⟩
  · have i1 : (1048576 : Int) < (s.size : Int) := by omega
    go_enter Try.func8, Try.ntmps8
    go_wp2
    go_ret
    exact ⟨rfl, Below.refl _ _⟩
end Go.Proofs.Ytnmjcoppbkjogaa

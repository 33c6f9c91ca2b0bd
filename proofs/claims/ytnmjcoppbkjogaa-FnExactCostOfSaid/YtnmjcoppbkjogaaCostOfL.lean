/-
  FnExactCostOf: the walk (by wip/tools/mk_twolaw.py).
-/
import Derived.Test.YtnmjcoppbkjogaaL18Cost
namespace Go.Proofs.Ytnmjcoppbkjogaa
open Go.RowKit
set_option linter.unusedVariables false
set_option maxRecDepth 100000
set_option maxHeartbeats 1000000 in
theorem law_FnExactCostOf (s : ByteArray) (hs : s.size ≤ maxLen) (r : ByteArray) (hr : r.size ≤ maxLen) (p : Int) (_wp : (Lit.int .i64 p).wf = true) (d : Int) (_wd : (Lit.int .i64 d).wf = true) (t : Int) (_wt : (Lit.int .i64 t).wf = true) (w : World) :
    Calls Try.prog 5 #[.string s, .string r, .int .i64 p, .int .i64 d, .int .i64 t] w fun e w' => e = .returned (.bool true) ∧ Below w.heap.size w w' := by
  unfold maxLen at hs hr
  by_cases h1 : s.size ≤ 1048576
  · by_cases h2 : r.size ≤ 1048576
    · have e0 : (costI s r p d t != costI s r p d t) = false := by simp
      have i1 : ¬ (1048576 : Int) < (s.size : Int) := by omega
      have i2 : ¬ (1048576 : Int) < (r.size : Int) := by omega
      go_enter Try.func5, Try.ntmps5
      go_wp2_with fail
      refine (spec_costOf s r p d t _ h1 h2).mono ?_
      rintro e w1 ⟨rfl, hb1⟩
      go_wp2_with fail
      refine (impl_costOf s r p d t _ h1 h2).mono ?_
      rintro e w2 ⟨rfl, hb2⟩
      go_wp2
      go_ret
      exact ⟨rfl, hb1.trans (hb2.mono hb1.size)⟩
    · have i1 : ¬ (1048576 : Int) < (s.size : Int) := by omega
      have i2 : (1048576 : Int) < (r.size : Int) := by omega
      go_enter Try.func5, Try.ntmps5
      go_wp2
      go_ret
      exact ⟨rfl, Below.refl _ _⟩
  · have i1 : (1048576 : Int) < (s.size : Int) := by omega
    go_enter Try.func5, Try.ntmps5
    go_wp2
    go_ret
    exact ⟨rfl, Below.refl _ _⟩
end Go.Proofs.Ytnmjcoppbkjogaa

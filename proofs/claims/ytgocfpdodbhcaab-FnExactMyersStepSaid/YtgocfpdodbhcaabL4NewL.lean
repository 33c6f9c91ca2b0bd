/-
  FnExactMyersNew: the walk.
-/
import Derived.Test.YtgocfpdodbhcaabL4New
namespace Go.Proofs.Ytgocfpdodbhcaab
open Go.RowKit
set_option linter.unusedVariables false
set_option maxRecDepth 100000
theorem eqMyers_eq (u d t : Int) (w : World) :
    Calls Try.prog 25 #[.agg #[.int .i64 u, .int .i64 d, .int .i64 t], .agg #[.int .i64 u, .int .i64 d, .int .i64 t]] w fun e w' => e = .returned (.bool true) ∧ Below w.heap.size w w' := by
  have e0 : (u != u) = false := by simp
  have e1 : (d != d) = false := by simp
  have e2 : (t != t) = false := by simp
  go_enter Try.func25, Try.ntmps25
  go_wp2
  go_ret
  exact ⟨rfl, (by repeat (first | exact Below.refl _ _ | assumption | (refine Below.drew ?_) | (refine below_drewN ?_ _) | (refine Below.alloc ?_ (by first | omega | (simp; done) | (simp; omega)) _) | (refine Below.setCell ?_ (by first | omega | (simp; done) | (simp; omega)) _)))⟩
end Go.Proofs.Ytgocfpdodbhcaab

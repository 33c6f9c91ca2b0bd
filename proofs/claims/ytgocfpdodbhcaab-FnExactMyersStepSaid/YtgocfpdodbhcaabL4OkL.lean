/-
  FnExactMyersOk: the walk.
-/
import Derived.Test.YtgocfpdodbhcaabL4OkS
namespace Go.Proofs.Ytgocfpdodbhcaab
open Go.RowKit
set_option linter.unusedVariables false
set_option maxRecDepth 100000
theorem toMyers_any (u d t : Int) (w : World) :
    Calls Try.prog 23 #[.agg #[.int .i64 u, .int .i64 d, .int .i64 t]] w fun e w' => e = .returned (.agg #[.int .i64 u, .int .i64 d, .int .i64 t]) ∧ Below w.heap.size w w' := by
  go_enter Try.func23, Try.ntmps23
  go_wp2
  exact bodyPost_ret (v := .agg #[.int .i64 u, .int .i64 d, .int .i64 t]) (by simp [results, Try.results23, go_sem]) rfl ⟨rfl, (by repeat (first | exact Below.refl _ _ | assumption | (refine Below.drew ?_) | (refine below_drewN ?_ _) | (refine Below.alloc ?_ (by first | omega | (simp; done) | (simp; omega)) _) | (refine Below.setCell ?_ (by first | omega | (simp; done) | (simp; omega)) _)))⟩
theorem i64_of_wf {x : Int} (h : (Lit.int .i64 x).wf = true) : I64 x := by
  have : -9223372036854775808 ≤ x ∧ x ≤ 9223372036854775807 := by simpa [Lit.wf, IntKind.min, IntKind.max, IntKind.signed, IntKind.bits] using h
  exact this
end Go.Proofs.Ytgocfpdodbhcaab

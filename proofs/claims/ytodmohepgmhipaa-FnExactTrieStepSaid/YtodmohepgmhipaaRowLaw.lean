/-
  The laws' own helpers on structs of one slice of int64 (Rows).
-/
import Derived.Test.YtodmohepgmhipaaIntLaw
import Derived.Test.YtodmohepgmhipaaL2Pat
import Derived.Test.YtodmohepgmhipaaL4New
namespace Go.Proofs.Ytodmohepgmhipaa
open Go.RowKit
set_option linter.unusedVariables false
set_option maxRecDepth 100000
theorem laws_szInt64S (a : Option Addr) (len cap : Nat) (n : Int) (w : World) (hs : len ≤ 9223372036854775807) (h0 : 0 ≤ n) (h1 : n ≤ 1048576) :
    Calls Try.prog 82 #[.slice a len cap, .int .i64 n] w fun e w' => e = .returned (.int .i64 (szI n len)) ∧ w = w' := by
  by_cases h : (len : Int) ≤ n
  · have H := Lib.hid (szI_yes h)
    go_enter Try.func82, Try.ntmps82
    go_wp2
    go_ret
    exact ⟨by rw [H.out]; rfl, rfl⟩
  · have H := Lib.hid (szI_no h)
    go_enter Try.func82, Try.ntmps82
    go_wp2
    go_ret
    exact ⟨by rw [H.out]; rfl, rfl⟩
end Go.Proofs.Ytodmohepgmhipaa

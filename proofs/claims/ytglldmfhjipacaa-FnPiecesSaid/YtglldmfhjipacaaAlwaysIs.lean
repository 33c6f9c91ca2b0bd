/-
  Chapter 8: Always, and whether a pattern is right, by their values.
-/
import Derived.Test.YtglldmfhjipacaaL8Always
namespace Go.Proofs.Ytglldmfhjipacaa
open Go.RowKit
set_option linter.unusedVariables false
set_option maxRecDepth 100000
theorem always_is {s : ByteArray} {k : Int} {f v : Bool} (hs : s.size ≤ 1048576) (h : alwaysB s k = v) (w : World) :
    Calls Try.prog 35 #[.agg #[.string s, .int .i64 k, .bool f]] w fun e w' => e = .returned (.bool v) ∧ Below w.heap.size w w' :=
  (impl_always s k f w hs).mono fun _ _ h2 => ⟨by rw [h2.1, h], h2.2⟩
theorem always_is' {s : ByteArray} {k : Int} {f v : Bool} (hs : s.size ≤ 1048576) (h : alwaysB s k = v) (w : World) :
    Calls Try.prog 36 #[.agg #[.string s, .int .i64 k, .bool f]] w fun e w' => e = .returned (.bool v) ∧ Below w.heap.size w w' :=
  (spec_always s k f w hs).mono fun _ _ h2 => ⟨by rw [h2.1, h], h2.2⟩
theorem patOk_is' {s : ByteArray} {k : Int} {f v : Bool} (hs : s.size ≤ 1048576) (h : patOk s k = v) (w : World) :
    Calls Try.prog 37 #[.agg #[.string s, .int .i64 k, .bool f]] w fun e w' => e = .returned (.bool v) ∧ Below w.heap.size w w' :=
  (spec_patternOk s k f w (by omega)).mono fun _ _ h2 => ⟨by rw [h2.1, h], h2.2⟩
end Go.Proofs.Ytglldmfhjipacaa

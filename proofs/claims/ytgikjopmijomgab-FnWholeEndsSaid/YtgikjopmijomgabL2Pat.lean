/-
  Chapter 2: contracts of PatternOk, in the program and in its model; of the law's own helpers on patterns.
-/
import Derived.Test.YtgikjopmijomgabKit
import Derived.Outline
namespace Go.Proofs.Ytgikjopmijomgab
open Go.RowKit
set_option linter.unusedVariables false
set_option maxRecDepth 100000
/-- what is left of n behind m, -1: it does not suffice -/
def szI (n m : Int) : Int := if m ≤ n then n - m else -1
theorem szI_yes {n m : Int} (h : m ≤ n) : szI n m = n - m := if_pos h
theorem szI_no {n m : Int} (h : ¬ m ≤ n) : szI n m = -1 := if_neg h
def patOk (s : ByteArray) (k : Int) : Bool := decide (1 ≤ s.size ∧ s.size ≤ 20 ∧ 0 ≤ k ∧ k ≤ 4)
theorem patOk_iff (s : ByteArray) (k : Int) : patOk s k = true ↔ (1 ≤ s.size ∧ s.size ≤ 20 ∧ 0 ≤ k ∧ k ≤ 4) := by simp [patOk]
theorem patOk_yes {s : ByteArray} {k : Int} (h : 1 ≤ s.size ∧ s.size ≤ 20 ∧ 0 ≤ k ∧ k ≤ 4) : patOk s k = true := (patOk_iff s k).2 h
theorem patOk_no {s : ByteArray} {k : Int} (h : ¬ (1 ≤ s.size ∧ s.size ≤ 20 ∧ 0 ≤ k ∧ k ≤ 4)) : patOk s k = false := by simp only [patOk, decide_eq_false_iff_not]; exact h

set_option maxHeartbeats 1000000 in
theorem impl_patternOk (s : ByteArray) (k : Int) (f : Bool) (w : World) (hs : s.size ≤ 9223372036854775807) :
    Calls Try.prog 43 #[.agg #[.string s, .int .i64 k, .bool f]] w fun e w' => e = .returned (.bool (patOk s k)) ∧ Below w.heap.size w w' := by
  by_cases a : 1 ≤ s.size <;> by_cases b : s.size ≤ 20 <;> by_cases c : 0 ≤ k <;> by_cases d : k ≤ 4
  all_goals first
    | (exfalso; omega)
    | (have H := Lib.hid (patOk_yes (s := s) (k := k) ⟨a, b, c, d⟩)
       go_enter Try.func43, Try.ntmps43
       go_wp2
       go_ret
       exact ⟨by rw [H.out]; rfl, (Below.refl _ _).alloc (Nat.le_refl _) _⟩)
    | (have H := Lib.hid (patOk_no (s := s) (k := k) (by omega))
       go_enter Try.func43, Try.ntmps43
       go_wp2
       go_ret
       exact ⟨by rw [H.out]; rfl, (Below.refl _ _).alloc (Nat.le_refl _) _⟩)
set_option maxHeartbeats 1000000 in
theorem spec_patternOk (s : ByteArray) (k : Int) (f : Bool) (w : World) (hs : s.size ≤ 9223372036854775807) :
    Calls Try.prog 24 #[.agg #[.string s, .int .i64 k, .bool f]] w fun e w' => e = .returned (.bool (patOk s k)) ∧ Below w.heap.size w w' := by
  by_cases a : 1 ≤ s.size <;> by_cases b : s.size ≤ 20 <;> by_cases c : 0 ≤ k <;> by_cases d : k ≤ 4
  all_goals first
    | (exfalso; omega)
    | (have H := Lib.hid (patOk_yes (s := s) (k := k) ⟨a, b, c, d⟩)
       go_enter Try.func24, Try.ntmps24
       go_wp2
       go_ret
       exact ⟨by rw [H.out]; rfl, (Below.refl _ _).alloc (Nat.le_refl _) _⟩)
    | (have H := Lib.hid (patOk_no (s := s) (k := k) (by omega))
       go_enter Try.func24, Try.ntmps24
       go_wp2
       go_ret
       exact ⟨by rw [H.out]; rfl, (Below.refl _ _).alloc (Nat.le_refl _) _⟩)

end Go.Proofs.Ytgikjopmijomgab

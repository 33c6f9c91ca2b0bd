/-
  Chapter 2: contracts of PatternOk, in the program and in its model; of the law's own helpers on patterns.
-/
import Derived.Test.YtgikjopmijomgaaKit
import Derived.Outline
namespace Go.Proofs.Ytgikjopmijomgaa
open Go.RowKit
set_option linter.unusedVariables false
set_option maxRecDepth 100000
/-- what is left of n behind m, -1: it does not suffice -/
def szI (n m : Int) : Int := if m ≤ n then n - m else -1
theorem szI_yes {n m : Int} (h : m ≤ n) : szI n m = n - m := if_pos h
theorem szI_no {n m : Int} (h : ¬ m ≤ n) : szI n m = -1 := if_neg h
def patOk (s : ByteArray) (k : Int) : Bool := decide (1 ≤ s.size ∧ s.size ≤ 20 ∧ 0 ≤ k ∧ k ≤ 4)
theorem patOk_iff (s : ByteArray) (k : Int) : patOk s k = true ↔ (1 ≤ s.size ∧ s.size ≤ 20 ∧ 0 ≤ k ∧ k ≤ 4) := by simp [patOk]
theorem patOk_yes {s : ByteArray} {k : Int} (h : 1 ≤ s.size ∧ s.size ≤ 20 ∧ 0 ≤ k ∧ k ≤ 4) : patOk s k = true := (patOk_iff s k).2 h
theorem patOk_no {s : ByteArray} {k : Int} (h : ¬ (1 ≤ s.size ∧ s.size ≤ 20 ∧ 0 ≤ k ∧ k ≤ 4)) : patOk s k = false := by simp only [patOk, decide_eq_false_iff_not]; exact h

set_option maxHeartbeats 1000000 in
theorem impl_patternOk (s : ByteArray) (k : Int) (f : Bool) (w : World) (hs : s.size ≤ 9223372036854775807) :
    Calls Try.prog 43 #[.agg #[.string s, .int .i64 k, .bool f]] w fun e w' => e = .returned (.bool (patOk s k)) ∧ Below w.heap.size w w' := by
  by_cases a : 1 ≤ s.size <;> by_cases b : s.size ≤ 20 <;> by_cases c : 0 ≤ k <;> by_cases d : k ≤ 4
  all_goals first
    | (exfalso; omega)
    | (have H := Lib.hid (patOk_yes (s := s) (k := k) ⟨a, b, c, d⟩)
       go_enter Try.func43, Try.ntmps43
       go_wp2
       go_ret
       exact ⟨by rw [H.out]; rfl, (Below.refl _ _).alloc (Nat.le_refl _) _⟩)
    | (have H := Lib.hid (patOk_no (s := s) (k := k) (by omega))
       go_enter Try.func43, Try.ntmps43
       go_wp2
       go_ret
       exact ⟨by rw [H.out]; rfl, (Below.refl _ _).alloc (Nat.le_refl _) _⟩)
set_option maxHeartbeats 1000000 in
theorem spec_patternOk (s : ByteArray) (k : Int) (f : Bool) (w : World) (hs : s.size ≤ 9223372036854775807) :
    Calls Try.prog 42 #[.agg #[.string s, .int .i64 k, .bool f]] w fun e w' => e = .returned (.bool (patOk s k)) ∧ Below w.heap.size w w' := by
  by_cases a : 1 ≤ s.size <;> by_cases b : s.size ≤ 20 <;> by_cases c : 0 ≤ k <;> by_cases d : k ≤ 4
  all_goals first
    | (exfalso; omega)
    | (have H := Lib.hid (patOk_yes (s := s) (k := k) ⟨a, b, c, d⟩)
       go_enter Try.func42, Try.ntmps42
       go_wp2
       go_ret
       exact ⟨by rw [H.out]; rfl, (Below.refl _ _).alloc (Nat.le_refl _) _⟩)
    | (have H := Lib.hid (patOk_no (s := s) (k := k) (by omega))
       go_enter Try.func42, Try.ntmps42
       go_wp2
       go_ret
       exact ⟨by rw [H.out]; rfl, (Below.refl _ _).alloc (Nat.le_refl _) _⟩)

theorem laws_toPattern (s : ByteArray) (k : Int) (f : Bool) (w : World) :
    Calls Try.prog 13 #[.agg #[.string s, .int .i64 k, .bool f]] w fun e w' => e = .returned (.agg #[.string s, .int .i64 k, .bool f]) ∧ Below w.heap.size w w' := by
  go_enter Try.func13, Try.ntmps13
  go_wp2
  exact bodyPost_ret (v := .agg #[.string s, .int .i64 k, .bool f]) (by simp [results, Try.results13, go_sem]) rfl ⟨rfl, (by repeat (first | exact Below.refl _ _ | assumption | (refine Below.drew ?_) | (refine below_drewN ?_ _) | (refine Below.alloc ?_ (by first | omega | (simp; done) | (simp; omega)) _) | (refine Below.setCell ?_ (by first | omega | (simp; done) | (simp; omega)) _)))⟩
theorem laws_szPattern (s : ByteArray) (k : Int) (f : Bool) (n : Int) (w : World) (hs : s.size ≤ 9223372036854775807) (h0 : 0 ≤ n) (h1 : n ≤ 1048576) :
    Calls Try.prog 11 #[.agg #[.string s, .int .i64 k, .bool f], .int .i64 n] w fun e w' => e = .returned (.int .i64 (szI n s.size)) ∧ Below w.heap.size w w' := by
  by_cases h : (s.size : Int) ≤ n
  · have H := Lib.hid (szI_yes h)
    go_enter Try.func11, Try.ntmps11
    go_wp2
    go_ret
    exact ⟨by rw [H.out]; rfl, (Below.refl _ _).alloc (Nat.le_refl _) _⟩
  · have H := Lib.hid (szI_no h)
    go_enter Try.func11, Try.ntmps11
    go_wp2
    go_ret
    exact ⟨by rw [H.out]; rfl, (Below.refl _ _).alloc (Nat.le_refl _) _⟩

end Go.Proofs.Ytgikjopmijomgaa

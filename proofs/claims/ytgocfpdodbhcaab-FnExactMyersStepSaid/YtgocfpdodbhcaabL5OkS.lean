/-
  Chapter 5: RowsOk's model.
-/
import Derived.Test.YtgocfpdodbhcaabL5Ok
namespace Go.Proofs.Ytgocfpdodbhcaab
open Go.RowKit
set_option linter.unusedVariables false
set_option maxRecDepth 100000
theorem spec_l1In_b (n lo hi : Int) (w : World) :
    Calls Try.prog 78 #[.int .i64 n, .int .i64 lo, .int .i64 hi] w fun e w' => e = .returned (.bool (inB n lo hi)) ∧ Below w.heap.size w w' :=
  (spec_l1In n lo hi w).mono fun _ _ ⟨h1, h2⟩ => ⟨h1, by rw [← h2]; exact Below.refl _ _⟩
theorem spec_l4Full (s : ByteArray) (k : Int) (f : Bool) (w : World) (hs : s.size ≤ 20) :
    Calls Try.prog 120 #[.agg #[.string s, .int .i64 k, .bool f]] w fun e w' => e = .returned (.int .i64 (2 ^ s.size - 1)) ∧ Below w.heap.size w w' := by
  have p2 := pow_small s.size hs
  have p3 := pow_pos s.size
  go_enter Try.func120, Try.ntmps120
  go_wp2
  go_ret
  exact ⟨rfl, (by repeat (first | exact Below.refl _ _ | assumption | (refine Below.drew ?_) | (refine below_drewN ?_ _) | (refine Below.alloc ?_ (by first | omega | (simp; done) | (simp; omega)) _) | (refine Below.setCell ?_ (by first | omega | (simp; done) | (simp; omega)) _)))⟩
theorem rowGood_eq {n : Nat} {L : List Int} {j : Nat} (hx : I64 (intAt L j)) (hn : n ≤ 20) (hj : j ≤ 20) :
    rowGood n L j = true ↔ inB (intAt L j) 0 (2 ^ n - 1) = true ∧ bits .and .i64 (intAt L j) (2 ^ (min j n) - 1) = 2 ^ (min j n) - 1 ∧ (0 < j → bits .andNot .i64 (intAt L (j - 1)) (intAt L j) = 0) := by
  unfold rowGood
  simp only [Bool.and_eq_true, decide_eq_true_eq]
  rw [andNot_low hx (by omega), needed_iff _ _ _ _ (by omega)]
  have hi : inB (intAt L j) 0 (2 ^ n - 1) = true ↔ 0 ≤ intAt L j ∧ intAt L j ≤ 2 ^ n - 1 := by simp [inB]
  rw [hi]
  by_cases h0 : j = 0
  · subst h0
    rw [aheadAt_zero]
    constructor
    · rintro ⟨h1, h2, h3⟩; exact ⟨h1, h2, fun h => by omega⟩
    · rintro ⟨h1, h2, h3⟩; exact ⟨h1, h2, andNot_zero_left _⟩
  · have : aheadAt L j = intAt L (j - 1) := by unfold aheadAt; rw [if_neg h0]
    rw [this]
    constructor
    · rintro ⟨h1, h2, h3⟩; exact ⟨h1, h2, fun _ => h3⟩
    · rintro ⟨h1, h2, h3⟩; exact ⟨h1, h2, h3 (by omega)⟩
end Go.Proofs.Ytgocfpdodbhcaab

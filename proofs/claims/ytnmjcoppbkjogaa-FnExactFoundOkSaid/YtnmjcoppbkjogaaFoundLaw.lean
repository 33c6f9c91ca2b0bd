/-
  The laws' own helpers on slices of what was found (XRecLaw with the names turned).
-/
import Derived.Test.YtnmjcoppbkjogaaStructs
import Derived.Test.YtnmjcoppbkjogaaIntLaw
namespace Go.Proofs.Ytnmjcoppbkjogaa
open Go.RowKit
set_option linter.unusedVariables false
set_option maxRecDepth 100000
theorem laws_eqFound (x y z : Int) (w : World) :
    Calls Try.prog 64 #[.agg #[.int .i64 x, .int .i64 y, .int .i64 z], .agg #[.int .i64 x, .int .i64 y, .int .i64 z]] w fun e w' => e = .returned (.bool true) ∧ Below w.heap.size w w' := by
  have e1 : (x != x) = false := by simp
  have e2 : (y != y) = false := by simp
  have e3 : (z != z) = false := by simp
  go_enter Try.func64, Try.ntmps64
  go_wp2
  go_ret
  exact ⟨rfl, (by repeat (first | exact Below.refl _ _ | assumption | (refine Below.drew ?_) | (refine below_drewN ?_ _) | (refine Below.alloc ?_ (by first | omega | (simp; done) | (simp; omega)) _) | (refine Below.setCell ?_ (by first | omega | (simp; done) | (simp; omega)) _)))⟩
set_option maxHeartbeats 1000000 in
theorem laws_eqFoundS (L : List Int) (a1 a2 : Option Addr) (n cap1 cap2 : Nat) (w : World) (hn : L.length = n * 3) (h1 : Ints w a1 L) (h2 : Ints w a2 L) (hlen : n ≤ 1048577) :
    Calls Try.prog 19 #[.slice a1 n cap1, .slice a2 n cap2] w fun e w' => e = .returned (.bool true) ∧ Below w.heap.size w w' := by
  have e0 : ((n : Int) != (n : Int)) = false := by simp
  have HN := Lib.hid hn; clear hn
  go_enter Try.func19, Try.ntmps19
  go_wp2
  go_loopw [5] (fun i wr => ∃ k : Nat, k ≤ n ∧ i = .int .i64 k ∧ Below w.heap.size w wr)
    (fun i _ => n - (intOf i).toNat)
  case atStart => exact ⟨0, by omega, rfl, Below.refl _ _⟩
  case round =>
    obtain ⟨k, hk, rfl, hb⟩ := hrel
    by_cases hlt : k < n
    · obtain ⟨b1, off1, rfl, hp1⟩ := (h1.kept hb).at (k * 3) (by rw [HN.out]; omega)
      obtain ⟨b2, off2, rfl, hp2⟩ := (h2.kept hb).at (k * 3) (by rw [HN.out]; omega)
      have c0 := hp1 (k * 3) (by rw [HN.out]; omega)
      have d0 := hp2 (k * 3) (by rw [HN.out]; omega)
      have c1 := hp1 (k * 3 + 1) (by rw [HN.out]; omega)
      have d1 := hp2 (k * 3 + 1) (by rw [HN.out]; omega)
      have c2 := hp1 (k * 3 + 2) (by rw [HN.out]; omega)
      have d2 := hp2 (k * 3 + 2) (by rw [HN.out]; omega)
      rw [← Nat.add_assoc] at c1 d1 c2 d2
      generalize intAt L (k * 3) = x at c0 d0
      generalize intAt L (k * 3 + 1) = y at c1 d1
      generalize intAt L (k * 3 + 2) = z at c2 d2
      have hlb := block_lt_of_cell c0
      have hlb2 := block_lt_of_cell d0
      clear h1 h2 hp1 hp2
      go_wp2_with fail
      go_region_law ((go_simp; (go_at_call 64; refine (laws_eqFound x y z _).mono ?_; rintro e w2 ⟨rfl, hb2⟩)))
      all_goals
        have hB := hb.trans ((below_undrew hb2).mono hb.size)
        go_wp2
        go_roundw
        case rel => exact ⟨k + 1, by omega, by go_num, hB⟩
        case measure => simp [intOf]; omega
    · obtain rfl : k = n := by omega
      go_wp2
      go_ret
      exact ⟨rfl, hb⟩
end Go.Proofs.Ytnmjcoppbkjogaa

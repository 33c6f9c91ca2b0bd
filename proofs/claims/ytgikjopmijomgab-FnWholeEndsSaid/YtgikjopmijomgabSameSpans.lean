/-
  laws.sameSpans: lists of spans that are the same (as XSameEnds, by names).
-/
import Derived.Test.YtgikjopmijomgabL19S
import Derived.Deep.RegionHeld3
namespace Go.Proofs.Ytgikjopmijomgab
open Go.RowKit
set_option linter.unusedVariables false
set_option maxRecDepth 100000
set_option maxHeartbeats 1000000 in
theorem laws_sameSpans (L : List Int) (a1 a2 : Option Addr) (n cap1 cap2 : Nat) (w : World) (hn : L.length = n * 2) (h1 : Ints w a1 L) (h2 : Ints w a2 L) (hlen : n ≤ 1048577) :
    Calls Try.prog 12 #[.slice a1 n cap1, .slice a2 n cap2] w fun e w' => e = .returned (.bool true) ∧ Below w.heap.size w w' := by
  have e0 : ((n : Int) != (n : Int)) = false := by simp
  have HN := Lib.hid hn; clear hn
  go_enter Try.func12, Try.ntmps12
  go_wp2
  go_loopw [5] (fun i wr => ∃ k : Nat, k ≤ n ∧ i = .int .i64 k ∧ Below w.heap.size w wr)
    (fun i _ => n - (intOf i).toNat)
  case atStart => exact ⟨0, by omega, rfl, Below.refl _ _⟩
  case round =>
    obtain ⟨k, hk, rfl, hb⟩ := hrel
    by_cases hlt : k < n
    · have hp2 := pair_lt hlt
      obtain ⟨b1, off1, rfl, hp1⟩ := (h1.kept hb).at (k * 2) (by rw [HN.out]; omega)
      obtain ⟨b2, off2, rfl, hp2⟩ := (h2.kept hb).at (k * 2) (by rw [HN.out]; omega)
      have c1 := hp1 (k * 2) (by rw [HN.out]; omega)
      have c2 := hp2 (k * 2) (by rw [HN.out]; omega)
      have d1 := hp1 (k * 2 + 1) (by rw [HN.out]; omega)
      have d2 := hp2 (k * 2 + 1) (by rw [HN.out]; omega)
      rw [← Nat.add_assoc] at d1 d2
      generalize intAt L (k * 2) = x at c1 c2
      generalize intAt L (k * 2 + 1) = y at d1 d2
      clear h1 h2 hp1 hp2
      go_wp2_with fail
      go_quiet (fail)
      go_wp2
      go_roundw
      case rel => exact ⟨k + 1, by omega, by go_num, below_drewN hb _⟩
      case measure => simp [intOf]; omega
    · obtain rfl : k = n := by omega
      go_wp2
      go_ret
      exact ⟨rfl, hb⟩
end Go.Proofs.Ytgikjopmijomgab

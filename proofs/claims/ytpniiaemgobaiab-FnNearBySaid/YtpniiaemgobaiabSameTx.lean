/-
  sameTexts, of two alike slices of texts.
-/
import Derived.Test.YtpniiaemgobaiabStrLaw
namespace Go.Proofs.Ytpniiaemgobaiab
open Go.RowKit
set_option linter.unusedVariables false
set_option maxRecDepth 100000
set_option maxHeartbeats 1000000 in
theorem laws_sameTexts (t : Nat → ByteArray) (a1 a2 : Option Addr) (n cap1 cap2 : Nat) (w : World) (h1 : Vals w a1 (strL t n)) (h2 : Vals w a2 (strL t n)) (hlen : n ≤ 1048577) :
    Calls Try.prog 21 #[.slice a1 n cap1, .slice a2 n cap2] w fun e w' => e = .returned (.bool true) ∧ Below w.heap.size w w' := by
  have e0 : ((n : Int) != (n : Int)) = false := by simp
  have hn := strL_length t n
  have HN := Lib.hid hn; clear hn
  go_enter Try.func21, Try.ntmps21
  go_wp2
  go_loopw [5] (fun i wr => ∃ k : Nat, k ≤ n ∧ i = .int .i64 k ∧ Below w.heap.size w wr)
    (fun i _ => n - (intOf i).toNat)
  case atStart => exact ⟨0, by omega, rfl, Below.refl _ _⟩
  case round =>
    obtain ⟨k, hk, rfl, hb⟩ := hrel
    by_cases hlt : k < n
    · obtain ⟨b1, off1, rfl, hp1⟩ := (h1.kept hb).at k (by rw [HN.out]; omega)
      obtain ⟨b2, off2, rfl, hp2⟩ := (h2.kept hb).at k (by rw [HN.out]; omega)
      have c1 := hp1 k (by rw [HN.out]; omega)
      have c2 := hp2 k (by rw [HN.out]; omega)
      rw [strL_at t n k hlt] at c1 c2
      generalize t k = y at c1 c2
      have ey : (y.toList == y.toList) = true := by simp
      clear h1 h2 hp1 hp2
      go_wp2_with fail
      go_quiet (fail)
      go_wp2
      go_roundw
      case rel => exact ⟨k + 1, by omega, by go_num, below_drewN hb _⟩
      case measure => simp [intOf]; omega
    · obtain rfl : k = n := by omega
      go_wp2
      go_ret
      exact ⟨rfl, hb⟩
end Go.Proofs.Ytpniiaemgobaiab

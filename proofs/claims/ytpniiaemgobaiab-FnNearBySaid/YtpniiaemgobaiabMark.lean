/-
  The marks' texts: the contract of the laws' own function.
-/
import Derived.Test.YtpniiaemgobaiabMTree
import Derived.Deep.RegionWith
import Derived.Deep.RegionLaw
import Derived.BigRegion
import Derived.BigQuiet
namespace Go.Proofs.Ytpniiaemgobaiab
open Go.RowKit
set_option linter.unusedVariables false
set_option maxRecDepth 100000
def digB (j : Nat) : UInt8 := UInt8.ofNat (48 + j % 10)
/-- the digits of j in front of out -/
def digT (j : Nat) (out : ByteArray) : ByteArray := if h : j = 0 then out else digT (j / 10) (⟨#[digB j]⟩ ++ out)
termination_by j
decreasing_by omega
def markS (k : Int) : ByteArray := if k ≤ 0 then ⟨#[109, 48]⟩ else ⟨#[109]⟩ ++ digT k.toNat ⟨#[]⟩
theorem digT_zero (out : ByteArray) : digT 0 out = out := by rw [digT]; simp
theorem digT_pos {j : Nat} (h : 0 < j) (out : ByteArray) : digT j out = digT (j / 10) (⟨#[digB j]⟩ ++ out) := by
  rw [digT]; simp [show j ≠ 0 by omega]
theorem digB_int (j : Nat) : ((digB j).toNat : Int) = 48 + (j : Int) % 10 := by
  unfold digB; rw [UInt8.toNat_ofNat']; omega
theorem pow_step (j r : Nat) (h : j < 10 ^ (20 - r)) (hj : 0 < j) (hr : r ≤ 20) : r + 1 ≤ 20 ∧ j / 10 < 10 ^ (20 - (r + 1)) := by
  by_cases h1 : r = 20
  · subst h1; simp at h; omega
  · refine ⟨by omega, ?_⟩
    have : 10 ^ (20 - r) = 10 ^ (20 - (r + 1)) * 10 := by rw [← Nat.pow_succ]; congr 1; omega
    rw [this] at h
    exact Nat.div_lt_of_lt_mul (by rw [Nat.mul_comm]; exact h)
theorem digT_size (j r : Nat) : ∀ (out : ByteArray), out.size = r → r ≤ 20 → j < 10 ^ (20 - r) → (digT j out).size ≤ 20 := by
  induction j using Nat.strongRecOn generalizing r with
  | _ j ih =>
    intro out ho hr hj
    by_cases h : j = 0
    · subst h; rw [digT_zero]; omega
    · have hp := pow_step j r hj (by omega) hr
      rw [digT_pos (by omega)]
      exact ih (j / 10) (by omega) (r + 1) _ (by rw [ByteArray.size_append, ho]; show 1 + r = _; omega) hp.1 hp.2
theorem markS_size (k : Int) (hk : k ≤ 9223372036854775807) : (markS k).size ≤ 21 := by
  unfold markS
  split
  · decide
  · rw [ByteArray.size_append]
    have := digT_size k.toNat 0 ⟨#[]⟩ rfl (by omega) (by show _ < 10 ^ 20; omega)
    show 1 + _ ≤ 21
    omega
end Go.Proofs.Ytpniiaemgobaiab

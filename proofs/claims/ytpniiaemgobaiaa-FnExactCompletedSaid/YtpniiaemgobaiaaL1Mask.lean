/-
  Chapter 1: contracts of MaskOf, in the program and in its model.
-/
import Derived.Test.YtpniiaemgobaiaaL1Alike
namespace Go.Proofs.Ytpniiaemgobaiaa
open Go.RowKit
set_option linter.unusedVariables false
set_option maxRecDepth 100000

theorem pow_pos (k : Nat) : (0 : Int) ≤ 2 ^ k := by
  have : (0 : Int) < 2 ^ k := Int.pow_pos (by decide)
  omega
theorem pow_small (k : Nat) (h : k ≤ 20) : (2 : Int) ^ k ≤ 1048576 := by
  have h1 : (2 : Nat) ^ k ≤ 2 ^ 20 := Nat.pow_le_pow_right (by decide) h
  have h2 : ((2 ^ k : Nat) : Int) = (2 : Int) ^ k := by simp
  omega
theorem wraps_i64 (n : Int) (h₀ : 0 ≤ n) (h₁ : n < 2 ^ 62) : IntKind.i64.wrap n = n := by rw [IntKind.wrap_i64]; omega
theorem or_pow (m k : Nat) (hk : k ≤ 20) (h : m < 2 ^ k) : bits .or .i64 (m : Int) (2 ^ k) = (m : Int) + 2 ^ k := by
  have h1 : (2 : Nat) ^ k ≤ 2 ^ 20 := Nat.pow_le_pow_right (by decide) hk
  have h2 : ((2 ^ k : Nat) : Int) = (2 : Int) ^ k := by simp
  have := (bits_nat .i64 62 (by decide) wraps_i64 m (2 ^ k) (by omega) (by omega)).2
  rw [h2] at this
  rw [this, Nat.or_comm]
  have h3 := Nat.two_pow_add_eq_or_of_lt h 1
  rw [Nat.mul_one] at h3
  rw [← h3]; simp; omega
theorem byteAt_eq (p : ByteArray) (k : Nat) (h : k < p.size) : byteAt p k = p[k] := by
  unfold byteAt
  have hl : k < p.data.toList.length := by rw [Array.length_toList]; exact h
  rw [List.getD_eq_getElem?_getD, List.getElem?_eq_getElem hl]; rfl
theorem byteAt_foldS (p : ByteArray) (k : Nat) (h : k < p.size) : byteAt (foldS p) k = foldB (byteAt p k) := by
  unfold byteAt foldS foldL
  have hl : k < p.data.toList.length := by rw [Array.length_toList]; exact h
  simp [List.getElem?_eq_getElem hl]
theorem maskG_plain (p : ByteArray) (b : Int) (k : Nat) (h : k < p.size) : maskG p false b k = ((p[k].toNat : Int) == b) := by
  unfold maskG eqI; rw [byteAt_eq p k h]; rfl
theorem maskG_fold (p : ByteArray) (b : Int) (k : Nat) (h : k < (foldS p).size) : maskG p true b k = (((foldS p)[k].toNat : Int) == foldI b) := by
  have h' : k < p.size := by rw [foldS_size] at h; exact h
  rw [← byteAt_eq (foldS p) k h, byteAt_foldS p k h', foldB_toNat]; rfl

end Go.Proofs.Ytpniiaemgobaiaa

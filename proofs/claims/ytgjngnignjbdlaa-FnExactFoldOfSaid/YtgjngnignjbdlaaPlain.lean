/-
  Plain facts of chapter 1, without any program: folding a byte, the table that is built by stores, lists of bytes.
-/
import Derived.Test.YtgjngnignjbdlaaKit
namespace Go.Proofs.Ytgjngnignjbdlaa
open Go.RowKit

/-- a capital letter's small one -/
def foldI (n : Int) : Int := if 65 ≤ n ∧ n ≤ 90 then n + 32 else n
def foldB (b : UInt8) : UInt8 := if 65 ≤ b.toNat ∧ b.toNat ≤ 90 then b + 32 else b

theorem foldB_toNat (b : UInt8) : ((foldB b).toNat : Int) = foldI (b.toNat : Int) := by
  unfold foldB foldI
  by_cases h : 65 ≤ b.toNat ∧ b.toNat ≤ 90
  · have h2 : (65 : Int) ≤ (b.toNat : Int) ∧ (b.toNat : Int) ≤ 90 := by omega
    rw [if_pos h, if_pos h2]
    have : (b + 32).toNat = (b.toNat + 32) % 256 := by simp [UInt8.toNat_add]
    rw [this]; omega
  · have h2 : ¬ ((65 : Int) ≤ (b.toNat : Int) ∧ (b.toNat : Int) ≤ 90) := by omega
    rw [if_neg h, if_neg h2]

theorem foldB_idem (b : UInt8) : foldB (foldB b) = foldB b := by
  apply UInt8.toNat_inj.1
  have h1 := foldB_toNat b
  have h2 := foldB_toNat (foldB b)
  have : ((foldB (foldB b)).toNat : Int) = ((foldB b).toNat : Int) := by
    rw [h2, h1]
    unfold foldI
    split <;> rename_i hh
    · rw [if_neg (by omega)]
    · rfl
  omega

theorem foldI_byte (n : Int) (h0 : 0 ≤ n) (h1 : n ≤ 255) : 0 ≤ foldI n ∧ foldI n ≤ 255 := by
  unfold foldI; split <;> omega

/-- FoldOf at any number -/
def foldOfI (n : Int) : Int := if 0 ≤ n ∧ n ≤ 255 then foldI n else -1

/-- 256 noughts -/
def zeros256 : Array Value := Array.replicate 256 (.int .u8 0)
def tab1 : Nat → Array Value
  | 0 => zeros256
  | k + 1 => (tab1 k).setIfInBounds k (.int .u8 k)
def tab2 : Nat → Array Value
  | 0 => tab1 256
  | k + 1 => (tab2 k).setIfInBounds (65 + k) (.int .u8 ((65 + k : Nat) + 32 : Int))
def foldTab : Array Value := tab2 26

theorem tab1_size (k : Nat) : (tab1 k).size = 256 := by
  induction k with
  | zero => simp [tab1, zeros256]
  | succ k ih => simp [tab1, ih]
theorem tab2_size (k : Nat) : (tab2 k).size = 256 := by
  induction k with
  | zero => simp [tab2, tab1_size]
  | succ k ih => simp [tab2, ih]
theorem tab1_at (k i : Nat) (hi : i < 256) : (tab1 k)[i]? = some (.int .u8 (if i < k then (i : Int) else 0)) := by
  induction k with
  | zero => simp [tab1, zeros256, hi]
  | succ k ih =>
    have hs := tab1_size k
    simp only [tab1]
    rw [Array.getElem?_setIfInBounds]
    by_cases h : k = i
    · subst h; simp [hs, hi]
    · rw [if_neg h, ih]; congr 2
      by_cases h2 : i < k
      · simp [h2]; omega
      · rw [if_neg h2, if_neg (by omega)]
theorem tab2_at (k i : Nat) (hi : i < 256) : (tab2 k)[i]? = some (.int .u8 (if 65 ≤ i ∧ i < 65 + k then (i : Int) + 32 else (i : Int))) := by
  induction k with
  | zero => simp only [tab2]; rw [tab1_at 256 i hi, if_pos hi, if_neg (by omega)]
  | succ k ih =>
    have hs := tab2_size k
    simp only [tab2]
    rw [Array.getElem?_setIfInBounds]
    by_cases h : 65 + k = i
    · subst h; rw [if_pos rfl, if_pos (by omega), if_pos (by omega)]
    · rw [if_neg h, ih]; congr 2
      by_cases h2 : 65 ≤ i ∧ i < 65 + k
      · rw [if_pos h2, if_pos (by omega)]
      · rw [if_neg h2, if_neg (by omega)]
theorem foldTab_at (i : Nat) (hi : i < 256) : foldTab[i]? = some (.int .u8 (foldI (i : Int))) := by
  unfold foldTab foldI
  rw [tab2_at 26 i hi]; congr 2
  by_cases h : 65 ≤ i ∧ i < 65 + 26
  · rw [if_pos h, if_pos (by omega)]
  · rw [if_neg h, if_neg (by omega)]
theorem foldTab_size : foldTab.size = 256 := tab2_size 26
theorem foldTab_one : foldTab.all (·.oneCell') = true := by
  rw [Array.all_eq_true]
  intro i hi
  have h := foldTab_at i (by simpa [foldTab_size] using hi)
  rw [Array.getElem?_eq_getElem hi] at h
  simp only [Option.some.injEq] at h
  rw [h]; rfl
end Go.Proofs.Ytgjngnignjbdlaa

/-
  Plain facts of chapter 18: how many places of two texts are not alike; what it costs to make one text of another.
-/
import Derived.Test.YtgikjopmijomgabDistFacts
namespace Go.Proofs.Ytgikjopmijomgab
open Go.RowKit
set_option linter.unusedVariables false
set_option maxRecDepth 100000
/-- how many places of two lists are not alike -/
def hamL : List UInt8 → List UInt8 → Nat
  | x :: a, y :: b => df x y + hamL a b
  | _, _ => 0
theorem hamL_symm : ∀ a b, hamL a b = hamL b a
  | [], [] => rfl
  | [], _ :: _ => rfl
  | _ :: _, [] => rfl
  | x :: a, y :: b => by rw [hamL, hamL, df_symm x y, hamL_symm a b]
theorem hamL_self : ∀ a, hamL a a = 0
  | [] => rfl
  | x :: a => by rw [hamL, df_self, hamL_self a]
theorem hamL_le : ∀ a b, hamL a b ≤ a.length
  | [], _ => by simp [hamL]
  | _ :: _, [] => by simp [hamL]
  | x :: a, y :: b => by rw [hamL]; have := df_le x y; have := hamL_le a b; simp only [List.length_cons]; omega
theorem hamL_ed : ∀ a b, a.length = b.length → ed a b ≤ hamL a b
  | [], [], _ => by rw [ed_self]; exact Nat.zero_le _
  | [], _ :: _, h => by simp at h
  | _ :: _, [], h => by simp at h
  | x :: a, y :: b, h => by
    have := ed_both x y a b
    have := hamL_ed a b (by simpa using h)
    rw [hamL]; omega
theorem hamL_zero : ∀ a b, a.length = b.length → (hamL a b = 0 ↔ a = b)
  | [], [], _ => by simp [hamL]
  | [], _ :: _, h => by simp at h
  | _ :: _, [], h => by simp at h
  | x :: a, y :: b, h => by
    have ih := hamL_zero a b (by simpa using h)
    rw [hamL]
    constructor
    · intro e
      have e1 : df x y = 0 := by omega
      have e2 : hamL a b = 0 := by omega
      have : x = y := by unfold df at e1; split at e1; assumption; omega
      rw [this, ih.1 e2]
    · intro e
      injection e with e1 e2
      rw [e1, df_self, ih.2 e2]
theorem hamL_tri : ∀ a c b, a.length = c.length → c.length = b.length → hamL a b ≤ hamL a c + hamL c b
  | [], _, _, _, _ => by simp [hamL]
  | _ :: _, [], _, h, _ => by simp at h
  | _ :: _, _ :: _, [], _, h => by simp at h
  | x :: a, z :: c, y :: b, h, h2 => by
    have := hamL_tri a c b (by simpa using h) (by simpa using h2)
    have := df_tri x z y
    simp only [hamL]; omega
theorem hamL_snoc : ∀ (a b : List UInt8) (x y : UInt8), a.length = b.length → hamL (a ++ [x]) (b ++ [y]) = hamL a b + df x y
  | [], [], x, y, _ => by simp [hamL]
  | [], _ :: _, _, _, h => by simp at h
  | _ :: _, [], _, _, h => by simp at h
  | u :: a, v :: b, x, y, h => by
    have := hamL_snoc a b x y (by simpa using h)
    simp only [List.cons_append, hamL]; omega
/-- what a byte changed costs -/
def tuI (t : Int) (x y : UInt8) : Int := if x = y then 0 else t
/-- what it costs to make the first k bytes of r of the first i bytes of s -/
def cstAt (s r : ByteArray) (p d t : Int) : Nat → Nat → Int
  | 0, 0 => 0
  | 0, i + 1 => cstAt s r p d t 0 i + d
  | k + 1, 0 => cstAt s r p d t k 0 + p
  | k + 1, i + 1 => min3 (cstAt s r p d t k i + tuI t (byteAt s i) (byteAt r k)) (cstAt s r p d t k (i + 1) + p) (cstAt s r p d t (k + 1) i + d)
theorem tuI_bnd {t : Int} (h : 0 ≤ t) (x y : UInt8) : 0 ≤ tuI t x y ∧ tuI t x y ≤ t := by unfold tuI; split <;> omega
theorem tuI_symm (t : Int) (x y : UInt8) : tuI t x y = tuI t y x := by
  unfold tuI; by_cases h : x = y
  · rw [if_pos h, if_pos h.symm]
  · rw [if_neg h, if_neg (fun e => h e.symm)]
theorem tuI_self (t : Int) (x : UInt8) : tuI t x x = 0 := if_pos rfl
theorem tuI_three (t : Int) (x y : UInt8) : tuI (3 * t) x y = 3 * tuI t x y := by unfold tuI; split <;> omega
theorem tuI_more (t : Int) (x y : UInt8) : tuI t x y ≤ tuI (t + 1) x y ∧ tuI (t + 1) x y ≤ tuI t x y + 1 := by unfold tuI; split <;> omega
theorem cst_pair {M : Nat → Nat → Prop} (h0 : M 0 0) (h1 : ∀ i, M 0 i → M 0 (i + 1)) (h2 : ∀ k, M k 0 → M (k + 1) 0) (h3 : ∀ k i, M k i → M k (i + 1) → M (k + 1) i → M (k + 1) (i + 1)) : ∀ k i, M k i := by
  intro k
  induction k with
  | zero => intro i; induction i with
    | zero => exact h0
    | succ i ih => exact h1 i ih
  | succ k ihk => intro i; induction i with
    | zero => exact h2 k (ihk 0)
    | succ i ih => exact h3 k i (ihk i) (ihk (i + 1)) ih
theorem cst_first (s r : ByteArray) (p d t : Int) : ∀ i, cstAt s r p d t 0 i = d * (i : Int)
  | 0 => by simp [cstAt]
  | i + 1 => by rw [cstAt, cst_first s r p d t i, Int.natCast_add, Int.mul_add]; omega
theorem cst_head (s r : ByteArray) (p d t : Int) : ∀ k, cstAt s r p d t k 0 = p * (k : Int)
  | 0 => by simp [cstAt]
  | k + 1 => by rw [cstAt, cst_head s r p d t k, Int.natCast_add, Int.mul_add]; omega
theorem cst_bnd (s r : ByteArray) {p d t : Int} (hp : 0 ≤ p) (hd : 0 ≤ d) (ht : 0 ≤ t) (hp2 : p ≤ 1000) (hd2 : d ≤ 1000) (k i : Nat) : 0 ≤ cstAt s r p d t k i ∧ cstAt s r p d t k i ≤ 1000 * ((k : Int) + i) := by
  refine cst_pair (M := fun k i => 0 ≤ cstAt s r p d t k i ∧ cstAt s r p d t k i ≤ 1000 * ((k : Int) + i)) ?_ ?_ ?_ ?_ k i
  · simp [cstAt]
  · intro i h; simp only [cstAt]; omega
  · intro i h; simp only [cstAt]; omega
  · intro k i h1 h2 h3
    simp only [cstAt]
    have hm := min3_spec (cstAt s r p d t k i + tuI t (byteAt s i) (byteAt r k)) (cstAt s r p d t k (i + 1) + p) (cstAt s r p d t (k + 1) i + d)
    have hb := tuI_bnd ht (byteAt s i) (byteAt r k)
    omega
theorem min3_perm (a b c : Int) : min3 a b c = min3 a c b := by
  have h1 := min3_spec a b c
  have h2 := min3_spec a c b
  omega
theorem cst_symm (s r : ByteArray) (p d t : Int) (k i : Nat) : cstAt r s d p t i k = cstAt s r p d t k i := by
  refine cst_pair (M := fun k i => cstAt r s d p t i k = cstAt s r p d t k i) ?_ ?_ ?_ ?_ k i
  · simp [cstAt]
  · intro i h; simp only [cstAt]; rw [h]
  · intro i h; simp only [cstAt]; rw [h]
  · intro k i h1 h2 h3
    simp only [cstAt]
    rw [h1, h2, h3, min3_perm, tuI_symm]
theorem cst_three (s r : ByteArray) (p d t : Int) (k i : Nat) : cstAt s r (3 * p) (3 * d) (3 * t) k i = 3 * cstAt s r p d t k i := by
  refine cst_pair (M := fun k i => cstAt s r (3 * p) (3 * d) (3 * t) k i = 3 * cstAt s r p d t k i) ?_ ?_ ?_ ?_ k i
  · simp [cstAt]
  · intro i h; simp only [cstAt]; omega
  · intro i h; simp only [cstAt]; omega
  · intro k i h1 h2 h3
    simp only [cstAt]
    rw [h1, h2, h3, tuI_three]
    have m1 := min3_spec (3 * cstAt s r p d t k i + 3 * tuI t (byteAt s i) (byteAt r k)) (3 * cstAt s r p d t k (i + 1) + 3 * p) (3 * cstAt s r p d t (k + 1) i + 3 * d)
    have m2 := min3_spec (cstAt s r p d t k i + tuI t (byteAt s i) (byteAt r k)) (cstAt s r p d t k (i + 1) + p) (cstAt s r p d t (k + 1) i + d)
    omega
theorem cst_above (s r : ByteArray) (p d t : Int) (k i : Nat) : cstAt s r p d t k i ≤ p * (k : Int) + d * (i : Int) := by
  refine cst_pair (M := fun k i => cstAt s r p d t k i ≤ p * (k : Int) + d * (i : Int)) ?_ ?_ ?_ ?_ k i
  · simp [cstAt]
  · intro i h; simp only [cstAt]; rw [Int.natCast_add, Int.mul_add]; omega
  · intro i h; simp only [cstAt]; rw [Int.natCast_add, Int.mul_add]; omega
  · intro k i h1 h2 h3
    simp only [cstAt]
    have m2 := min3_spec (cstAt s r p d t k i + tuI t (byteAt s i) (byteAt r k)) (cstAt s r p d t k (i + 1) + p) (cstAt s r p d t (k + 1) i + d)
    rw [Int.natCast_add i 1, Int.mul_add d]; omega
theorem cst_self (s : ByteArray) (p d t : Int) : ∀ k, cstAt s s p d t k k ≤ 0
  | 0 => by simp [cstAt]
  | k + 1 => by
    have ih := cst_self s p d t k
    simp only [cstAt]
    have m2 := min3_spec (cstAt s s p d t k k + tuI t (byteAt s k) (byteAt s k)) (cstAt s s p d t k (k + 1) + p) (cstAt s s p d t (k + 1) k + d)
    rw [tuI_self] at *; omega
theorem cst_more (s r : ByteArray) (p d t : Int) (k i : Nat) : cstAt s r p d t k i ≤ cstAt s r (p + 1) (d + 1) (t + 1) k i ∧ cstAt s r (p + 1) (d + 1) (t + 1) k i ≤ cstAt s r p d t k i + k + i := by
  refine cst_pair (M := fun k i => cstAt s r p d t k i ≤ cstAt s r (p + 1) (d + 1) (t + 1) k i ∧ cstAt s r (p + 1) (d + 1) (t + 1) k i ≤ cstAt s r p d t k i + k + i) ?_ ?_ ?_ ?_ k i
  · simp [cstAt]
  · intro i h; simp only [cstAt]; omega
  · intro i h; simp only [cstAt]; omega
  · intro k i h1 h2 h3
    simp only [cstAt]
    have m1 := min3_spec (cstAt s r (p + 1) (d + 1) (t + 1) k i + tuI (t + 1) (byteAt s i) (byteAt r k)) (cstAt s r (p + 1) (d + 1) (t + 1) k (i + 1) + (p + 1)) (cstAt s r (p + 1) (d + 1) (t + 1) (k + 1) i + (d + 1))
    have m2 := min3_spec (cstAt s r p d t k i + tuI t (byteAt s i) (byteAt r k)) (cstAt s r p d t k (i + 1) + p) (cstAt s r p d t (k + 1) i + d)
    have m3 := tuI_more t (byteAt s i) (byteAt r k)
    omega
end Go.Proofs.Ytgikjopmijomgab

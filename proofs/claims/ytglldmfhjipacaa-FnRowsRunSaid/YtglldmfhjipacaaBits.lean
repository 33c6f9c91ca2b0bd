/-
  Plain facts on bits of int64, without any program.
-/
import Derived.Test.YtglldmfhjipacaaCols
import Derived.Laws.BitsLemmas
namespace Go.Proofs.Ytglldmfhjipacaa
open Go.RowKit
set_option linter.unusedVariables false
set_option maxRecDepth 100000
def bv (x : Int) : BitVec 64 := BitVec.ofInt 64 x
def I64 (x : Int) : Prop := -9223372036854775808 ≤ x ∧ x ≤ 9223372036854775807
theorem wrap_toInt (v : BitVec 64) : IntKind.i64.wrap (v.toNat : Int) = v.toInt := by
  rw [IntKind.wrap_i64, BitVec.toInt_eq_toNat_cond]
  have := v.isLt
  split <;> omega
theorem bits_and (x y : Int) : bits .and .i64 x y = (bv x &&& bv y).toInt := wrap_toInt _
theorem bits_or (x y : Int) : bits .or .i64 x y = (bv x ||| bv y).toInt := wrap_toInt _
theorem bits_xor (x y : Int) : bits .xor .i64 x y = (bv x ^^^ bv y).toInt := wrap_toInt _
theorem bits_andNot (x y : Int) : bits .andNot .i64 x y = (bv x &&& ~~~ (bv y)).toInt := wrap_toInt _
theorem bv_toInt (v : BitVec 64) : bv v.toInt = v := BitVec.ofInt_toInt
theorem toInt_bv {x : Int} (h : I64 x) : (bv x).toInt = x := by
  unfold bv; rw [BitVec.toInt_ofInt]
  obtain ⟨h1, h2⟩ := h
  rw [Int.bmod_eq_of_le (by omega) (by omega)]
theorem i64_toInt (v : BitVec 64) : I64 v.toInt := ⟨by have := BitVec.le_toInt v; simpa using this, by have := BitVec.toInt_lt (x := v); simp at this; omega⟩
theorem bv_inj {x y : Int} (hx : I64 x) (hy : I64 y) (h : bv x = bv y) : x = y := by rw [← toInt_bv hx, ← toInt_bv hy, h]
theorem bv_nat (m : Nat) : bv (m : Int) = BitVec.ofNat 64 m := by unfold bv; exact BitVec.ofInt_natCast 64 m
theorem pow_nat (n : Nat) : ((2 : Int) ^ n - 1) = ((2 ^ n - 1 : Nat) : Int) := by
  have h : 0 < 2 ^ n := Nat.two_pow_pos n
  rw [Int.natCast_sub h]; simp
/-- the lowest n bits -/
def lowV (n : Nat) : BitVec 64 := BitVec.ofNat 64 (2 ^ n - 1)
theorem bv_low (n : Nat) : bv ((2 : Int) ^ n - 1) = lowV n := by rw [pow_nat, bv_nat]; rfl
theorem low_bit (n i : Nat) : (lowV n).getLsbD i = (decide (i < 64) && decide (i < n)) := by
  unfold lowV; rw [BitVec.getLsbD_ofNat, Nat.testBit_two_pow_sub_one]
theorem i64_low {n : Nat} (h : n ≤ 62) : I64 ((2 : Int) ^ n - 1) := by
  have h1 : (2 : Nat) ^ n ≤ 2 ^ 62 := Nat.pow_le_pow_right (by decide) h
  have h2 : ((2 ^ n : Nat) : Int) = (2 : Int) ^ n := by simp
  have h3 : 0 < (2 : Nat) ^ n := Nat.two_pow_pos n
  unfold I64; omega
theorem bv_zero : bv 0 = 0#64 := rfl
theorem toInt_zero_iff (v : BitVec 64) : v.toInt = 0 ↔ v = 0#64 := by
  constructor
  · intro h; have := bv_toInt v; rw [h] at this; exact this.symm
  · rintro rfl; rfl
theorem bv_eq_iff (u v : BitVec 64) : u = v ↔ ∀ i, i < 64 → u.getLsbD i = v.getLsbD i :=
  ⟨fun h i _ => by rw [h], fun h => BitVec.eq_of_getLsbD_eq fun i hi => h i hi⟩
theorem bv_zero_iff (v : BitVec 64) : v = 0#64 ↔ ∀ i, i < 64 → v.getLsbD i = false := by
  rw [bv_eq_iff]; simp
/-- x has bits below n alone -/
theorem within_iff {x : Int} (hx : I64 x) {n : Nat} (hn : n ≤ 62) : (0 ≤ x ∧ x ≤ 2 ^ n - 1) ↔ ∀ i, i < 64 → (bv x).getLsbD i = true → i < n := by
  have h1 : (2 : Nat) ^ n ≤ 2 ^ 62 := Nat.pow_le_pow_right (by decide) hn
  have h2 : ((2 ^ n : Nat) : Int) = (2 : Int) ^ n := by simp
  constructor
  · rintro ⟨ha, hb⟩ i hi hbit
    obtain ⟨m, rfl⟩ := Int.eq_ofNat_of_zero_le ha
    rw [bv_nat, BitVec.getLsbD_ofNat] at hbit
    simp only [Bool.and_eq_true, decide_eq_true_eq] at hbit
    by_cases hin : i < n
    · exact hin
    · exfalso
      have := Nat.testBit_lt_two_pow (x := m) (i := i) (Nat.lt_of_lt_of_le (by omega) (Nat.pow_le_pow_right (by decide) (by omega : n ≤ i)))
      rw [this] at hbit; exact absurd hbit.2 (by decide)
  · intro h
    have hlt : (bv x).toNat < 2 ^ n := by
      apply Nat.lt_pow_two_of_testBit
      intro i hi
      cases hb : (bv x).toNat.testBit i
      · rfl
      · exfalso
        by_cases h64 : i < 64
        · have := h i h64 (by rw [← BitVec.testBit_toNat]; exact hb); omega
        · have := Nat.testBit_lt_two_pow (x := (bv x).toNat) (i := i) (Nat.lt_of_lt_of_le (bv x).isLt (Nat.pow_le_pow_right (by decide) (by omega)))
          rw [this] at hb; cases hb
    have he := toInt_bv hx
    rw [BitVec.toInt_eq_toNat_cond] at he
    rw [if_pos (by omega)] at he
    omega
theorem andNot_zero_iff (x y : Int) : bits .andNot .i64 x y = 0 ↔ ∀ i, i < 64 → (bv x).getLsbD i = true → (bv y).getLsbD i = true := by
  rw [bits_andNot, toInt_zero_iff, bv_zero_iff]
  constructor
  · intro h i hi hx
    have := h i hi
    simp only [BitVec.getLsbD_and, BitVec.getLsbD_not, hx, Bool.true_and, hi, decide_true] at this
    simpa using this
  · intro h i hi
    simp only [BitVec.getLsbD_and, BitVec.getLsbD_not, hi, decide_true, Bool.true_and]
    cases hx : (bv x).getLsbD i
    · rfl
    · rw [h i hi hx]; rfl
theorem andNot_low {x : Int} (hx : I64 x) {n : Nat} (hn : n ≤ 62) : bits .andNot .i64 x (2 ^ n - 1) = 0 ↔ 0 ≤ x ∧ x ≤ 2 ^ n - 1 := by
  rw [andNot_zero_iff, within_iff hx hn, bv_low]
  constructor
  · intro h i hi hb
    have := h i hi hb
    rw [low_bit] at this; simpa [hi] using this
  · intro h i hi hb
    rw [low_bit]; simp [hi, h i hi hb]
theorem bv_and (x y : Int) : bv (bits .and .i64 x y) = bv x &&& bv y := by rw [bits_and, bv_toInt]
theorem bv_or (x y : Int) : bv (bits .or .i64 x y) = bv x ||| bv y := by rw [bits_or, bv_toInt]
theorem bv_xor (x y : Int) : bv (bits .xor .i64 x y) = bv x ^^^ bv y := by rw [bits_xor, bv_toInt]
theorem bv_andNot (x y : Int) : bv (bits .andNot .i64 x y) = bv x &&& ~~~ (bv y) := by rw [bits_andNot, bv_toInt]
theorem i64_and (x y : Int) : I64 (bits .and .i64 x y) := by rw [bits_and]; exact i64_toInt _
theorem i64_or (x y : Int) : I64 (bits .or .i64 x y) := by rw [bits_or]; exact i64_toInt _
theorem i64_xor (x y : Int) : I64 (bits .xor .i64 x y) := by rw [bits_xor]; exact i64_toInt _
theorem i64_andNot (x y : Int) : I64 (bits .andNot .i64 x y) := by rw [bits_andNot]; exact i64_toInt _
/-- x has all of the lowest m bits -/
theorem and_low_iff {x : Int} {m : Nat} (hm : m ≤ 62) : bits .and .i64 x (2 ^ m - 1) = 2 ^ m - 1 ↔ ∀ i, i < m → (bv x).getLsbD i = true := by
  have e : bits .and .i64 x (2 ^ m - 1) = 2 ^ m - 1 ↔ bv x &&& lowV m = lowV m := by
    constructor
    · intro h; rw [← bv_low m, ← bv_and, h]
    · intro h; apply bv_inj (i64_and _ _) (i64_low hm); rw [bv_and, bv_low]; exact h
  rw [e, bv_eq_iff]
  constructor
  · intro h i hi
    have := h i (by omega)
    rw [BitVec.getLsbD_and, low_bit] at this
    simpa [hi, show i < 64 by omega] using this
  · intro h i hi
    rw [BitVec.getLsbD_and, low_bit]
    by_cases hm : i < m
    · simp [h i hm]
    · simp [hm]
/-- the bits that a row can not be without -/
def neededI (ahead : Int) (k n : Nat) : Int := bits .or .i64 ahead (bits .and .i64 (2 ^ k - 1) (2 ^ n - 1))
theorem needed_bit (ahead : Int) (k n i : Nat) (hi : i < 64) : (bv (neededI ahead k n)).getLsbD i = ((bv ahead).getLsbD i || decide (i < min k n)) := by
  unfold neededI
  rw [bv_or, bv_and, bv_low, bv_low, BitVec.getLsbD_or, BitVec.getLsbD_and, low_bit, low_bit]
  have : decide (i < min k n) = (decide (i < k) && decide (i < n)) := by
    rw [Bool.eq_iff_iff]; simp; omega
  rw [this]; simp [hi]
theorem needed_iff (ahead x : Int) (k n : Nat) (hk : k ≤ 62) : bits .andNot .i64 (neededI ahead k n) x = 0 ↔ bits .and .i64 x (2 ^ (min k n) - 1) = 2 ^ (min k n) - 1 ∧ bits .andNot .i64 ahead x = 0 := by
  rw [and_low_iff (by omega), andNot_zero_iff, andNot_zero_iff]
  constructor
  · intro h
    refine ⟨fun i hi => h i (by omega) ?_, fun i hi hb => h i hi ?_⟩
    · rw [needed_bit _ _ _ _ (by omega)]; simp only [hi, decide_true, Bool.or_true]
    · rw [needed_bit _ _ _ _ hi, hb]; rfl
  · rintro ⟨h1, h2⟩ i hi hb
    rw [needed_bit _ _ _ _ hi] at hb
    simp only [Bool.or_eq_true, decide_eq_true_eq] at hb
    rcases hb with hb | hb
    · exact h2 i hi hb
    · exact h1 i hb
theorem andNot_zero_left (x : Int) : bits .andNot .i64 0 x = 0 := by
  rw [andNot_zero_iff]; intro i _ h; simp [bv_zero] at h
end Go.Proofs.Ytglldmfhjipacaa

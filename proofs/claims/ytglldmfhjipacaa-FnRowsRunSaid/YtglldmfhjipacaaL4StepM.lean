/-
  Chapter 4: plain facts on the bits of a column and of the next one.
-/
import Derived.Test.YtglldmfhjipacaaColNear
import Derived.Test.YtglldmfhjipacaaBits
import Derived.Test.YtglldmfhjipacaaL4Col
import Derived.Test.YtglldmfhjipacaaL4Ok
namespace Go.Proofs.Ytglldmfhjipacaa
open Go.RowKit
set_option linter.unusedVariables false
set_option maxRecDepth 100000
/-- one place of a column and of the next one -/
theorem myers_cell (e : Bool) (c c1 n n1 : Int) (h1 : c - 1 ≤ c1 ∧ c1 ≤ c + 1) (h2 : c - 1 ≤ n ∧ n ≤ c + 1) (hn : n1 = min3 (if e then c else c + 1) (c1 + 1) (n + 1)) :
    decide (n1 - c1 = 1) = (decide (c1 - c = -1) || !(e || decide (n - c = -1) || decide (c1 - c = 1))) ∧
    decide (n1 - c1 = -1) = (decide (c1 - c = 1) && (e || decide (n - c = -1))) ∧
    decide (n1 - n = 1) = (decide (n - c = -1) || !(e || decide (c1 - c = -1) || decide (n - c = 1))) ∧
    decide (n1 - n = -1) = (decide (n - c = 1) && (e || decide (c1 - c = -1))) := by
  have m := min3_spec (if e then c else c + 1) (c1 + 1) (n + 1)
  rw [← hn] at m
  clear hn
  cases e <;> simp only [Bool.false_eq_true, if_false, if_true] at m <;> refine ⟨?_, ?_, ?_, ?_⟩ <;> rw [Bool.eq_iff_iff] <;> simp <;> omega
/-- ahead of which places the number falls -/
def hneg (E P : Nat → Bool) : Nat → Bool
  | 0 => false
  | i + 1 => P i && (E i || hneg E P i)
theorem carry_hneg (x y : BitVec 64) (i : Nat) : BitVec.carry i (x &&& y) y false = hneg x.getLsbD y.getLsbD i := by
  induction i with
  | zero => simp [BitVec.carry_zero, hneg]
  | succ i ih =>
    rw [BitVec.carry_succ, ih, hneg, BitVec.getLsbD_and]
    cases x.getLsbD i <;> cases y.getLsbD i <;> cases hneg x.getLsbD y.getLsbD i <;> rfl
theorem level_bit (x y : BitVec 64) (i : Nat) (hi : i < 64) : ((((x &&& y) + y) ^^^ y) ||| x).getLsbD i = (x.getLsbD i || hneg x.getLsbD y.getLsbD i) := by
  rw [BitVec.getLsbD_or, BitVec.getLsbD_xor, BitVec.getLsbD_add hi, carry_hneg, BitVec.getLsbD_and]
  cases x.getLsbD i <;> cases y.getLsbD i <;> cases hneg x.getLsbD y.getLsbD i <;> rfl
theorem hneg_congr {E E' P P' : Nat → Bool} {n : Nat} (h1 : ∀ i, i < n → E i = E' i) (h2 : ∀ i, i < n → P i = P' i) : ∀ i, i ≤ n → hneg E P i = hneg E' P' i := by
  intro i
  induction i with
  | zero => intro _; rfl
  | succ i ih => intro hi; simp only [hneg]; rw [h1 i (by omega), h2 i (by omega), ih (by omega)]
def riseF (C : Nat → Int) (i : Nat) : Bool := decide (C (i + 1) - C i = 1)
def fallF (C : Nat → Int) (i : Nat) : Bool := decide (C (i + 1) - C i = -1)
theorem hneg_col {eq : Nat → Bool} {C : Nat → Int} {n : Nat} (h : Near C n) : ∀ i, i ≤ n → hneg eq (riseF C) i = decide (nextAt eq C 0 i - C i = -1) := by
  obtain ⟨_, hn⟩ := near_next (eq := eq) h
  intro i
  induction i with
  | zero => intro _; simp only [hneg, nextAt]; rw [h.1]; rfl
  | succ i ih =>
    intro hi
    have m := (myers_cell (eq i) (C i) (C (i + 1)) (nextAt eq C 0 i) (nextAt eq C 0 (i + 1)) (h.2.2 i (by omega)) (hn i (by omega)) rfl).2.1
    rw [m, hneg, ih (by omega)]; rfl
/-- the bits of the next column -/
theorem myers_bits {eq : Nat → Bool} {C : Nat → Int} {n : Nat} (h : Near C n) (i : Nat) (hi : i < n) :
    decide (nextAt eq C 0 (i + 1) - C (i + 1) = 1) = (fallF C i || !(eq i || hneg eq (riseF C) i || riseF C i)) ∧
    decide (nextAt eq C 0 (i + 1) - C (i + 1) = -1) = (riseF C i && (eq i || hneg eq (riseF C) i)) ∧
    riseF (nextAt eq C 0) i = (decide (nextAt eq C 0 i - C i = -1) || !(eq i || fallF C i || decide (nextAt eq C 0 i - C i = 1))) ∧
    fallF (nextAt eq C 0) i = (decide (nextAt eq C 0 i - C i = 1) && (eq i || fallF C i)) := by
  obtain ⟨_, hn⟩ := near_next (eq := eq) h
  have m := myers_cell (eq i) (C i) (C (i + 1)) (nextAt eq C 0 i) (nextAt eq C 0 (i + 1)) (h.2.2 i hi) (hn i (by omega)) rfl
  rw [hneg_col h i (by omega)]
  exact m
theorem maskTo_bit (g : Nat → Bool) (n i : Nat) : (maskTo g n).testBit i = (decide (i < n) && g i) := by
  induction n with
  | zero => simp [maskTo]
  | succ n ih =>
    simp only [maskTo]
    have hl := maskTo_lt g n
    cases hg : g n
    · simp only [Bool.false_eq_true, if_false, Nat.add_zero]
      rw [ih]
      by_cases e : i = n
      · subst e; simp [hg]
      · have : decide (i < n + 1) = decide (i < n) := by by_cases h : i < n <;> simp [h] <;> omega
        rw [this]
    · simp only [if_true]
      rw [Nat.add_comm]
      by_cases e : i = n
      · subst e
        rw [Nat.testBit_two_pow_add_eq, Nat.testBit_lt_two_pow hl]; simp [hg]
      · by_cases h : i < n
        · rw [Nat.testBit_two_pow_add_gt h, ih]
          have h2 : i < n + 1 := by omega
          simp [h, h2]
        · have h3 : 2 ^ n + maskTo g n < 2 ^ i := by
            have : 2 ^ (n + 1) ≤ 2 ^ i := Nat.pow_le_pow_right (by omega) (by omega)
            rw [Nat.pow_succ] at this; omega
          rw [Nat.testBit_lt_two_pow h3]
          have h2 : ¬ i < n + 1 := by omega
          simp [h2]

theorem bv_natbit (x : Nat) (i : Nat) (hi : i < 64) : (bv (x : Int)).getLsbD i = x.testBit i := by
  rw [bv_nat, BitVec.getLsbD_ofNat]; simp [hi]
theorem bv_mask (g : Nat → Bool) (n i : Nat) (hi : i < 64) : (bv ((maskTo g n : Nat) : Int)).getLsbD i = (decide (i < n) && g i) := by
  rw [bv_natbit _ _ hi, maskTo_bit]
theorem bitI_bv {x : Int} (h0 : 0 ≤ x) (i : Nat) (hi : i < 64) : bitI x i = if (bv x).getLsbD i then 1 else 0 := by
  obtain ⟨m, rfl⟩ := Int.eq_ofNat_of_zero_le h0
  rw [bv_natbit m i hi, Nat.testBit_eq_decide_div_mod_eq]
  unfold bitI
  have e : ((m : Int) / 2 ^ i) % 2 = ((m / 2 ^ i % 2 : Nat) : Int) := by simp
  rw [e]
  have := Nat.mod_lt (m / 2 ^ i) (show 0 < 2 by omega)
  by_cases h : m / 2 ^ i % 2 = 1
  · rw [h]; simp
  · have h2 : m / 2 ^ i % 2 = 0 := by omega
    rw [h2]; simp
theorem bv_twice {x : Int} (h0 : 0 ≤ x) (i : Nat) (hi : i < 64) : (bv (x * 2)).getLsbD i = (match i with | 0 => false | j + 1 => (bv x).getLsbD j) := by
  obtain ⟨m, rfl⟩ := Int.eq_ofNat_of_zero_le h0
  have e : ((m : Int) * 2) = ((m * 2 : Nat) : Int) := by omega
  rw [e, bv_natbit _ _ hi]
  cases i with
  | zero => simp
  | succ j =>
    rw [Nat.testBit_succ, Nat.mul_div_cancel _ (by omega)]
    exact (bv_natbit m j (by omega)).symm
theorem bv_not (x : Int) (i : Nat) (hi : i < 64) : (bv (bits .xor .i64 (-1) x)).getLsbD i = !(bv x).getLsbD i := by
  rw [bv_xor, BitVec.getLsbD_xor]
  have : bv (-1) = BitVec.allOnes 64 := by decide
  rw [this, BitVec.getLsbD_allOnes]; simp [hi]
theorem bv_addI (x y : Int) : bv (x + y) = bv x + bv y := by unfold bv; exact BitVec.ofInt_add _ _
/-- an int whose bits are g's below n is their mask -/
theorem mask_of_bits {x : Int} (hx : I64 x) {g : Nat → Bool} {n : Nat} (hn : n ≤ 20) (h : ∀ i, i < 64 → (bv x).getLsbD i = (decide (i < n) && g i)) : x = ((maskTo g n : Nat) : Int) := by
  have hl := maskTo_lt g n
  have hp : 2 ^ n ≤ 2 ^ 20 := Nat.pow_le_pow_right (by omega) hn
  refine bv_inj hx ⟨by omega, by omega⟩ ?_
  rw [bv_eq_iff]
  intro i hi
  rw [h i hi, bv_mask g n i hi]
/-- a column's rises and falls are the bits that made it -/
theorem rise_bits {u d : Int} {n : Nat} (hu : 0 ≤ u ∧ u ≤ 2 ^ n - 1) (hd : 0 ≤ d ∧ d ≤ 2 ^ n - 1) (hn : n ≤ 20) (h : bits .and .i64 u d = 0) (i : Nat) (hi : i < 64) :
    (bv u).getLsbD i = (decide (i < n) && riseF (colF u d) i) ∧ (bv d).getLsbD i = (decide (i < n) && fallF (colF u d) i) := by
  have p2 := pow_small n hn
  have wu := (within_iff (x := u) ⟨by omega, by omega⟩ (n := n) (by omega)).1 hu i hi
  have wd := (within_iff (x := d) ⟨by omega, by omega⟩ (n := n) (by omega)).1 hd i hi
  have hb : ¬ ((bv u).getLsbD i = true ∧ (bv d).getLsbD i = true) := by
    rintro ⟨a, b⟩
    have e : (bv (bits .and .i64 u d)).getLsbD i = true := by rw [bv_and, BitVec.getLsbD_and, a, b]; rfl
    rw [h, bv_zero] at e
    simp at e
  have r : colF u d (i + 1) - colF u d i = bitI u i - bitI d i := by simp only [colF]; omega
  have eu := bitI_bv hu.1 i hi
  have ed := bitI_bv hd.1 i hi
  unfold riseF fallF
  rw [r, eu, ed]
  cases hx : (bv u).getLsbD i <;> cases hy : (bv d).getLsbD i <;> simp [hx, hy] at wu wd hb ⊢ <;> assumption

def lvI (E u : Int) : Int := bits .or .i64 (bits .xor .i64 (bits .and .i64 E u + u) u) E
def moI (n : Nat) (E u d : Int) : Int := bits .and .i64 (bits .or .i64 d (bits .xor .i64 (-1) (bits .or .i64 (lvI E u) u))) (2 ^ n - 1)
def leI (E u : Int) : Int := bits .and .i64 u (lvI E u)
def reI (E d : Int) : Int := bits .or .i64 E d
def upI (n : Nat) (E u d : Int) : Int := bits .and .i64 (bits .or .i64 (leI E u * 2) (bits .xor .i64 (-1) (bits .or .i64 (reI E d) (moI n E u d * 2)))) (2 ^ n - 1)
def dnI (n : Nat) (E u d : Int) : Int := bits .and .i64 (moI n E u d * 2) (reI E d)
theorem low_rng {x : Int} {n : Nat} (hx : I64 x) (hn : n ≤ 20) (h : ∀ i, i < 64 → (bv x).getLsbD i = true → i < n) : 0 ≤ x ∧ x ≤ 1048576 := by
  have := (within_iff hx (n := n) (by omega)).2 h
  have := pow_small n hn
  omega
theorem lv_bit (E u : Int) (i : Nat) (hi : i < 64) : (bv (lvI E u)).getLsbD i = ((bv E).getLsbD i || hneg (bv E).getLsbD (bv u).getLsbD i) := by
  unfold lvI
  rw [bv_or, bv_xor, bv_addI, bv_and]
  exact level_bit _ _ i hi
theorem mo_rng (n : Nat) (E u d : Int) (hn : n ≤ 20) : 0 ≤ moI n E u d ∧ moI n E u d ≤ 1048576 := by
  refine low_rng (i64_and _ _) hn fun i hi h => ?_
  unfold moI at h
  rw [bv_and, BitVec.getLsbD_and, bv_low, low_bit] at h
  simp at h; omega
theorem le_rng {n : Nat} {E u : Int} (hn : n ≤ 20) (hu : ∀ i, i < 64 → (bv u).getLsbD i = true → i < n) : 0 ≤ leI E u ∧ leI E u ≤ 1048576 := by
  refine low_rng (i64_and _ _) hn fun i hi h => ?_
  unfold leI at h
  rw [bv_and, BitVec.getLsbD_and, Bool.and_eq_true] at h
  exact hu i hi h.1
/-- what the program reckons are the bits of the next column -/
theorem next_bits {g : Nat → Bool} {u d : Int} {n : Nat} (hn1 : 1 ≤ n) (hn : n ≤ 20) (hu : 0 ≤ u ∧ u ≤ 2 ^ n - 1) (hd : 0 ≤ d ∧ d ≤ 2 ^ n - 1) (hud : bits .and .i64 u d = 0) (hC : Near (colF u d) n) :
    upI n (maskTo g n : Nat) u d = ((maskTo (riseF (nextAt g (colF u d) 0)) n : Nat) : Int) ∧ dnI n (maskTo g n : Nat) u d = ((maskTo (fallF (nextAt g (colF u d) 0)) n : Nat) : Int) ∧
    colF u d n + bitI (moI n (maskTo g n : Nat) u d) (n - 1) - bitI (leI (maskTo g n : Nat) u) (n - 1) = nextAt g (colF u d) 0 n ∧ (0 ≤ moI n (maskTo g n : Nat) u d ∧ moI n (maskTo g n : Nat) u d ≤ 1048576) ∧ 0 ≤ leI (maskTo g n : Nat) u ∧ leI (maskTo g n : Nat) u ≤ 1048576 := by
  have rb := rise_bits hu hd hn hud
  have eb := bv_mask g n
  obtain ⟨_, hnear⟩ := near_next (eq := g) hC
  generalize hE : ((maskTo g n : Nat) : Int) = E at *
  have hlow : ∀ i, i < 64 → (bv u).getLsbD i = true → i < n := fun i hi h => by rw [(rb i hi).1] at h; simp at h; exact h.1
  have mor := mo_rng n E u d hn
  have ler := le_rng (E := E) hn hlow
  have hng : ∀ i, i ≤ n → hneg (bv E).getLsbD (bv u).getLsbD i = hneg g (riseF (colF u d)) i := by
    refine hneg_congr (n := n) (fun i hi => ?_) fun i hi => ?_
    · rw [eb i (by omega)]; simp [hi]
    · rw [(rb i (by omega)).1]; simp [hi]
  have mob : ∀ i, i < n → (bv (moI n E u d)).getLsbD i = decide (nextAt g (colF u d) 0 (i + 1) - colF u d (i + 1) = 1) := by
    intro i hi
    have h64 : i < 64 := by omega
    rw [(myers_bits (eq := g) hC i hi).1]
    unfold moI
    rw [bv_and, BitVec.getLsbD_and, bv_low, low_bit, bv_or, BitVec.getLsbD_or, bv_not _ i h64, bv_or, BitVec.getLsbD_or, lv_bit _ _ i h64, hng i (by omega), (rb i h64).1, (rb i h64).2, eb i h64]
    simp [hi, h64]
  have leb : ∀ i, i < n → (bv (leI E u)).getLsbD i = decide (nextAt g (colF u d) 0 (i + 1) - colF u d (i + 1) = -1) := by
    intro i hi
    have h64 : i < 64 := by omega
    rw [(myers_bits (eq := g) hC i hi).2.1]
    unfold leI
    rw [bv_and, BitVec.getLsbD_and, lv_bit _ _ i h64, hng i (by omega), (rb i h64).1, eb i h64]
    simp [hi]
  have mo2 : ∀ i, i < n → (bv (moI n E u d * 2)).getLsbD i = decide (nextAt g (colF u d) 0 i - colF u d i = 1) := by
    intro i hi
    rw [bv_twice mor.1 i (by omega)]
    cases i with
    | zero => have := hC.1; simp [nextAt, this]
    | succ j => exact mob j (by omega)
  have le2 : ∀ i, i < n → (bv (leI E u * 2)).getLsbD i = decide (nextAt g (colF u d) 0 i - colF u d i = -1) := by
    intro i hi
    rw [bv_twice ler.1 i (by omega)]
    cases i with
    | zero => have := hC.1; simp [nextAt, this]
    | succ j => exact leb j (by omega)
  refine ⟨?_, ?_, ?_, mor, ler⟩
  · refine mask_of_bits (i64_and _ _) hn fun i hi => ?_
    unfold reI
    rw [bv_and, BitVec.getLsbD_and, bv_low, low_bit, bv_or, BitVec.getLsbD_or, bv_not _ i hi, bv_or, BitVec.getLsbD_or, bv_or, BitVec.getLsbD_or]
    by_cases h : i < n
    · rw [(myers_bits (eq := g) hC i h).2.2.1, le2 i h, mo2 i h, (rb i hi).2, eb i hi]
      simp [h, hi]
    · simp [h]
  · refine mask_of_bits (i64_and _ _) hn fun i hi => ?_
    unfold reI
    rw [bv_and, BitVec.getLsbD_and, bv_or, BitVec.getLsbD_or]
    by_cases h : i < n
    · rw [(myers_bits (eq := g) hC i h).2.2.2, mo2 i h, (rb i hi).2, eb i hi]
      simp [h]
    · rw [(rb i hi).2, eb i hi]; simp [h]
  · obtain ⟨m, rfl⟩ : ∃ m, n = m + 1 := ⟨n - 1, by omega⟩
    rw [Nat.add_sub_cancel, bitI_bv mor.1 m (by omega), bitI_bv ler.1 m (by omega), mob m (by omega), leb m (by omega)]
    have := hnear (m + 1) (by omega)
    simp only [decide_eq_true_eq]
    split <;> split <;> omega
end Go.Proofs.Ytglldmfhjipacaa

/-
  Chapter 5: plain facts: rows that are stepped are right, and those of a column are stepped to those of the next one.
-/
import Derived.Test.YtglldmfhjipacaaL5StepT
import Derived.Test.YtglldmfhjipacaaL4StepM
import Derived.Test.YtglldmfhjipacaaL5New
import Derived.Test.YtglldmfhjipacaaColNear
namespace Go.Proofs.Ytglldmfhjipacaa
open Go.RowKit
set_option linter.unusedVariables false
set_option maxRecDepth 100000
set_option linter.unusedSimpArgs false
/-- the bit of a place that the beginning one byte less has; of the empty one it is always there -/
def behind (g : Nat → Bool) : Nat → Bool
  | 0 => true
  | i + 1 => g i
theorem one_bit (i : Nat) : (bv 1).getLsbD i = decide (i = 0) := by
  show (1#64).getLsbD i = _
  rw [BitVec.getLsbD_one]; simp
theorem mv_bit {x : Int} (h : 0 ≤ x) (i : Nat) (hi : i < 64) : (bv (mvI x)).getLsbD i = behind (bv x).getLsbD i := by
  unfold mvI
  rw [bv_or, BitVec.getLsbD_or, bv_twice h i hi, one_bit]
  cases i with
  | zero => rfl
  | succ j => simp [behind]
theorem behind_mono {g h : Nat → Bool} {n : Nat} (hg : ∀ i, i < n → g i = true → h i = true) : ∀ i, i < n → behind g i = true → behind h i = true := by
  intro i hi
  cases i with
  | zero => intro _; rfl
  | succ i => exact hg i (by omega)
/-- the bits of rows that are stepped -/
def stepG (m : Nat → Bool) (n : Nat) (C : Nat → Nat → Bool) : Nat → Nat → Bool
  | 0 => fun i => behind (C 0) i && m i && decide (i < n)
  | j + 1 => fun i => (behind (C (j + 1)) i && m i || (C j i || behind (C j) i || behind (stepG m n C j) i)) && decide (i < n)
theorem stepF_bits (m : Int) {n : Nat} (hn : n ≤ 20) (C : Nat → Int) (N : Nat) (hC : ∀ j, j < N → 0 ≤ C j) : ∀ j, j < N → ∀ i, i < 64 → (bv (stepF m (2 ^ n - 1) C j)).getLsbD i = stepG (bv m).getLsbD n (fun j => (bv (C j)).getLsbD) j i := by
  intro j
  induction j with
  | zero =>
    intro hj i hi
    simp only [stepF, stepG]
    rw [bv_and, bv_and, bv_low, BitVec.getLsbD_and, BitVec.getLsbD_and, low_bit, mv_bit (hC 0 hj) i hi]
    simp [hi]
  | succ j ih =>
    intro hj i hi
    simp only [stepF, stepG]
    rw [bv_and, bv_or, bv_and, bv_or, bv_or, bv_low, BitVec.getLsbD_and, BitVec.getLsbD_or, BitVec.getLsbD_and, BitVec.getLsbD_or, BitVec.getLsbD_or, low_bit, mv_bit (hC _ hj) i hi, mv_bit (hC j (by omega)) i hi, mv_bit (stepF_range m hn C j).1 i hi]
    have hb : behind (bv (stepF m (2 ^ n - 1) C j)).getLsbD i = behind (stepG (bv m).getLsbD n (fun j => (bv (C j)).getLsbD) j) i := by
      cases i with
      | zero => rfl
      | succ i => exact ih (by omega) i (by omega)
    rw [hb]
    simp [hi]
theorem stepG_low (m : Nat → Bool) (n : Nat) (C : Nat → Nat → Bool) : ∀ j i, i < min j n → stepG m n C j i = true := by
  intro j
  induction j with
  | zero => intro i hi; omega
  | succ j ih =>
    intro i hi
    have h1 : behind (stepG m n C j) i = true := by
      cases i with
      | zero => rfl
      | succ i => exact ih i (by omega)
    simp only [stepG, h1, Bool.or_true, Bool.true_and, decide_eq_true_eq]
    omega
theorem stepG_in (m : Nat → Bool) (n : Nat) (C : Nat → Nat → Bool) (j i : Nat) (h : stepG m n C j i = true) : i < n := by
  cases j with
  | zero => simp only [stepG, Bool.and_eq_true, decide_eq_true_eq] at h; exact h.2
  | succ j => simp only [stepG, Bool.and_eq_true, decide_eq_true_eq] at h; exact h.2
theorem stepG_mono (m : Nat → Bool) (n : Nat) (C : Nat → Nat → Bool) (N : Nat) (hC : ∀ j, j + 1 < N → ∀ i, i < 64 → C j i = true → C (j + 1) i = true) : ∀ j, j + 1 < N → ∀ i, i < 64 → stepG m n C j i = true → stepG m n C (j + 1) i = true := by
  intro j
  induction j with
  | zero =>
    intro hj i hi h
    simp only [stepG, Bool.and_eq_true, Bool.or_eq_true, decide_eq_true_eq] at h ⊢
    exact ⟨.inr (.inl (.inr h.1.1)), h.2⟩
  | succ j ih =>
    intro hj i hi h
    have mono := hC j (by omega)
    have hs := ih (by omega)
    simp only [stepG, Bool.and_eq_true, Bool.or_eq_true, decide_eq_true_eq] at h
    have goal : (behind (C (j + 1 + 1)) i && m i || (C (j + 1) i || behind (C (j + 1)) i || behind (stepG m n C (j + 1)) i)) = true := by
      simp only [Bool.and_eq_true, Bool.or_eq_true]
      rcases h.1 with h1 | (h1 | h1) | h1
      · exact .inr (.inl (.inr h1.1))
      · exact .inr (.inl (.inl (mono i hi h1)))
      · exact .inr (.inl (.inr (behind_mono (n := 64) mono i hi h1)))
      · exact .inr (.inr (behind_mono (n := 64) hs i hi h1))
    show (_ && decide (i < n)) = true
    rw [goal]; simpa using h.2
theorem rowsOkB_iff {s : ByteArray} {k : Int} {L : List Int} : rowsOkB s k L = true ↔ patOk s k = true ∧ (L.length : Int) = k + 1 ∧ rowsTo s.size L L.length = true := by
  unfold rowsOkB; simp only [Bool.and_eq_true, decide_eq_true_eq, and_assoc]
theorem rowsTo_of {n : Nat} {L : List Int} {m : Nat} (h : ∀ i, i < m → rowGood n L i = true) : rowsTo n L m = true := by
  induction m with
  | zero => rfl
  | succ m ih => exact rowsTo_succ (ih fun i hi => h i (by omega)) (h m (by omega))
/-- each row has the one ahead -/
theorem rows_mono {s : ByteArray} {k : Int} {L : List Int} (h : rowsOkB s k L = true) (hwf : ∀ i, i < L.length → I64 (intAt L i)) : ∀ j, j + 1 < L.length → bits .andNot .i64 (intAt L j) (intAt L (j + 1)) = 0 := by
  obtain ⟨hp, hl, hr⟩ := rowsOkB_iff.1 h
  obtain ⟨_, hn, _, hk⟩ := (patOk_iff s k).1 hp
  intro j hj
  have h1 := (rowGood_eq (n := s.size) (hwf (j + 1) hj) hn (by omega)).1 (rowsTo_at hr (j + 1) hj)
  exact h1.2.2 (by omega)
theorem rows_step_ok {s : ByteArray} {k : Int} {f : Bool} {b : Int} {L : List Int} (h : rowsOkB s k L = true) (hwf : ∀ i, i < L.length → I64 (intAt L i)) (hb : inB b 0 255 = true) : rowsOkB s k (rowsStepL s k f b L) = true := by
  have hmono := rows_mono h hwf
  obtain ⟨_, hbd⟩ := rowsOk_bound h hwf rfl
  have e : rowsStepL s k f b L = tab (stepF (maskI s f b) (2 ^ s.size - 1) (intAt L)) L.length := by unfold rowsStepL; rw [h, hb]; rfl
  obtain ⟨hp, hl, hr⟩ := rowsOkB_iff.1 h
  obtain ⟨_, hn, _, hk⟩ := (patOk_iff s k).1 hp
  rw [e, rowsOkB_iff, tab_length]
  refine ⟨hp, hl, rowsTo_of ?_⟩
  intro j hj
  have hrg := stepF_range (maskI s f b) hn (intAt L) j
  have hI : I64 (stepF (maskI s f b) (2 ^ s.size - 1) (intAt L) j) := ⟨by omega, by omega⟩
  have hbits := stepF_bits (maskI s f b) hn (intAt L) L.length (fun j hj => (hbd j hj).1)
  rw [rowGood_eq (by rw [intAt_tab _ _ _ hj]; exact hI) hn (by omega), intAt_tab _ _ _ hj]
  refine ⟨?_, ?_, ?_⟩
  · have := (within_iff hI (n := s.size) (by omega)).2 (fun i hi hb => by rw [hbits j hj i hi] at hb; exact stepG_in _ _ _ _ _ hb)
    simpa [inB] using this
  · rw [and_low_iff (by omega)]
    intro i hi
    rw [hbits j hj i (by omega)]
    exact stepG_low _ _ _ _ _ hi
  · intro h0
    obtain ⟨q, rfl⟩ : ∃ q, j = q + 1 := ⟨j - 1, by omega⟩
    rw [show q + 1 - 1 = q by omega, intAt_tab _ _ _ (by omega), andNot_zero_iff]
    intro i hi hb
    rw [hbits q (by omega) i hi] at hb
    rw [hbits (q + 1) hj i hi]
    refine stepG_mono _ _ _ L.length ?_ q hj i hi hb
    intro j2 hj2 i2 hi2 hb2
    have := hmono j2 hj2
    rw [andNot_zero_iff] at this
    exact this i2 hi2 hb2
/-- the rows of a column: which beginnings have no more than j -/
def rowsC (C : Nat → Int) (n : Nat) (j : Nat) : Int := ((maskTo (fun i => decide (C (i + 1) ≤ (j : Int))) n : Nat) : Int)
theorem rowsC_bit (C : Nat → Int) (n j i : Nat) (hi : i < 64) : (bv (rowsC C n j)).getLsbD i = (decide (i < n) && decide (C (i + 1) ≤ (j : Int))) := by
  unfold rowsC; rw [bv_mask _ _ _ hi]
theorem rowsC_first (n j : Nat) : rowsC (fun i => (i : Int)) n j = rowsF n j := by
  have h := rowsOf_first n n j (Nat.le_refl _)
  unfold rowsF rowsC
  rw [← h]
  congr 1
  refine maskTo_congr _ _ _ fun i hi => ?_
  unfold leG
  rw [intAt_tab _ _ _ (by omega)]; rfl
theorem rowsC_step {m : Int} {eq : Nat → Bool} {C : Nat → Int} {n : Nat} (hn : n ≤ 20) (hC : Near C n) (hm : ∀ i, i < n → (bv m).getLsbD i = eq i) (N : Nat) : ∀ j, j < N → stepF m (2 ^ n - 1) (rowsC C n) j = rowsC (nextAt eq C 0) n j := by
  have hnn := near_next (eq := eq) hC
  have h0 : ∀ j, 0 ≤ rowsC C n j := fun j => Int.natCast_nonneg _
  have beh : ∀ (D : Nat → Int) (j i : Nat), D 0 = 0 → i < n → behind (fun i => (bv (rowsC D n j)).getLsbD i) i = decide (D i ≤ (j : Int)) := by
    intro D j i hD hi
    cases i with
    | zero => simp [behind, hD]
    | succ i => simp only [behind]; rw [rowsC_bit _ _ _ _ (by omega)]; simp; omega
  intro j
  induction j with
  | zero =>
    intro hj
    have hrg := stepF_range m hn (rowsC C n) 0
    refine mask_of_bits ⟨by omega, by omega⟩ hn ?_
    intro i hi
    rw [stepF_bits m hn (rowsC C n) N (fun j _ => h0 j) 0 hj i hi]
    simp only [stepG]
    by_cases hin : i < n
    · rw [hm i hin]
      have b1 := beh C 0 i hC.1 hin
      rw [show behind (bv (rowsC C n 0)).getLsbD i = _ from b1]
      have mm := min3_spec (if eq i then C i else C i + 1) (C (i + 1) + 1) (nextAt eq C 0 i + 1)
      have p0 := hC.2.1 (i + 1) (by omega)
      have p1 := hC.2.1 i (by omega)
      have p2 := hnn.1.2.1 i (by omega)
      have en : nextAt eq C 0 (i + 1) = min3 (if eq i then C i else C i + 1) (C (i + 1) + 1) (nextAt eq C 0 i + 1) := rfl
      rw [← en] at mm
      clear en
      generalize nextAt eq C 0 (i + 1) = q at mm ⊢
      rw [Bool.eq_iff_iff]
      simp only [Bool.and_eq_true, Bool.or_eq_true, decide_eq_true_eq, hin, true_and, and_true]
      cases hq : eq i <;> simp only [hq, Bool.false_eq_true, if_false, if_true, and_false, false_or, and_true, false_iff] at mm ⊢ <;> omega
    · simp [hin]
  | succ j ih =>
    intro hj
    have hst := ih (by omega)
    have hrg := stepF_range m hn (rowsC C n) (j + 1)
    refine mask_of_bits ⟨by omega, by omega⟩ hn ?_
    intro i hi
    have hbb : behind (stepG (bv m).getLsbD n (fun j => (bv (rowsC C n j)).getLsbD) j) i = behind (fun i => (bv (rowsC (nextAt eq C 0) n j)).getLsbD i) i := by
      cases i with
      | zero => rfl
      | succ i =>
        show stepG _ _ _ _ i = (bv _).getLsbD i
        rw [← stepF_bits m hn (rowsC C n) N (fun j _ => h0 j) j (by omega) i (by omega), hst]
    rw [stepF_bits m hn (rowsC C n) N (fun j _ => h0 j) (j + 1) hj i hi]
    simp only [stepG]
    rw [hbb]
    by_cases hin : i < n
    · rw [hm i hin, beh (nextAt eq C 0) j i rfl hin]
      have b1 := beh C (j + 1) i hC.1 hin
      have b2 := beh C j i hC.1 hin
      rw [show behind (bv (rowsC C n (j + 1))).getLsbD i = _ from b1, show behind (bv (rowsC C n j)).getLsbD i = _ from b2, rowsC_bit _ _ _ _ hi]
      have mm := min3_spec (if eq i then C i else C i + 1) (C (i + 1) + 1) (nextAt eq C 0 i + 1)
      have en : nextAt eq C 0 (i + 1) = min3 (if eq i then C i else C i + 1) (C (i + 1) + 1) (nextAt eq C 0 i + 1) := rfl
      rw [← en] at mm
      clear en
      generalize nextAt eq C 0 (i + 1) = q at mm ⊢
      rw [Bool.eq_iff_iff]
      simp only [Bool.and_eq_true, Bool.or_eq_true, decide_eq_true_eq, hin, true_and, and_true]
      cases hq : eq i <;> simp only [hq, Bool.false_eq_true, if_false, if_true, and_false, false_or, and_true, false_iff] at mm ⊢ <;> omega
    · simp [hin]
theorem rowsC_wf (C : Nat → Int) {n : Nat} (hn : n ≤ 20) (j : Nat) : I64 (rowsC C n j) := by
  have h := maskTo_ltI (fun i => decide (C (i + 1) ≤ (j : Int))) n
  have := pow_small n hn
  have h0 : (0 : Int) ≤ rowsC C n j := Int.natCast_nonneg _
  unfold rowsC at *
  exact ⟨by omega, by omega⟩
/-- the rows of a right column are right -/
theorem rowsC_ok {s : ByteArray} {K : Nat} {C : Nat → Int} (hp : patOk s K = true) (hC : Near C s.size) : rowsOkB s K (tab (rowsC C s.size) (K + 1)) = true := by
  obtain ⟨_, hn, _, hk⟩ := (patOk_iff s K).1 hp
  rw [rowsOkB_iff, tab_length]
  refine ⟨hp, by omega, rowsTo_of ?_⟩
  intro j hj
  have hI := rowsC_wf C hn j
  have hrng := maskTo_ltI (fun i => decide (C (i + 1) ≤ (j : Int))) s.size
  rw [rowGood_eq (by rw [intAt_tab _ _ _ hj]; exact hI) hn (by omega), intAt_tab _ _ _ hj]
  refine ⟨?_, ?_, ?_⟩
  · have h0 : (0 : Int) ≤ rowsC C s.size j := Int.natCast_nonneg _
    have : rowsC C s.size j ≤ 2 ^ s.size - 1 := by unfold rowsC; omega
    unfold inB; simp; omega
  · rw [and_low_iff (by omega)]
    intro i hi
    have := near_le hC (i + 1) (by omega)
    rw [rowsC_bit _ _ _ _ (by omega)]; simp; omega
  · intro h0
    obtain ⟨q, rfl⟩ : ∃ q, j = q + 1 := ⟨j - 1, by omega⟩
    rw [show q + 1 - 1 = q by omega, intAt_tab _ _ _ (by omega), andNot_zero_iff]
    intro i hi hb
    rw [rowsC_bit _ _ _ _ hi] at hb ⊢
    simp at hb ⊢; omega
theorem leastI_is (C : Nat → Int) (p n v : Nat) (hv : v ≤ n) (h0 : ∀ j, j < v → bitI (C j) p ≠ 1) (h1 : v < n → bitI (C v) p = 1) : leastI C p n n = v := by
  have go : ∀ d, d ≤ v → leastI C p n n = leastI C p n (n - d) := by
    intro d
    induction d with
    | zero => intro _; rfl
    | succ d ih =>
      intro hd
      rw [ih (by omega), leastI_no (by omega) (h0 d (by omega))]
  rw [go v (Nat.le_refl _)]
  by_cases h : v < n
  · exact leastI_yes h (h1 h)
  · obtain rfl : v = n := by omega
    rw [Nat.sub_self]; rfl
/-- the distance of the rows of a right column -/
theorem rowsC_dist {s : ByteArray} {K : Nat} {C : Nat → Int} (hp : patOk s K = true) (hC : Near C s.size) : rowsDistI s K (tab (rowsC C s.size) (K + 1)) = if C s.size ≤ (K : Int) + 1 then C s.size else (K : Int) + 1 := by
  obtain ⟨hn1, hn, _, hk⟩ := (patOk_iff s K).1 hp
  unfold rowsDistI
  rw [rowsC_ok hp hC, tab_length]
  simp only [if_true]
  obtain ⟨m, hm⟩ : ∃ m, s.size = m + 1 := ⟨s.size - 1, by omega⟩
  have hpos := hC.2.1 s.size (Nat.le_refl _)
  have hbit : ∀ j, j < K + 1 → (bitI (intAt (tab (rowsC C s.size) (K + 1)) j) m = 1 ↔ C s.size ≤ (j : Int)) := by
    intro j hj
    rw [intAt_tab _ _ _ hj, bitI_bv (show 0 ≤ rowsC C s.size j from Int.natCast_nonneg _) m (by omega), rowsC_bit _ _ _ _ (by omega), ← hm]
    simp [show m < s.size by omega]
  rw [hm]
  simp only [lcF]
  rw [← hm]
  split
  · rename_i hle
    obtain ⟨v, hv⟩ : ∃ v : Nat, C s.size = (v : Int) := ⟨(C s.size).toNat, by omega⟩
    rw [leastI_is _ _ _ v (by omega) (fun j hj => by rw [Ne, hbit j (by omega)]; omega) (fun h => (hbit v h).2 (by omega)), hv]
  · rename_i hle
    rw [leastI_is _ _ _ (K + 1) (by omega) (fun j hj => by rw [Ne, hbit j hj]; omega) (fun h => by omega)]
    rfl
end Go.Proofs.Ytglldmfhjipacaa

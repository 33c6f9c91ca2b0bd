/-
  Chapter 4: plain facts: the state of a right column, and of the columns of a text.
-/
import Derived.Test.YtgocfpdodbhcaaaL4StepB
import Derived.Test.YtgocfpdodbhcaaaL3EndsS
namespace Go.Proofs.Ytgocfpdodbhcaaa
open Go.RowKit
set_option linter.unusedVariables false
set_option maxRecDepth 100000
def mU (C : Nat → Int) (n : Nat) : Int := (maskTo (riseF C) n : Nat)
def mD (C : Nat → Int) (n : Nat) : Int := (maskTo (fallF C) n : Nat)
theorem state_col {C : Nat → Int} {n : Nat} (hn : n ≤ 20) (hC : Near C n) : ∀ j, j ≤ n → colF (mU C n) (mD C n) j = C j := by
  intro j
  induction j with
  | zero => intro _; simp only [colF]; exact hC.1.symm
  | succ j ih =>
    intro hj
    have h0 : (0 : Int) ≤ mU C n := Int.natCast_nonneg _
    have h1 : (0 : Int) ≤ mD C n := Int.natCast_nonneg _
    simp only [colF]
    rw [ih (by omega), bitI_bv h0 j (by omega), bitI_bv h1 j (by omega)]
    unfold mU mD
    rw [bv_mask _ _ _ (by omega), bv_mask _ _ _ (by omega)]
    have := hC.2.2 j (by omega)
    have hlt : j < n := by omega
    simp only [hlt, decide_true, Bool.true_and, riseF, fallF, decide_eq_true_eq]
    split <;> split <;> omega
theorem state_rng (C : Nat → Int) {n : Nat} (hn : n ≤ 20) : (0 ≤ mU C n ∧ mU C n ≤ 2 ^ n - 1) ∧ (0 ≤ mD C n ∧ mD C n ≤ 2 ^ n - 1) := by
  have h0 := maskTo_ltI (riseF C) n
  have h1 := maskTo_ltI (fallF C) n
  unfold mU mD
  omega
theorem state_and (C : Nat → Int) {n : Nat} (hn : n ≤ 20) : bits .and .i64 (mU C n) (mD C n) = 0 := by
  refine bv_inj (i64_and _ _) ⟨by decide, by decide⟩ ?_
  rw [bv_eq_iff]
  intro i hi
  rw [bv_and, BitVec.getLsbD_and]
  unfold mU mD
  rw [bv_mask _ _ _ hi, bv_mask _ _ _ hi, bv_zero]
  simp only [BitVec.getLsbD_zero, Bool.and_eq_false_iff, riseF, fallF, decide_eq_false_iff_not]
  by_cases h : C (i + 1) - C i = 1
  · right; right; omega
  · left; right; exact h
theorem state_ok {s : ByteArray} {k : Int} {C : Nat → Int} (hp : patOk s k = true) (hC : Near C s.size) : myOkB s k (mU C s.size) (mD C s.size) (C s.size) = true := by
  obtain ⟨_, hn, _, _⟩ := (patOk_iff s k).1 hp
  have hcol := state_col hn hC
  obtain ⟨⟨a0, a1⟩, b0, b1⟩ := state_rng C hn
  have hst : stepsB (colL (mU C s.size) (mD C s.size) s.size) (s.size + 1) = true := by
    refine steps_of_near (near_congr (fun i hi => ?_) hC)
    unfold colL
    rw [intAt_tab _ _ _ (by omega), hcol i hi]
  unfold myOkB
  rw [hp, inB_yes ⟨a0, a1⟩, inB_yes ⟨b0, b1⟩, state_and C hn, hst, hcol s.size (Nat.le_refl _)]
  simp
theorem state_i64 (C : Nat → Int) {n : Nat} (hn : n ≤ 20) : I64 (mU C n) ∧ I64 (mD C n) := by
  obtain ⟨h1, h2⟩ := state_rng C hn
  have := pow_small n hn
  exact ⟨⟨by omega, by omega⟩, ⟨by omega, by omega⟩⟩
theorem mask_near {C D : Nat → Int} {n : Nat} (h : ∀ i, i ≤ n → C i = D i) : mU C n = mU D n ∧ mD C n = mD D n := by
  constructor
  · unfold mU; congr 1; exact maskTo_congr _ _ _ fun i hi => by unfold riseF; rw [h i (by omega), h (i + 1) (by omega)]
  · unfold mD; congr 1; exact maskTo_congr _ _ _ fun i hi => by unfold fallF; rw [h i (by omega), h (i + 1) (by omega)]
/-- the state of a right column, stepped, is that of the next one -/
theorem state_step {s : ByteArray} {k : Int} {f : Bool} {b : Int} {C : Nat → Int} (hp : patOk s k = true) (hC : Near C s.size) (hb : inB b 0 255 = true) :
    myStepV s k f b (mU C s.size) (mD C s.size) (C s.size) = .agg #[.int .i64 (mU (nextAt (maskG s f b) C 0) s.size), .int .i64 (mD (nextAt (maskG s f b) C 0) s.size), .int .i64 (nextAt (maskG s f b) C 0 s.size)] := by
  obtain ⟨_, hn, _, _⟩ := (patOk_iff s k).1 hp
  have hcol := state_col hn hC
  have he : ∀ i, i ≤ s.size → mNext s f b (mU C s.size) (mD C s.size) i = nextAt (maskG s f b) C 0 i := nextAt_congr (fun _ _ => rfl) hcol
  obtain ⟨e1, e2⟩ := mask_near he
  rw [myStepV_yes (state_ok hp hC) hb, he s.size (Nat.le_refl _)]
  show Value.agg #[.int .i64 (mU (mNext s f b (mU C s.size) (mD C s.size)) s.size), .int .i64 (mD (mNext s f b (mU C s.size) (mD C s.size)) s.size), _] = _
  rw [e1, e2]
/-- the columns of a text are right -/
def colT (s t : ByteArray) (f : Bool) (q : Nat) : Nat → Int := colAt (foldIf f s) (foldIf f t) 0 q
theorem colT_next (s t : ByteArray) (f : Bool) (q : Nat) (hq : q < t.size) : ∀ i, i ≤ s.size → nextAt (maskG s f (byteAt t q).toNat) (colT s t f q) 0 i = colT s t f (q + 1) i := by
  intro i hi
  have h := colAt_next s t f 0 q hq 0 (by rw [colAt_head0]; rfl)
  have h2 := congrArg (fun L => intAt L i) h
  rw [intAt_tab _ _ _ (by omega), intAt_tab _ _ _ (by omega)] at h2
  rw [← show _ = colT s t f (q + 1) i from h2]
  exact nextAt_congr (n := s.size) (fun _ _ => rfl) (fun j hj => (intAt_tab _ _ _ (by omega)).symm) i hi
theorem colT_near (s t : ByteArray) (f : Bool) : ∀ q, q ≤ t.size → Near (colT s t f q) s.size := by
  intro q
  induction q with
  | zero => intro _; exact near_id s.size
  | succ q ih =>
    intro hq
    exact near_congr (colT_next s t f q (by omega)) (near_next (ih (by omega))).1
/-- the state behind q bytes of a text -/
theorem run_step {s t : ByteArray} {k : Int} {f : Bool} {q : Nat} (hp : patOk s k = true) (hq : q < t.size) :
    myStepV s k f ((byteAt t q).toNat : Int) (mU (colT s t f q) s.size) (mD (colT s t f q) s.size) (colT s t f q s.size) = .agg #[.int .i64 (mU (colT s t f (q + 1)) s.size), .int .i64 (mD (colT s t f (q + 1)) s.size), .int .i64 (colT s t f (q + 1) s.size)] := by
  have hb := (byteAt t q).toNat_lt
  have hn := colT_next s t f q hq
  obtain ⟨e1, e2⟩ := mask_near hn
  rw [state_step hp (colT_near s t f q (by omega)) (inB_yes ⟨by omega, by omega⟩), e1, e2, hn s.size (Nat.le_refl _)]
theorem run_first {s t : ByteArray} {k : Int} {f : Bool} (hp : patOk s k = true) : myersNewV s k = .agg #[.int .i64 (mU (colT s t f 0) s.size), .int .i64 (mD (colT s t f 0) s.size), .int .i64 (colT s t f 0 s.size)] := by
  have h0 : colT s t f 0 = idI := rfl
  have e1 : mU idI s.size = 2 ^ s.size - 1 := maskTo_all _ _ fun i _ => by unfold riseF idI; simp; omega
  have e2 : mD idI s.size = 0 := by
    unfold mD; rw [maskTo_none _ _ fun i _ => by unfold fallF idI; simp; omega]; rfl
  unfold myersNewV
  rw [hp, h0, e1, e2]; rfl
end Go.Proofs.Ytgocfpdodbhcaaa

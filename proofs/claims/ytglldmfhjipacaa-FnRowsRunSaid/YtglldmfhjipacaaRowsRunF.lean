/-
  Chapter 5: plain facts: the rows of a text's columns.
-/
import Derived.Test.YtglldmfhjipacaaRunFacts
import Derived.Test.YtglldmfhjipacaaRowsFacts
namespace Go.Proofs.Ytglldmfhjipacaa
open Go.RowKit
set_option linter.unusedVariables false
set_option maxRecDepth 100000
theorem rowsQ_first {s t : ByteArray} {K : Nat} {f : Bool} (hp : patOk s (K : Int) = true) : rowsNewL s (K : Int) = tab (rowsC (colQ s t f 0) s.size) (K + 1) := by
  unfold rowsNewL
  rw [hp]
  simp only [if_true, Int.toNat_natCast]
  exact tab_congr fun j _ => (rowsC_first s.size j).symm
theorem maskI_bits {s : ByteArray} {f : Bool} {b : Int} (hs : s.size ≤ 20) (hb : inB b 0 255 = true) : ∀ i, i < s.size → (bv (maskI s f b)).getLsbD i = maskG s f b i := by
  intro i hi
  have h2 : 0 ≤ b ∧ b ≤ 255 := by simpa [inB] using hb
  unfold maskI
  rw [if_pos ⟨hs, h2.1, h2.2⟩, bv_mask _ _ _ (by omega)]
  simp [hi]
theorem stepF_congr {m al : Int} {C D : Nat → Int} {n : Nat} (h : ∀ i, i ≤ n → C i = D i) : ∀ j, j ≤ n → stepF m al C j = stepF m al D j := by
  intro j
  induction j with
  | zero => intro hj; simp only [stepF]; rw [h 0 hj]
  | succ j ih => intro hj; simp only [stepF]; rw [h (j + 1) hj, h j (by omega), ih (by omega)]
theorem rowsQ_next {s t : ByteArray} {K : Nat} {f : Bool} {q : Nat} (hp : patOk s (K : Int) = true) : rowsStepL s (K : Int) f ((byteAt t q).toNat : Int) (tab (rowsC (colQ s t f q) s.size) (K + 1)) = tab (rowsC (colQ s t f (q + 1)) s.size) (K + 1) := by
  obtain ⟨_, hn, _, _⟩ := (patOk_iff s (K : Int)).1 hp
  unfold rowsStepL
  rw [rowsC_ok hp (colQ_near s t f q), byte_in]
  simp only [Bool.and_true, if_true, tab_length]
  refine tab_congr fun j hj => ?_
  exact (stepF_congr (fun i hi => intAt_tab _ _ _ (by omega)) j (Nat.le_refl _)).trans (rowsC_step hn (colQ_near s t f q) (maskI_bits hn (byte_in t q)) (K + 1) j hj)
theorem rowsQ_dist {s t : ByteArray} {K : Nat} {f : Bool} {q : Nat} (hp : patOk s (K : Int) = true) : rowsDistI s (K : Int) (tab (rowsC (colQ s t f q) s.size) (K + 1)) = if colQ s t f q s.size ≤ (K : Int) + 1 then colQ s t f q s.size else (K : Int) + 1 := rowsC_dist hp (colQ_near s t f q)
/-- a bit of a row says whether a place is near enough -/
theorem rowsC_mod (C : Nat → Int) (n j i : Nat) (hi : i < n) (hn : n ≤ 20) : (rowsC C n j / 2 ^ i) % 2 = if C (i + 1) ≤ (j : Int) then 1 else 0 := by
  have h := bitI_bv (show 0 ≤ rowsC C n j from Int.natCast_nonneg _) i (by omega)
  unfold bitI at h
  rw [h, rowsC_bit _ _ _ _ (by omega)]
  simp [hi]
end Go.Proofs.Ytglldmfhjipacaa

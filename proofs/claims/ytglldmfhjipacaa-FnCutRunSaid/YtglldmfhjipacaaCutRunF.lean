/-
  Chapter 6: plain facts: what is cut off of a text's columns.
-/
import Derived.Test.YtglldmfhjipacaaRunFacts
import Derived.Test.YtglldmfhjipacaaCutFacts
namespace Go.Proofs.Ytglldmfhjipacaa
open Go.RowKit
set_option linter.unusedVariables false
set_option maxRecDepth 100000
theorem cutQ_first {s t : ByteArray} {K : Nat} {f : Bool} (hp : patOk s (K : Int) = true) : cutNewL s (K : Int) = cutL (colQ s t f 0) (K : Int) (s.size + 1) ∧ cutNewI s (K : Int) = ((lastLe (colQ s t f 0) (K : Int) (s.size + 1) : Nat) : Int) := by
  have h : ∀ i, i < s.size + 1 → capI (firstI s.size) (K : Int) i = capI (colQ s t f 0) (K : Int) i := by
    intro i hi
    unfold capI firstI
    rw [intAt_tab _ _ _ hi]; rfl
  obtain ⟨e1, e2⟩ := cutL_congr h
  unfold cutNewL cutNewI
  rw [hp]
  exact ⟨e2 (by omega), by simp only [if_true]; rw [e1]⟩
theorem cutQ_next {s t : ByteArray} {K : Nat} {f : Bool} {q : Nat} (hp : patOk s (K : Int) = true) :
    cutStepL s (K : Int) f ((byteAt t q).toNat : Int) (cutL (colQ s t f q) (K : Int) (s.size + 1)) (lastLe (colQ s t f q) (K : Int) (s.size + 1) : Nat) = cutL (colQ s t f (q + 1)) (K : Int) (s.size + 1) ∧
    cutStepI s (K : Int) f ((byteAt t q).toNat : Int) (cutL (colQ s t f q) (K : Int) (s.size + 1)) (lastLe (colQ s t f q) (K : Int) (s.size + 1) : Nat) = ((lastLe (colQ s t f (q + 1)) (K : Int) (s.size + 1) : Nat) : Int) :=
  cutC_step hp (colQ_near s t f q) (byte_in t q)
theorem cutQ_dist {s t : ByteArray} {K : Nat} {f : Bool} {q : Nat} (hp : patOk s (K : Int) = true) : cutDistI s (K : Int) (cutL (colQ s t f q) (K : Int) (s.size + 1)) (lastLe (colQ s t f q) (K : Int) (s.size + 1) : Nat) = capI (colQ s t f q) (K : Int) s.size := cutC_dist hp (colQ_near s t f q)
theorem cutL_len (C : Nat → Int) (k : Int) (n : Nat) : (cutL C k n).length = lastLe C k n + 1 := by unfold cutL; rw [tab_length]
end Go.Proofs.Ytglldmfhjipacaa

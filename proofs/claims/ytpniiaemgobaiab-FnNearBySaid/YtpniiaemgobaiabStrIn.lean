/-
  A slice of texts that came in: opened; its size; a copy of it; chapter 15's words.
-/
import Derived.Test.YtpniiaemgobaiabStrLaw
import Derived.Laws.OwnMore
import Derived.Laws.MakeOwn
import Derived.SliceStrings
import Derived.ProofKit
namespace Go.Proofs.Ytpniiaemgobaiab
open Go.RowKit Go.ChangeShapes Go.WideShapes
set_option linter.unusedVariables false
set_option maxRecDepth 100000
section
variable {P : Program} {H : Type} {enc : TypeId × Value → H} {w : World} {base : Nat} {spare : Nat → Bool} {held : Bool}
theorem open_texts {t e : TypeId} {fuel : Nat} {a0 : Option Addr} {len0 cap0 : Nat} {x : DataW H × List MemPlace} (ht : P.underlying t = some (.slice e)) (he : P.underlying e = some .string) (hc : P.cellsOf e = 1)
    (h : DataW.trod enc P w base spare held fuel t [.slice a0 len0 cap0] = some x) :
    ∃ T : Nat → ByteArray, Vals w a0 (strL T len0) ∧ len0 ≤ maxLen ∧ ∀ i, i < len0 → (T i).size ≤ maxLen := by
  rcases open_strings ht he hc h with ⟨hcs, _⟩ | ⟨a, len, cap, ss, hcs, _, hl, hm, hz, _, hcell, hsz⟩
  · simp only [List.cons.injEq, Value.slice.injEq, and_true] at hcs
    obtain ⟨rfl, rfl, rfl⟩ := hcs
    exact ⟨fun _ => ⟨#[]⟩, .inl rfl, by simp, fun i hi => by omega⟩
  · simp only [List.cons.injEq, Value.slice.injEq, and_true] at hcs
    obtain ⟨rfl, rfl, rfl⟩ := hcs
    have hlm : len0 ≤ ss.length := by rw [hz]; split <;> omega
    refine ⟨fun i => ss.getD i ByteArray.empty, ?_, by omega, fun i hi => ?_⟩
    · by_cases h0 : len0 = 0
      · left; subst h0; rfl
      · right
        obtain ⟨b, off, spot⟩ := a
        have hspot : spot = none := by
          have := World.cell?_spot (hcell 0 (by omega))
          simpa [Addr.add] using this
        subst hspot
        refine ⟨b, off, rfl, fun i hi => ?_⟩
        have hi1 : i < len0 := by rw [strL_length] at hi; exact hi
        rw [strL_at _ _ _ hi1]
        have := hcell i (by omega)
        rw [Addr.add_lit] at this
        exact this
    · have hi2 : i < ss.length := by omega
      have e : ss.getD i ByteArray.empty = ss[i] := by simp [List.getD_eq_getElem?_getD, hi2]
      show (ss.getD i ByteArray.empty).size ≤ maxLen
      rw [e]
      exact hsz _ (List.getElem_mem hi2)
end
theorem str1_info : (Try.prog.info? 9).map (fun i => (i.zero, i.size, i.bytes)) = some (some (.string ⟨#[]⟩), 1, 16) := by kernel_rfl
/-- the first k texts of t, the others empty -/
def upT (t : Nat → ByteArray) (k i : Nat) : ByteArray := if i < k then t i else ⟨#[]⟩
theorem upT_set (t : Nat → ByteArray) (n k : Nat) (h : k < n) : (strL (upT t k) n).set k (.string (t k)) = strL (upT t (k + 1)) n := by
  rw [strL_set _ _ _ _ h]
  refine strL_congr fun i _ => ?_
  unfold upT
  by_cases e : i = k
  · subst e; simp
  · by_cases e2 : i < k
    · rw [if_neg e, if_pos e2, if_pos (by omega)]
    · rw [if_neg e, if_neg e2, if_neg (by omega)]
theorem upT_zero (t : Nat → ByteArray) (n : Nat) : strL (upT t 0) n = List.replicate n (Value.string ⟨#[]⟩) := by
  apply List.ext_getElem
  · simp [strL]
  · intro i h1 h2
    simp [strL, upT]
theorem upT_all (t : Nat → ByteArray) (n : Nat) : strL (upT t n) n = strL t n := strL_congr fun i hi => if_pos hi
/-- chapter 15's words -/
def wordsB (t : Nat → ByteArray) (n : Nat) : Bool := (List.range n).all (fun i => decide ((t i).size ≤ 20)) && decide (n ≤ 30)
end Go.Proofs.Ytpniiaemgobaiab

/-
  Plain facts of chapter 14: letters that are taken one by one; what is left of a text.
-/
import Derived.Test.YtelhgpoppgpniaaL3Dist
namespace Go.Proofs.Ytelhgpoppgpniaa
open Go.RowKit
set_option linter.unusedVariables false
set_option maxRecDepth 100000
/-- the letters taken one by one, when i bytes of the first text and j of the second are gone -/
def alB (e : Nat → Nat → Bool) (n m : Nat) : List UInt8 → Nat → Nat → Bool
  | [], i, j => decide (i = n) && decide (j = m)
  | c :: r, i, j =>
    if c.toNat = 61 then decide (i < n) && (decide (j < m) && (e i j && alB e n m r (i + 1) (j + 1)))
    else if c.toNat = 120 then decide (i < n) && (decide (j < m) && (!e i j && alB e n m r (i + 1) (j + 1)))
    else if c.toNat = 45 then decide (i < n) && alB e n m r (i + 1) j
    else if c.toNat = 43 then decide (j < m) && alB e n m r i (j + 1)
    else false
theorem alB_nil (e : Nat → Nat → Bool) (n m i j : Nat) : alB e n m [] i j = (decide (i = n) && decide (j = m)) := rfl
theorem alB_eq {e : Nat → Nat → Bool} {n m : Nat} {c : UInt8} {r : List UInt8} {i j : Nat} (h : c.toNat = 61) : alB e n m (c :: r) i j = (decide (i < n) && (decide (j < m) && (e i j && alB e n m r (i + 1) (j + 1)))) := by
  rw [alB, if_pos h]
theorem alB_x {e : Nat → Nat → Bool} {n m : Nat} {c : UInt8} {r : List UInt8} {i j : Nat} (h : c.toNat = 120) : alB e n m (c :: r) i j = (decide (i < n) && (decide (j < m) && (!e i j && alB e n m r (i + 1) (j + 1)))) := by
  rw [alB, if_neg (by omega), if_pos h]
theorem alB_drop {e : Nat → Nat → Bool} {n m : Nat} {c : UInt8} {r : List UInt8} {i j : Nat} (h : c.toNat = 45) : alB e n m (c :: r) i j = (decide (i < n) && alB e n m r (i + 1) j) := by
  rw [alB, if_neg (by omega), if_neg (by omega), if_pos h]
theorem alB_put {e : Nat → Nat → Bool} {n m : Nat} {c : UInt8} {r : List UInt8} {i j : Nat} (h : c.toNat = 43) : alB e n m (c :: r) i j = (decide (j < m) && alB e n m r i (j + 1)) := by
  rw [alB, if_neg (by omega), if_neg (by omega), if_neg (by omega), if_pos h]
theorem alB_none {e : Nat → Nat → Bool} {n m : Nat} {c : UInt8} {r : List UInt8} {i j : Nat} (h1 : c.toNat ≠ 61) (h2 : c.toNat ≠ 120) (h3 : c.toNat ≠ 45) (h4 : c.toNat ≠ 43) : alB e n m (c :: r) i j = false := by
  rw [alB, if_neg h1, if_neg h2, if_neg h3, if_neg h4]
/-- are two bytes alike, great and small letters told apart or not? -/
def alE (s t : ByteArray) (f : Bool) (i j : Nat) : Bool := eqI ((byteAt s i).toNat) ((byteAt t j).toNat) f
theorem alE_fold (s t : ByteArray) (f : Bool) (i j : Nat) (hi : i < s.size) (hj : j < t.size) : alE s t f i j = (((byteAt (foldIf f s) i).toNat : Int) == ((byteAt (foldIf f t) j).toNat : Int)) := by
  unfold alE eqI foldIf
  cases f
  · rfl
  · simp only [if_true]
    rw [byteAt_foldS s i hi, byteAt_foldS t j hj, foldB_toNat, foldB_toNat]
def alOkS (s t : ByteArray) (f : Bool) (o : ByteArray) : Bool := decide (s.size ≤ 200) && (decide (t.size ≤ 200) && alB (alE s t f) s.size t.size o.data.toList 0 0)
theorem alOk_yes {s t : ByteArray} {f : Bool} {o : ByteArray} (h1 : s.size ≤ 200) (h2 : t.size ≤ 200) : alOkS s t f o = alB (alE s t f) s.size t.size o.data.toList 0 0 := by
  unfold alOkS; rw [decide_eq_true h1, decide_eq_true h2]; rfl
theorem alOk_no {s t : ByteArray} {f : Bool} {o : ByteArray} (h : ¬ (s.size ≤ 200 ∧ t.size ≤ 200)) : alOkS s t f o = false := by
  unfold alOkS
  by_cases h1 : s.size ≤ 200
  · rw [decide_eq_false (fun h2 => h ⟨h1, h2⟩), Bool.false_and, Bool.and_false]
  · rw [decide_eq_false h1, Bool.false_and]
theorem alDrop_at (o : ByteArray) (k : Nat) (h : k < o.size) : o.data.toList.drop k = o[k] :: o.data.toList.drop (k + 1) := by
  have h2 : k < o.data.toList.length := by rw [Array.length_toList]; exact h
  rw [List.drop_eq_getElem_cons h2]; rfl
theorem alDrop_end (o : ByteArray) : o.data.toList.drop o.size = [] := List.drop_of_length_le (by rw [Array.length_toList]; exact Nat.le_refl _)
/-- A is what is left of a text from byte i on -/
def Left (s : ByteArray) (i : Nat) (A : ByteArray) : Prop := i ≤ s.size ∧ A = s.extract i s.size
theorem Left.zero (s : ByteArray) : Left s 0 s := ⟨Nat.zero_le _, by simp⟩
theorem Left.size {s : ByteArray} {i : Nat} {A : ByteArray} (h : Left s i A) : A.size = s.size - i := by
  rw [h.2, ByteArray.size_extract, Nat.min_self]
theorem Left.next {s : ByteArray} {i : Nat} {A : ByteArray} (h : Left s i A) (hi : i < s.size) : Left s (i + 1) (A.extract 1 A.size) := by
  refine ⟨hi, ?_⟩
  rw [h.size, h.2, ByteArray.extract_extract]
  congr 1
  omega
theorem Left.head {s : ByteArray} {i : Nat} {A : ByteArray} (h : Left s i A) (hi : i < s.size) (h0 : 0 < A.size) : A[0] = byteAt s i := by
  rw [byteAt_eq s i hi]
  obtain ⟨_, rfl⟩ := h
  rw [ByteArray.getElem_extract]
  simp
theorem Left.empty {s : ByteArray} {A : ByteArray} (h : Left s s.size A) : (A.toList == []) = true := by
  have : A.size = 0 := by rw [h.size]; omega
  rw [ByteArray.toList_eq]
  have h2 : A.data.toList.length = 0 := by rw [Array.length_toList]; exact this
  rw [List.eq_nil_of_length_eq_zero h2]; rfl
theorem Left.full {s : ByteArray} {i : Nat} {A : ByteArray} (h : Left s i A) (hi : i < s.size) : (A.toList == []) = false := by
  have : A.size = s.size - i := h.size
  rw [ByteArray.toList_eq, beq_eq_false_iff_ne]
  intro e
  have h2 : A.data.toList.length = 0 := by rw [e]; rfl
  rw [Array.length_toList] at h2
  have h3 : A.size = 0 := h2
  omega
end Go.Proofs.Ytelhgpoppgpniaa

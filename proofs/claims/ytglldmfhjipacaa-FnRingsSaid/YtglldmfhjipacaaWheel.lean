/-
  Chapter 10: plain facts of a ring's array: what was put there last stands where its place says.
-/
import Derived.Test.YtglldmfhjipacaaPlain
namespace Go.Proofs.Ytglldmfhjipacaa
open Go.RowKit
set_option linter.unusedVariables false
set_option maxRecDepth 100000
set_option linter.unusedSimpArgs false
/-- an array of cells behind n stores, the i-th at the place (a + i) % 200 -/
def putC (cs : Array Value) (a : Nat) (s : ByteArray) : Nat → Array Value
  | 0 => cs
  | i + 1 => (putC cs a s i).setIfInBounds ((a + i) % 200) (.int .u8 ((byteAt s i).toNat : Int))
theorem putC_size (cs : Array Value) (a : Nat) (s : ByteArray) (n : Nat) : (putC cs a s n).size = cs.size := by
  induction n with
  | zero => rfl
  | succ n ih => simp [putC, ih]
/-- the places from lo on, below hi, that lie less than 200 ahead of hi, stand there with f's bytes -/
def Wh (cs : Array Value) (lo hi : Nat) (f : Nat → UInt8) : Prop := ∀ p, lo ≤ p → p < hi → hi ≤ p + 200 → cs[p % 200]? = some (.int .u8 ((f p).toNat : Int))
theorem Wh.zero (cs : Array Value) (lo : Nat) (f : Nat → UInt8) : Wh cs lo lo f := fun p h1 h2 _ => by omega
theorem Wh.put {cs : Array Value} {lo a : Nat} {f : Nat → UInt8} {s : ByteArray} (hc : cs.size = 200) (h : Wh cs lo a f) (n : Nat) (hf : ∀ i, i < n → f (a + i) = byteAt s i) : Wh (putC cs a s n) lo (a + n) f := by
  induction n with
  | zero => exact h
  | succ n ih =>
    have ih := ih (fun i hi => hf i (by omega))
    intro p h1 h2 h3
    have hz : (putC cs a s n).size = 200 := by rw [putC_size, hc]
    unfold putC
    rw [Array.getElem?_setIfInBounds]
    by_cases e : p = a + n
    · subst e
      rw [if_pos rfl, if_pos (by rw [hz]; omega), hf n (by omega)]
    · rw [if_neg (by omega)]
      exact ih p h1 (by omega) (by omega)
theorem ba_ext {s t : ByteArray} (h : s.size = t.size) (hb : ∀ i, i < s.size → byteAt s i = byteAt t i) : s = t := by
  apply ByteArray.ext
  apply Array.ext
  · exact h
  · intro i h1 h2
    have h3 := hb i h1
    unfold byteAt at h3
    simp only [List.getD_eq_getElem?_getD, Array.getElem?_toList, Array.getElem?_eq_getElem h1, Array.getElem?_eq_getElem h2, Option.getD_some] at h3
    exact h3
theorem byteAt_cat (d s : ByteArray) (i : Nat) : byteAt (d ++ s) i = if i < d.size then byteAt d i else byteAt s (i - d.size) := by
  have e : (d ++ s).data.toList = d.data.toList ++ s.data.toList := by simp
  unfold byteAt
  rw [e]
  have hl : d.data.toList.length = d.size := by simp
  split
  · next h => simp [List.getD_eq_getElem?_getD, List.getElem?_append_left (show i < d.data.toList.length by omega)]
  · next h => simp [List.getD_eq_getElem?_getD, List.getElem?_append_right (show d.data.toList.length ≤ i by omega)]
theorem byteAt_ext (s : ByteArray) (a b i : Nat) (hb : b ≤ s.size) (hi : i < b - a) : byteAt (s.extract a b) i = byteAt s (a + i) := by
  unfold byteAt
  simp [List.getD_eq_getElem?_getD, ByteArray.data_extract, List.getElem?_take, List.getElem?_drop, hi]
/-- the bytes that stand between two places -/
def cutL (f : Nat → UInt8) (a n : Nat) : List UInt8 := (List.range n).map fun j => f (a + j)
theorem cutL_length (f : Nat → UInt8) (a n : Nat) : (cutL f a n).length = n := by simp [cutL]
theorem cutL_succ (f : Nat → UInt8) (a n : Nat) : cutL f a (n + 1) = cutL f a n ++ [f (a + n)] := by simp [cutL, List.range_succ]
theorem byteAt_cutL (f : Nat → UInt8) (a n i : Nat) (h : i < n) : byteAt ⟨(cutL f a n).toArray⟩ i = f (a + i) := by
  unfold byteAt cutL
  simp [List.getD_eq_getElem?_getD, h]
/-- what stands at a place: the data's byte, behind its end the text's -/
def ringF (d s : ByteArray) (st : Nat) : Nat → UInt8 := fun p => byteAt (d ++ s) (p - st)
theorem cutL_ring (d s : ByteArray) (st a n : Nat) (h1 : st ≤ a) (h2 : a + n ≤ st + (d.size + s.size)) : (⟨(cutL (ringF d s st) a n).toArray⟩ : ByteArray) = (d ++ s).extract (a - st) (a - st + n) := by
  have hz : (d ++ s).size = d.size + s.size := by simp
  have hs : (⟨(cutL (ringF d s st) a n).toArray⟩ : ByteArray).size = n := by show (cutL (ringF d s st) a n).toArray.size = n; simp [cutL]
  refine ba_ext ?_ fun i hi => ?_
  · rw [hs, ByteArray.size_extract, hz]; omega
  · rw [hs] at hi
    rw [byteAt_cutL _ _ _ _ hi, byteAt_ext _ _ _ _ (by rw [hz]; omega) (by omega)]
    unfold ringF
    congr 1; omega
theorem wh_two {cs : Array Value} (d s : ByteArray) (st : Nat) (hc : cs.size = 200) : Wh (putC (putC cs st d d.size) (st + d.size) s s.size) st (st + d.size + s.size) (ringF d s st) := by
  refine Wh.put (by rw [putC_size, hc]) (Wh.put hc (Wh.zero _ _ _) _ fun i hi => ?_) _ fun i hi => ?_
  · unfold ringF; rw [byteAt_cat, if_pos (by omega)]; congr 1; omega
  · unfold ringF; rw [byteAt_cat, if_neg (by omega)]; congr 1; omega
theorem wh_one {cs : Array Value} (d : ByteArray) (st : Nat) (hc : cs.size = 200) : Wh (putC cs st d d.size) st (st + d.size) (ringF d ⟨#[]⟩ st) := by
  refine Wh.put hc (Wh.zero _ _ _) _ fun i hi => ?_
  unfold ringF; rw [byteAt_cat, if_pos (by omega)]; congr 1; omega
end Go.Proofs.Ytglldmfhjipacaa

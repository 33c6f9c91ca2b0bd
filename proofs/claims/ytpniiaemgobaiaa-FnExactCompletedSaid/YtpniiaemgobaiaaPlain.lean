/-
  Plain facts of chapter 1, without any program: folding a byte, the table that is built by stores, lists of bytes.
-/
import Derived.Test.YtpniiaemgobaiaaKit
namespace Go.Proofs.Ytpniiaemgobaiaa
open Go.RowKit
set_option linter.unusedVariables false
set_option maxRecDepth 100000

/-- a capital letter's small one -/
def foldI (n : Int) : Int := if 65 ≤ n ∧ n ≤ 90 then n + 32 else n
def foldB (b : UInt8) : UInt8 := if 65 ≤ b.toNat ∧ b.toNat ≤ 90 then b + 32 else b

theorem foldB_toNat (b : UInt8) : ((foldB b).toNat : Int) = foldI (b.toNat : Int) := by
  unfold foldB foldI
  by_cases h : 65 ≤ b.toNat ∧ b.toNat ≤ 90
  · have h2 : (65 : Int) ≤ (b.toNat : Int) ∧ (b.toNat : Int) ≤ 90 := by omega
    rw [if_pos h, if_pos h2]
    have : (b + 32).toNat = (b.toNat + 32) % 256 := by simp [UInt8.toNat_add]
    rw [this]; omega
  · have h2 : ¬ ((65 : Int) ≤ (b.toNat : Int) ∧ (b.toNat : Int) ≤ 90) := by omega
    rw [if_neg h, if_neg h2]

theorem foldB_idem (b : UInt8) : foldB (foldB b) = foldB b := by
  apply UInt8.toNat_inj.1
  have h1 := foldB_toNat b
  have h2 := foldB_toNat (foldB b)
  have : ((foldB (foldB b)).toNat : Int) = ((foldB b).toNat : Int) := by
    rw [h2, h1]
    unfold foldI
    split <;> rename_i hh
    · rw [if_neg (by omega)]
    · rfl
  omega

theorem foldI_byte (n : Int) (h0 : 0 ≤ n) (h1 : n ≤ 255) : 0 ≤ foldI n ∧ foldI n ≤ 255 := by
  unfold foldI; split <;> omega

/-- a text folded -/
def foldL (l : List UInt8) : List UInt8 := l.map foldB
def foldS (s : ByteArray) : ByteArray := ⟨(foldL s.data.toList).toArray⟩
theorem foldS_size (s : ByteArray) : (foldS s).size = s.size := by
  show ((foldL s.data.toList).toArray).size = s.data.size
  simp [foldL]

def alikeS (a b : ByteArray) (f : Bool) : Bool := if f then foldL a.data.toList == foldL b.data.toList else a.data.toList == b.data.toList
def eqI (x y : Int) (f : Bool) : Bool := if f then foldI x == foldI y else x == y

theorem eqI_foldB (x y : UInt8) (f : Bool) : eqI x.toNat y.toNat f = if f then foldB x == foldB y else x == y := by
  have hx := foldB_toNat x
  have hy := foldB_toNat y
  unfold eqI
  cases f
  · rw [Bool.eq_iff_iff]; simp [← UInt8.toNat_inj]; omega
  · rw [Bool.eq_iff_iff]; simp [← UInt8.toNat_inj, ← hx, ← hy]; omega
/-- the first k bytes are alike -/
def alikeTo (a b : ByteArray) (f : Bool) (k : Nat) : Prop := if f then foldL (a.data.toList.take k) = foldL (b.data.toList.take k) else a.data.toList.take k = b.data.toList.take k
theorem alikeTo_zero (a b : ByteArray) (f : Bool) : alikeTo a b f 0 := by unfold alikeTo; cases f <;> simp [foldL]
theorem snoc_iff {a b : List UInt8} {x y : UInt8} (h : a.length = b.length) : a ++ [x] = b ++ [y] ↔ a = b ∧ x = y := by
  constructor
  · intro e
    have := List.append_inj e h
    simpa using this
  · rintro ⟨rfl, rfl⟩; rfl
theorem alikeTo_succ (a b : ByteArray) (f : Bool) (k : Nat) (ha : k < a.size) (hb : k < b.size) : alikeTo a b f (k + 1) ↔ alikeTo a b f k ∧ eqI a[k].toNat b[k].toNat f = true := by
  have hla : (a.data.toList.take k).length = (b.data.toList.take k).length := by
    have h1 : a.data.toList.length = a.size := Array.length_toList
    have h2 : b.data.toList.length = b.size := Array.length_toList
    simp only [List.length_take]; omega
  rw [eqI_foldB]
  unfold alikeTo
  rw [take_snoc a k ha, take_snoc b k hb]
  cases f
  · simp only [Bool.false_eq_true, if_false, beq_iff_eq]
    exact snoc_iff hla
  · simp only [if_true, beq_iff_eq, foldL, List.map_append, List.map_cons, List.map_nil]
    exact snoc_iff (by simpa using hla)
theorem alikeS_len (a b : ByteArray) (f : Bool) (h : a.size ≠ b.size) : alikeS a b f = false := by
  have h1 : a.data.toList.length = a.size := Array.length_toList
  have h2 : b.data.toList.length = b.size := Array.length_toList
  unfold alikeS
  cases f
  · simp only [Bool.false_eq_true, if_false, beq_eq_false_iff_ne]
    intro e; rw [e] at h1; omega
  · simp only [if_true, beq_eq_false_iff_ne, foldL]
    intro e
    have := congrArg List.length e
    simp only [List.length_map] at this; omega
theorem alikeS_all (a b : ByteArray) (f : Bool) (h : a.size = b.size) : alikeTo a b f a.size ↔ alikeS a b f = true := by
  have h1 : a.data.toList.length = a.size := Array.length_toList
  have h2 : b.data.toList.length = b.size := Array.length_toList
  unfold alikeS alikeTo
  rw [List.take_of_length_le (by omega), List.take_of_length_le (by omega)]
  cases f <;> simp
theorem alikeTo_mono (a b : ByteArray) (f : Bool) (k n : Nat) (hkn : k ≤ n) (h : alikeTo a b f n) : alikeTo a b f k := by
  unfold alikeTo at *
  cases f
  · simp only [Bool.false_eq_true, if_false] at *
    have := congrArg (List.take k) h
    rwa [List.take_take, List.take_take, Nat.min_eq_left hkn] at this
  · simp only [if_true, foldL] at *
    have := congrArg (List.take k) h
    rwa [← List.map_take, ← List.map_take, List.take_take, List.take_take, Nat.min_eq_left hkn] at this

/-- the bits of the places below k of which g says yes -/
def maskTo (g : Nat → Bool) : Nat → Nat
  | 0 => 0
  | k + 1 => maskTo g k + if g k then 2 ^ k else 0
theorem maskTo_lt (g : Nat → Bool) (k : Nat) : maskTo g k < 2 ^ k := by
  induction k with
  | zero => simp [maskTo]
  | succ k ih => simp only [maskTo]; rw [Nat.pow_succ]; split <;> omega
theorem maskTo_congr (g h : Nat → Bool) (k : Nat) (e : ∀ i, i < k → g i = h i) : maskTo g k = maskTo h k := by
  induction k with
  | zero => rfl
  | succ k ih => simp only [maskTo]; rw [ih (fun i hi => e i (by omega)), e k (by omega)]
def byteAt (p : ByteArray) (i : Nat) : UInt8 := p.data.toList.getD i 0
def maskG (p : ByteArray) (f : Bool) (b : Int) (i : Nat) : Bool := eqI ((byteAt p i).toNat) b f
def maskI (p : ByteArray) (f : Bool) (b : Int) : Int := if p.size ≤ 20 ∧ 0 ≤ b ∧ b ≤ 255 then (maskTo (maskG p f b) p.size : Int) else 0

/-- a row of bytes, the first k folded -/
def frow (s : ByteArray) (cap : Nat) : Nat → Array Value
  | 0 => bytesRow s cap
  | k + 1 => (frow s cap k).setIfInBounds k (.int .u8 (foldI ((s.data.toList.getD k 0).toNat)))
theorem bytesRow_size (s : ByteArray) (cap : Nat) (h : s.size ≤ cap) : (bytesRow s cap).size = cap := by
  have : s.data.size = s.size := rfl
  simp [bytesRow]; omega
theorem frow_size (s : ByteArray) (cap k : Nat) : (frow s cap k).size = (bytesRow s cap).size := by
  induction k with
  | zero => rfl
  | succ k ih => simp [frow, ih]
theorem frow_at (s : ByteArray) (cap k i : Nat) (hi : i < s.size) :
    (frow s cap k)[i]? = some (.int .u8 (if i < k then foldI ((s.data.toList.getD i 0).toNat) else ((s.data.toList.getD i 0).toNat : Int))) := by
  have hd : s.data.toList.getD i 0 = s.data[i]'hi := by
    have hl : i < s.data.toList.length := by rw [Array.length_toList]; exact hi
    rw [List.getD_eq_getElem?_getD, List.getElem?_eq_getElem hl]; rfl
  induction k with
  | zero => rw [if_neg (by omega), hd]; exact bytesRow_at s cap i hi
  | succ k ih =>
    simp only [frow]
    rw [Array.getElem?_setIfInBounds]
    by_cases h : k = i
    · subst h
      have hl : k < (frow s cap k).size := (Array.getElem?_eq_some_iff.1 ih).1
      rw [if_pos rfl, if_pos hl, if_pos (by omega)]
    · rw [if_neg h, ih]; congr 2
      by_cases h2 : i < k
      · rw [if_pos h2, if_pos (by omega)]
      · rw [if_neg h2, if_neg (by omega)]

/-- FoldOf at any number -/
def foldOfI (n : Int) : Int := if 0 ≤ n ∧ n ≤ 255 then foldI n else -1

/-- 256 noughts -/
def zeros256 : Array Value := Array.replicate 256 (.int .u8 0)
def tab1 : Nat → Array Value
  | 0 => zeros256
  | k + 1 => (tab1 k).setIfInBounds k (.int .u8 k)
def tab2 : Nat → Array Value
  | 0 => tab1 256
  | k + 1 => (tab2 k).setIfInBounds (65 + k) (.int .u8 ((65 + k : Nat) + 32 : Int))
def foldTab : Array Value := tab2 26

theorem tab1_size (k : Nat) : (tab1 k).size = 256 := by
  induction k with
  | zero => simp [tab1, zeros256]
  | succ k ih => simp [tab1, ih]
theorem tab2_size (k : Nat) : (tab2 k).size = 256 := by
  induction k with
  | zero => simp [tab2, tab1_size]
  | succ k ih => simp [tab2, ih]
theorem tab1_at (k i : Nat) (hi : i < 256) : (tab1 k)[i]? = some (.int .u8 (if i < k then (i : Int) else 0)) := by
  induction k with
  | zero => simp [tab1, zeros256, hi]
  | succ k ih =>
    have hs := tab1_size k
    simp only [tab1]
    rw [Array.getElem?_setIfInBounds]
    by_cases h : k = i
    · subst h; simp [hs, hi]
    · rw [if_neg h, ih]; congr 2
      by_cases h2 : i < k
      · simp [h2]; omega
      · rw [if_neg h2, if_neg (by omega)]
theorem tab2_at (k i : Nat) (hi : i < 256) : (tab2 k)[i]? = some (.int .u8 (if 65 ≤ i ∧ i < 65 + k then (i : Int) + 32 else (i : Int))) := by
  induction k with
  | zero => simp only [tab2]; rw [tab1_at 256 i hi, if_pos hi, if_neg (by omega)]
  | succ k ih =>
    have hs := tab2_size k
    simp only [tab2]
    rw [Array.getElem?_setIfInBounds]
    by_cases h : 65 + k = i
    · subst h; rw [if_pos rfl, if_pos (by omega), if_pos (by omega)]
    · rw [if_neg h, ih]; congr 2
      by_cases h2 : 65 ≤ i ∧ i < 65 + k
      · rw [if_pos h2, if_pos (by omega)]
      · rw [if_neg h2, if_neg (by omega)]
theorem foldTab_at (i : Nat) (hi : i < 256) : foldTab[i]? = some (.int .u8 (foldI (i : Int))) := by
  unfold foldTab foldI
  rw [tab2_at 26 i hi]; congr 2
  by_cases h : 65 ≤ i ∧ i < 65 + 26
  · rw [if_pos h, if_pos (by omega)]
  · rw [if_neg h, if_neg (by omega)]
theorem foldTab_size : foldTab.size = 256 := tab2_size 26
theorem foldTab_one : foldTab.all (·.oneCell') = true := by
  rw [Array.all_eq_true]
  intro i hi
  have h := foldTab_at i (by simpa [foldTab_size] using hi)
  rw [Array.getElem?_eq_getElem hi] at h
  simp only [Option.some.injEq] at h
  rw [h]; rfl
end Go.Proofs.Ytpniiaemgobaiaa

/-
  A line of a dictionary: what it says, or the place of the first thing that is wrong; a whole text's lines. Plain.
-/
import Derived.Test.YtodmohepgmhipaaL2Cut
import Derived.Test.YtodmohepgmhipaaL2Num2
import Derived.Test.YtodmohepgmhipaaL2From
import Derived.Test.YtodmohepgmhipaaPats
namespace Go.Proofs.Ytodmohepgmhipaa
open Go.RowKit
set_option linter.unusedVariables false
set_option maxRecDepth 100000
def lnA (x : ByteArray) : ByteArray := cutA x 32
def lnR (x : ByteArray) : ByteArray := cutB x 32
def lnF (x : ByteArray) : ByteArray := cutA (lnR x) 32
def lnT (x : ByteArray) : ByteArray := cutB (lnR x) 32
def strI : ByteArray := ⟨#[105]⟩
def strM : ByteArray := ⟨#[45]⟩
theorem strI_I : (strI.toList == [105]) = true := by rw [ByteArray.toList_eq]; rfl
theorem strM_I : (strM.toList == [105]) = false := by rw [ByteArray.toList_eq]; rfl
theorem strM_M : (strM.toList == [45]) = true := by rw [ByteArray.toList_eq]; rfl
def lineR (x : ByteArray) : Except Nat Pt :=
  if cutF x 32 = true ∧ numOk (lnA x) = true ∧ numV (lnA x) ≤ 4 then
    if cutF (lnR x) 32 = true ∧ (lnF x = strI ∨ lnF x = strM) then
      match unAll (lnT x) with
      | .error p => .error ((lnA x).size + 3 + p)
      | .ok l => if 1 ≤ l.length ∧ l.length ≤ 20 then .ok ⟨⟨l.toArray⟩, numV (lnA x), decide (lnF x = strI)⟩ else .error ((lnA x).size + 3)
    else .error ((lnA x).size + 1)
  else .error 0
theorem cutA_size (s : ByteArray) (c : Nat) : (cutA s c).size = cutI s c := by
  unfold cutA
  rw [ByteArray.size_extract]
  have := cutI_le s c
  omega
theorem cutB_size (s : ByteArray) (c : Nat) : (cutB s c).size = s.size - (cutI s c + 1) := by
  unfold cutB
  rw [ByteArray.size_extract]
  omega
theorem cutF_lt {s : ByteArray} {c : Nat} (h : cutF s c = true) : (cutA s c).size < s.size := by
  rw [cutA_size]; unfold cutF at h; exact of_decide_eq_true h
theorem unL_shift (f : Nat) : ∀ (l : List UInt8) (p k : Nat), unL f l (p + k) = match unL f l p with | .ok r => .ok r | .error q => .error (q + k) := by
  induction f with
  | zero => intro l p k; rfl
  | succ f ih =>
    intro l p k
    simp only [unL]
    split
    · rfl
    · split
      · rfl
      · rename_i b n _
        rw [show p + k + n = p + n + k by omega, ih]
        cases unL f (l.drop n) (p + n) <;> rfl
theorem unL_from (s : ByteArray) (k : Nat) (hk : k ≤ s.size) : unL s.size (s.data.toList.drop k) k = match unAll (s.extract k s.size) with | .ok r => .ok r | .error q => .error (q + k) := by
  have hl : (s.extract k s.size).data.toList = s.data.toList.drop k := by rw [extract_drop]
  have hs : (s.extract k s.size).size = s.size - k := by rw [ByteArray.size_extract]; omega
  have hd : (s.data.toList.drop k).length = s.size - k := by rw [List.length_drop, Array.length_toList]; rfl
  unfold unAll
  rw [hl, hs]
  have h := unL_shift s.size (s.data.toList.drop k) 0 k
  rw [Nat.zero_add] at h
  rw [h, unL_fuel s.size (s.size - k) _ 0 (by omega) (by omega)]
theorem lnT_at (x : ByteArray) (h1 : cutF x 32 = true) (h2 : cutF (lnR x) 32 = true) : lnT x = x.extract ((lnA x).size + (lnF x).size + 2) x.size ∧ (lnA x).size + (lnF x).size + 2 ≤ x.size := by
  have a1 := cutF_lt h1
  have a2 := cutF_lt h2
  have b := cutB_size x 32
  have c := cutA_size x 32
  have d := cutA_size (lnR x) 32
  have hr : (lnR x).size = x.size - ((lnA x).size + 1) := by unfold lnR lnA; rw [b, c]
  have hf : (lnF x).size = cutI (lnR x) 32 := d
  have a2' : (lnF x).size < (lnR x).size := a2
  have a1' : (lnA x).size < x.size := a1
  refine ⟨?_, by omega⟩
  have e1 : lnT x = (lnR x).extract ((lnF x).size + 1) (lnR x).size := by unfold lnT cutB; rw [hf]
  have e2 : lnR x = x.extract ((lnA x).size + 1) x.size := by unfold lnR cutB lnA; rw [c]
  rw [e1, extract_drop, e2, extract_drop, extract_drop]
  have key : ∀ (l : List UInt8) (m n : Nat), List.drop n (List.drop m l).toArray.toList = List.drop (m + n) l := fun l m n => by simp [List.drop_drop]
  show ByteArray.mk (List.drop ((lnF x).size + 1) (List.drop ((lnA x).size + 1) x.data.toList).toArray.toList).toArray = _
  rw [key, show (lnA x).size + 1 + ((lnF x).size + 1) = (lnA x).size + (lnF x).size + 2 by omega]
theorem unL_len2 : ∀ (f : Nat) (l : List UInt8) (p : Nat) (t : List UInt8), unL f l p = .ok t → t.length ≤ l.length := by
  intro f
  induction f with
  | zero =>
    intro l p t h
    simp only [unL, Except.ok.injEq] at h
    subst h; simp
  | succ f ih =>
    intro l p t h
    by_cases hl : l = []
    · subst hl; rw [unL_nil] at h; cases h; simp
    · cases hs : unStep l with
      | none => rw [unL_none (by omega) hl hs] at h; cases h
      | some q =>
        obtain ⟨b, n⟩ := q
        have hn := unStep_len hs
        rw [unL_some hl hs] at h
        cases hu : unL f (l.drop n) (p + n) with
        | error e => rw [hu] at h; cases h
        | ok t2 =>
          rw [hu] at h; cases h
          have := ih _ _ _ hu
          simp at this ⊢; omega
theorem unL_err : ∀ (f : Nat) (l : List UInt8) (p q : Nat), unL f l p = .error q → q ≤ p + l.length := by
  intro f
  induction f with
  | zero =>
    intro l p q h
    simp only [unL] at h
    cases h
  | succ f ih =>
    intro l p q h
    by_cases hl : l = []
    · subst hl; rw [unL_nil] at h; cases h
    · cases hs : unStep l with
      | none => rw [unL_none (by omega) hl hs] at h; cases h; omega
      | some y =>
        obtain ⟨b, n⟩ := y
        have hn := unStep_len hs
        rw [unL_some hl hs] at h
        cases hu : unL f (l.drop n) (p + n) with
        | error e =>
          rw [hu] at h; cases h
          have := ih _ _ _ hu
          rw [List.length_drop] at this
          omega
        | ok t2 => rw [hu] at h; cases h
theorem unAll_err {s : ByteArray} {q : Nat} (h : unAll s = .error q) : q ≤ s.size := by
  have := unL_err _ _ _ _ (show unL s.size s.data.toList 0 = .error q from h)
  rw [Array.length_toList] at this
  have h9 : s.data.size = s.size := rfl
  omega
theorem unAll_len {s : ByteArray} {l : List UInt8} (h : unAll s = .ok l) : (⟨l.toArray⟩ : ByteArray).size ≤ s.size := by
  have h7 := unL_len2 _ _ _ _ (show unL s.size s.data.toList 0 = .ok l from h)
  have h9 : s.data.toList.length = s.size := Array.length_toList
  have h8 : (⟨l.toArray⟩ : ByteArray).size = l.length := by show l.toArray.size = _; simp
  omega
theorem lineR_err {x : ByteArray} {q : Nat} (h : lineR x = .error q) : q ≤ 2 * x.size + 3 := by
  have ha := cutA_size x 32
  have hb := cutI_le x 32
  have hr := cutB_size x 32
  have ht := cutB_size (lnR x) 32
  unfold lineR at h
  split at h
  · split at h
    · split at h
      · rename_i p hp
        have := unAll_err hp
        cases h
        unfold lnA lnT at *
        unfold lnR at *
        omega
      · split at h
        · cases h
        · cases h; unfold lnA; omega
    · cases h; unfold lnA; omega
  · cases h; omega
/-- the lines of a text from its line n + 1 on: the patterns, or the line and the place of the first thing that is wrong -/
def dictR : Nat → ByteArray → Nat → List Pt → Except (Nat × Nat) (List Pt)
  | 0, _, _, acc => .ok acc
  | f + 1, r, n, acc =>
    if r.size = 0 then .ok acc
    else if cutF r 10 = false then .error (n + 1, r.size)
    else if (cutA r 10).size = 0 ∨ (cutA r 10).data.toList.head? = some 35 then dictR f (cutB r 10) (n + 1) acc
    else match lineR (cutA r 10) with
      | .error q => .error (n + 1, q)
      | .ok p => if acc.length = 8 then .error (n + 1, 0) else dictR f (cutB r 10) (n + 1) (acc ++ [p])
theorem dictR_end {f n : Nat} {r : ByteArray} {acc : List Pt} (h : r.size = 0) : dictR f r n acc = .ok acc := by
  cases f with
  | zero => rfl
  | succ f => simp [dictR, h]
theorem dictR_open {f n : Nat} {r : ByteArray} {acc : List Pt} (h : r.size ≠ 0) (hc : cutF r 10 = false) : dictR (f + 1) r n acc = .error (n + 1, r.size) := by
  simp [dictR, h, hc]
theorem dictR_skip {f n : Nat} {r : ByteArray} {acc : List Pt} (h : r.size ≠ 0) (hc : cutF r 10 = true) (hs : (cutA r 10).size = 0 ∨ (cutA r 10).data.toList.head? = some 35) : dictR (f + 1) r n acc = dictR f (cutB r 10) (n + 1) acc := by
  simp only [dictR]; rw [if_neg h, if_neg (by rw [hc]; simp), if_pos hs]
theorem dictR_bad {f n q : Nat} {r : ByteArray} {acc : List Pt} (h : r.size ≠ 0) (hc : cutF r 10 = true) (hs : ¬ ((cutA r 10).size = 0 ∨ (cutA r 10).data.toList.head? = some 35)) (hl : lineR (cutA r 10) = .error q) : dictR (f + 1) r n acc = .error (n + 1, q) := by
  simp only [dictR]; rw [if_neg h, if_neg (by rw [hc]; simp), if_neg hs, hl]
theorem dictR_full {f n : Nat} {p : Pt} {r : ByteArray} {acc : List Pt} (h : r.size ≠ 0) (hc : cutF r 10 = true) (hs : ¬ ((cutA r 10).size = 0 ∨ (cutA r 10).data.toList.head? = some 35)) (hl : lineR (cutA r 10) = .ok p) (h8 : acc.length = 8) : dictR (f + 1) r n acc = .error (n + 1, 0) := by
  simp only [dictR]; rw [if_neg h, if_neg (by rw [hc]; simp), if_neg hs, hl]; simp [h8]
theorem dictR_more {f n : Nat} {p : Pt} {r : ByteArray} {acc : List Pt} (h : r.size ≠ 0) (hc : cutF r 10 = true) (hs : ¬ ((cutA r 10).size = 0 ∨ (cutA r 10).data.toList.head? = some 35)) (hl : lineR (cutA r 10) = .ok p) (h8 : acc.length ≠ 8) : dictR (f + 1) r n acc = dictR f (cutB r 10) (n + 1) (acc ++ [p]) := by
  simp only [dictR]; rw [if_neg h, if_neg (by rw [hc]; simp), if_neg hs, hl]; simp [h8]
theorem cutB_less {r : ByteArray} {c : Nat} (h : r.size ≠ 0) : (cutB r c).size < r.size := by rw [cutB_size]; omega
def strSz : Value → Nat
  | .string r => r.size
  | _ => 0
theorem str_empty {r : ByteArray} (h : r.size = 0) : r = ⟨#[]⟩ := by
  cases r with
  | mk d =>
    have : d = #[] := Array.eq_empty_of_size_eq_zero h
    rw [this]
/-- all lines of s -/
def dictAll (s : ByteArray) : Except (Nat × Nat) (List Pt) := dictR (s.size + 1) s 0 []
def dAcc (r : Except (Nat × Nat) (List Pt)) : List Pt := match r with | .ok l => l | .error _ => []
def dLine (r : Except (Nat × Nat) (List Pt)) : Int := match r with | .ok _ => 0 | .error (n, _) => n
def dCol (r : Except (Nat × Nat) (List Pt)) : Int := match r with | .ok _ => 0 | .error (_, q) => q + 1
end Go.Proofs.Ytodmohepgmhipaa

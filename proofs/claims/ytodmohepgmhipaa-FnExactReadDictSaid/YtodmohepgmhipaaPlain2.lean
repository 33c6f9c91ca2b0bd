/-
  Plain facts of chapter 2, without any program: escapes.
-/
import Derived.Test.YtodmohepgmhipaaPlain
import Derived.Lib.Bytealg
namespace Go.Proofs.Ytodmohepgmhipaa
open Go.RowKit
set_option linter.unusedVariables false
set_option maxRecDepth 100000
/-- the digit of a number below 16 -/
def hexB (n : Nat) : UInt8 := if n < 10 then UInt8.ofNat (48 + n) else UInt8.ofNat (87 + n)
def hexLit : ByteArray := { data := #[48, 49, 50, 51, 52, 53, 54, 55, 56, 57, 97, 98, 99, 100, 101, 102] }
theorem hexLit_size : hexLit.size = 16 := rfl
theorem hexLit_at (n : Nat) (h : n < 16) : hexLit[n]'(by rw [hexLit_size]; exact h) = hexB n := by
  have : ∀ m : Fin 16, hexLit[m.1]'(by rw [hexLit_size]; exact m.2) = hexB m.1 := by decide
  exact this ⟨n, h⟩
def escB (b : UInt8) : List UInt8 :=
  if b.toNat = 92 then [92, 92] else if b.toNat = 10 then [92, 110] else if 33 ≤ b.toNat ∧ b.toNat ≤ 126 then [b] else [92, 120, hexB (b.toNat / 16), hexB (b.toNat % 16)]
def escL (l : List UInt8) : List UInt8 := l.flatMap escB
def escS (s : ByteArray) : ByteArray := ⟨(escL s.data.toList).toArray⟩
theorem escB_len (b : UInt8) : 1 ≤ (escB b).length ∧ (escB b).length ≤ 4 := by
  unfold escB; split; · simp
  split; · simp
  split <;> simp
theorem escL_snoc (l : List UInt8) (b : UInt8) : escL (l ++ [b]) = escL l ++ escB b := by simp [escL]
theorem escL_len (l : List UInt8) : (escL l).length ≤ 4 * l.length := by
  induction l with
  | nil => simp [escL]
  | cons b r ih => have := escB_len b; simp only [escL, List.flatMap_cons, List.length_append, List.length_cons] at *; omega
theorem escB_92 {b : UInt8} (h : b.toNat = 92) : escB b = [92, 92] := by unfold escB; rw [if_pos h]
theorem escB_10 {b : UInt8} (h : b.toNat = 10) : escB b = [92, 110] := by unfold escB; rw [if_neg (by omega), if_pos h]
theorem escB_plain {b : UInt8} (h1 : 33 ≤ b.toNat) (h2 : b.toNat ≤ 126) (h3 : b.toNat ≠ 92) : escB b = [b] := by unfold escB; rw [if_neg (by omega), if_neg (by omega), if_pos ⟨h1, h2⟩]
theorem escB_hex {b : UInt8} (h : ¬ (33 ≤ b.toNat ∧ b.toNat ≤ 126)) (h3 : b.toNat ≠ 10) : escB b = [92, 120, hexB (b.toNat / 16), hexB (b.toNat % 16)] := by
  unfold escB; rw [if_neg (by omega), if_neg h3, if_neg h]
theorem escS_size (s : ByteArray) : (escS s).size ≤ 4 * s.size := by
  have h1 : s.data.toList.length = s.size := Array.length_toList
  have := escL_len s.data.toList
  show (escL s.data.toList).toArray.size ≤ _
  simp; omega

/-- the number of a digit; 16: it is none -/
def hexV (b : UInt8) : Nat := if 48 ≤ b.toNat ∧ b.toNat ≤ 57 then b.toNat - 48 else if 97 ≤ b.toNat ∧ b.toNat ≤ 102 then b.toNat - 87 else 16
theorem hexV_le (b : UInt8) : hexV b ≤ 16 := by unfold hexV; split; · omega
                                                split <;> omega
def idxHex (b : UInt8) : Int := if hexV b < 16 then (hexV b : Int) else -1
theorem indexByte_hex (b : UInt8) : Lib.indexByte hexLit.data.toList b = idxHex b := by
  have : ∀ n : Fin 256, Lib.indexByte hexLit.data.toList (UInt8.ofNat n.1) = idxHex (UInt8.ofNat n.1) := by decide +kernel
  have h := this ⟨b.toNat, b.toNat_lt⟩
  simpa using h
/-- the first byte of a text that was escaped, and how many bytes say it -/
def unStep : List UInt8 → Option (UInt8 × Nat)
  | [] => none
  | b :: r =>
    if b.toNat < 33 ∨ 126 < b.toNat then none
    else if b.toNat ≠ 92 then some (b, 1)
    else match r with
      | [] => none
      | c :: r2 =>
        if c.toNat = 92 then some (92, 2)
        else if c.toNat = 110 then some (10, 2)
        else if c.toNat = 120 then
          match r2 with
          | h :: l :: _ => if hexV h < 16 ∧ hexV l < 16 then some (UInt8.ofNat (16 * hexV h + hexV l), 4) else none
          | _ => none
        else none
theorem unStep_bad {b : UInt8} {r : List UInt8} (h : b.toNat < 33 ∨ 126 < b.toNat) : unStep (b :: r) = none := by simp only [unStep]; rw [if_pos h]
theorem unStep_plain {b : UInt8} {r : List UInt8} (h : ¬ (b.toNat < 33 ∨ 126 < b.toNat)) (h2 : b.toNat ≠ 92) : unStep (b :: r) = some (b, 1) := by simp only [unStep]; rw [if_neg h, if_pos h2]
theorem unStep_end : unStep [92] = none := rfl
theorem unStep_back (r : List UInt8) : unStep (92 :: 92 :: r) = some (92, 2) := rfl
theorem unStep_feed (r : List UInt8) : unStep (92 :: 110 :: r) = some (10, 2) := rfl
theorem unStep_other {c : UInt8} {r : List UInt8} (h1 : c.toNat ≠ 92) (h2 : c.toNat ≠ 110) (h3 : c.toNat ≠ 120) : unStep (92 :: c :: r) = none := by
  show (if c.toNat = 92 then some (92, 2) else if c.toNat = 110 then some (10, 2) else if c.toNat = 120 then _ else none) = none
  rw [if_neg h1, if_neg h2, if_neg h3]
theorem unStep_short0 : unStep [92, 120] = none := rfl
theorem unStep_short1 (h : UInt8) : unStep [92, 120, h] = none := rfl
theorem unStep_hex {h l : UInt8} {r : List UInt8} (g : hexV h < 16 ∧ hexV l < 16) : unStep (92 :: 120 :: h :: l :: r) = some (UInt8.ofNat (16 * hexV h + hexV l), 4) := by
  show (if hexV h < 16 ∧ hexV l < 16 then some (UInt8.ofNat (16 * hexV h + hexV l), 4) else none) = _
  rw [if_pos g]
theorem unStep_nohex {h l : UInt8} {r : List UInt8} (g : ¬ (hexV h < 16 ∧ hexV l < 16)) : unStep (92 :: 120 :: h :: l :: r) = none := by
  show (if hexV h < 16 ∧ hexV l < 16 then some (UInt8.ofNat (16 * hexV h + hexV l), 4) else none) = none
  rw [if_neg g]
theorem unStep_len {l : List UInt8} {b : UInt8} {n : Nat} (h : unStep l = some (b, n)) : 1 ≤ n ∧ n ≤ l.length := by
  unfold unStep at h
  repeat' split at h
  all_goals first
    | (cases h; done)
    | (simp only [Option.some.injEq, Prod.mk.injEq] at h; obtain ⟨_, rfl⟩ := h; simp)
/-- a text that was escaped, from its place p on: what it says, or the place of the first byte that is wrong -/
def unL : Nat → List UInt8 → Nat → Except Nat (List UInt8)
  | 0, _, _ => .ok []
  | f + 1, l, p => if l.isEmpty then .ok [] else match unStep l with
    | none => .error p
    | some (b, n) => match unL f (l.drop n) (p + n) with
      | .ok r => .ok (b :: r)
      | .error q => .error q
theorem unL_nil (f p : Nat) : unL f [] p = .ok [] := by cases f <;> simp [unL]
theorem unL_none {f : Nat} {l : List UInt8} {p : Nat} (hf : 0 < f) (hl : l ≠ []) (h : unStep l = none) : unL f l p = .error p := by
  cases f with
  | zero => omega
  | succ f =>
    have : l.isEmpty = false := by cases l <;> simp_all
    simp [unL, this, h]
theorem unL_some {f : Nat} {l : List UInt8} {p n : Nat} {b : UInt8} (hl : l ≠ []) (h : unStep l = some (b, n)) : unL (f + 1) l p = match unL f (l.drop n) (p + n) with
      | .ok r => .ok (b :: r)
      | .error q => .error q := by
  have : l.isEmpty = false := by cases l <;> simp_all
  simp [unL, this, h]
/-- more fuel than bytes changes nothing -/
theorem unL_fuel (f g : Nat) (l : List UInt8) (p : Nat) (hf : l.length ≤ f) (hg : l.length ≤ g) : unL f l p = unL g l p := by
  induction f generalizing g l p with
  | zero => have : l = [] := List.eq_nil_of_length_eq_zero (by omega)
            subst this; rw [unL_nil, unL_nil]
  | succ f ih =>
    by_cases hl : l = []
    · subst hl; rw [unL_nil, unL_nil]
    · have hpos : 0 < l.length := List.length_pos_iff.2 hl
      cases g with
      | zero => omega
      | succ g =>
        cases h : unStep l with
        | none => rw [unL_none (by omega) hl h, unL_none (by omega) hl h]
        | some x =>
          obtain ⟨b, n⟩ := x
          have hn := unStep_len h
          rw [unL_some hl h, unL_some hl h, ih g (l.drop n) (p + n) (by simp; omega) (by simp; omega)]
theorem unL_step {f : Nat} {l : List UInt8} {p n : Nat} {b : UInt8} (hl : l ≠ []) (hf : l.length ≤ f) (h : unStep l = some (b, n)) : unL f l p = match unL f (l.drop n) (p + n) with
      | .ok r => .ok (b :: r)
      | .error q => .error q := by
  have hn := unStep_len h
  rw [unL_fuel f (f + 1) l p hf (by omega), unL_some hl h]
/-- the first two bytes -/
def pre2 (l : List UInt8) (p q : UInt8) : Bool := match l with
  | a :: b :: _ => a == p && b == q
  | _ => false
end Go.Proofs.Ytodmohepgmhipaa

/-
  Plain facts of chapter 2, without any program: escapes.
-/
import Derived.Test.YtgjngnignjbdlabPlain
namespace Go.Proofs.Ytgjngnignjbdlab
open Go.RowKit
set_option linter.unusedVariables false
/-- the digit of a number below 16 -/
def hexB (n : Nat) : UInt8 := if n < 10 then UInt8.ofNat (48 + n) else UInt8.ofNat (87 + n)
def hexLit : ByteArray := { data := #[48, 49, 50, 51, 52, 53, 54, 55, 56, 57, 97, 98, 99, 100, 101, 102] }
theorem hexLit_size : hexLit.size = 16 := rfl
theorem hexLit_at (n : Nat) (h : n < 16) : hexLit[n]'(by rw [hexLit_size]; exact h) = hexB n := by
  have : ∀ m : Fin 16, hexLit[m.1]'(by rw [hexLit_size]; exact m.2) = hexB m.1 := by decide
  exact this ⟨n, h⟩
def escB (b : UInt8) : List UInt8 :=
  if b.toNat = 92 then [92, 92] else if b.toNat = 10 then [92, 110] else if 33 ≤ b.toNat ∧ b.toNat ≤ 126 then [b] else [92, 120, hexB (b.toNat / 16), hexB (b.toNat % 16)]
def escL (l : List UInt8) : List UInt8 := l.flatMap escB
def escS (s : ByteArray) : ByteArray := ⟨(escL s.data.toList).toArray⟩
theorem escB_len (b : UInt8) : 1 ≤ (escB b).length ∧ (escB b).length ≤ 4 := by
  unfold escB; split; · simp
  split; · simp
  split <;> simp
theorem escL_snoc (l : List UInt8) (b : UInt8) : escL (l ++ [b]) = escL l ++ escB b := by simp [escL]
theorem escL_len (l : List UInt8) : (escL l).length ≤ 4 * l.length := by
  induction l with
  | nil => simp [escL]
  | cons b r ih => have := escB_len b; simp only [escL, List.flatMap_cons, List.length_append, List.length_cons] at *; omega
theorem escB_92 {b : UInt8} (h : b.toNat = 92) : escB b = [92, 92] := by unfold escB; rw [if_pos h]
theorem escB_10 {b : UInt8} (h : b.toNat = 10) : escB b = [92, 110] := by unfold escB; rw [if_neg (by omega), if_pos h]
theorem escB_plain {b : UInt8} (h1 : 33 ≤ b.toNat) (h2 : b.toNat ≤ 126) (h3 : b.toNat ≠ 92) : escB b = [b] := by unfold escB; rw [if_neg (by omega), if_neg (by omega), if_pos ⟨h1, h2⟩]
theorem escB_hex {b : UInt8} (h : ¬ (33 ≤ b.toNat ∧ b.toNat ≤ 126)) (h3 : b.toNat ≠ 10) : escB b = [92, 120, hexB (b.toNat / 16), hexB (b.toNat % 16)] := by
  unfold escB; rw [if_neg (by omega), if_neg h3, if_neg h]
theorem escS_size (s : ByteArray) : (escS s).size ≤ 4 * s.size := by
  have h1 : s.data.toList.length = s.size := Array.length_toList
  have := escL_len s.data.toList
  show (escL s.data.toList).toArray.size ≤ _
  simp; omega
end Go.Proofs.Ytgjngnignjbdlab

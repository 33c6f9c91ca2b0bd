/-
  Chapter 2: the number at the beginning of a line, in the program and in its model.
-/
import Derived.Test.YtodmohepgmhipaaL2Cut2
namespace Go.Proofs.Ytodmohepgmhipaa
open Go.RowKit
set_option linter.unusedVariables false
set_option maxRecDepth 100000
def isDig (b : UInt8) : Bool := decide (48 ≤ b.toNat) && decide (b.toNat ≤ 57)
/-- what the digits say -/
def valL (l : List UInt8) : Nat := l.foldl (fun n b => n * 10 + (b.toNat - 48)) 0
def numOk (s : ByteArray) : Bool := decide (1 ≤ s.size) && decide (s.size ≤ 9) && !(decide (1 < s.size) && decide (s.data.toList.head? = some 48)) && s.data.toList.all isDig
def numV (s : ByteArray) : Nat := if numOk s = true then valL s.data.toList else 0
theorem valL_snoc (l : List UInt8) (b : UInt8) : valL (l ++ [b]) = valL l * 10 + (b.toNat - 48) := by simp [valL]
theorem valL_lt (l : List UInt8) (h : ∀ b ∈ l, isDig b = true) : valL l < 10 ^ l.length := by
  have key : ∀ m : List UInt8, (∀ b ∈ m, isDig b = true) → ∀ n, m.foldl (fun n b => n * 10 + (b.toNat - 48)) n < (n + 1) * 10 ^ m.length := by
    intro m
    induction m with
    | nil => intro _ n; simp
    | cons b r ih =>
      intro hb n
      have h1 := ih (fun x hx => hb x (List.mem_cons_of_mem _ hx)) (n * 10 + (b.toNat - 48))
      have h2 := hb b List.mem_cons_self
      simp only [isDig, Bool.and_eq_true, decide_eq_true_eq] at h2
      simp only [List.foldl_cons, List.length_cons]
      refine Nat.lt_of_lt_of_le h1 ?_
      rw [Nat.pow_succ, ← Nat.mul_assoc, Nat.mul_right_comm]
      exact Nat.mul_le_mul_right _ (by omega)
  have := key l h 0
  simpa [valL] using this
theorem take_dig (s : ByteArray) (k : Nat) (h : ∀ j (h : j < k) (h2 : j < s.size), isDig s[j] = true) : ∀ b ∈ s.data.toList.take k, isDig b = true := by
  intro b hb
  obtain ⟨i, hi, rfl⟩ := List.getElem_of_mem hb
  have hi1 : i < k ∧ i < s.size := by
    rw [List.length_take, Array.length_toList] at hi
    exact ⟨by omega, Nat.lt_of_lt_of_le hi (Nat.min_le_right _ _)⟩
  rw [List.getElem_take]
  have e : s.data.toList[i]'(by rw [Array.length_toList]; exact hi1.2) = s[i]'hi1.2 := by rw [Array.getElem_toList]; rfl
  rw [e]; exact h i hi1.1 hi1.2
theorem all_dig (s : ByteArray) (h : ∀ j (h : j < s.size), isDig s[j] = true) : s.data.toList.all isDig = true := by
  rw [List.all_eq_true]
  have := take_dig s s.size (fun j _ h2 => h j h2)
  rwa [List.take_of_length_le (by rw [Array.length_toList]; exact Nat.le_refl _)] at this
theorem not_dig (s : ByteArray) (k : Nat) (hk : k < s.size) (h : isDig s[k] = false) : s.data.toList.all isDig = false := by
  rw [← Bool.not_eq_true]
  intro ha
  rw [List.all_eq_true] at ha
  have e : s.data.toList[k]'(by rw [Array.length_toList]; exact hk) = s[k] := by rw [Array.getElem_toList]; rfl
  have := ha _ (List.getElem_mem (by rw [Array.length_toList]; exact hk))
  rw [e, h] at this
  cases this
theorem head_at (s : ByteArray) (h : 0 < s.size) : s.data.toList.head? = some s[0] := by
  rw [List.head?_eq_getElem?, List.getElem?_eq_getElem (by rw [Array.length_toList]; exact h), Array.getElem_toList]
  rfl
end Go.Proofs.Ytodmohepgmhipaa

/-
  Chapter 3: what DrawDistance hands over, whatever it reads; a text turned round, as the laws do it.
-/
import Derived.Test.YtpniiaemgobaiaaRd
import Derived.Test.YtpniiaemgobaiaaL1Draw
import Derived.Test.YtpniiaemgobaiaaL3Draw
import Derived.Test.YtpniiaemgobaiaaEd
namespace Go.Proofs.Ytpniiaemgobaiaa
open Go.RowKit
set_option linter.unusedVariables false
set_option maxRecDepth 100000
/-- a text the other way round -/
def backS (s : ByteArray) : ByteArray := ⟨(bl s).reverse.toArray⟩
def backTo (s : ByteArray) (k : Nat) : ByteArray := ⟨((bl s).take k).reverse.toArray⟩
theorem backTo_all (s : ByteArray) : backTo s s.size = backS s := by unfold backTo backS; rw [List.take_of_length_le (by rw [bl_len]; exact Nat.le_refl _)]
theorem backTo_size (s : ByteArray) (k : Nat) (h : k ≤ s.size) : (backTo s k).size = k := by
  show (((bl s).take k).reverse.toArray).size = k
  simp [bl_len, h]
theorem backTo_succ (s : ByteArray) (k : Nat) (h : k < s.size) : s.extract k (k + 1) ++ backTo s k = backTo s (k + 1) := by
  rw [one_slice s k h]
  show ByteArray.mk _ ++ ByteArray.mk _ = ByteArray.mk _
  rw [ByteArray.mk_append_mk]
  congr 1
  rw [bl_take s k h, List.reverse_append]
  have e : byteAt s k = s[k] := by
    unfold byteAt
    rw [List.getD_eq_getElem?_getD, List.getElem?_eq_getElem (show k < s.data.toList.length by simpa using h)]
    rfl
  rw [e]; simp
end Go.Proofs.Ytpniiaemgobaiaa

/-
  Chapter 3: what DrawDistance hands over, whatever it reads; a text turned round, as the laws do it.
-/
import Derived.Test.YtelhgpoppgpniabRd
import Derived.Test.YtelhgpoppgpniabL1Draw
import Derived.Test.YtelhgpoppgpniabL3Draw
import Derived.Test.YtelhgpoppgpniabEd
namespace Go.Proofs.Ytelhgpoppgpniab
open Go.RowKit
set_option linter.unusedVariables false
set_option maxRecDepth 100000
theorem drawDistance (a : Option Addr) (len cap : Nat) (z : List Int) (w : World) (hr : IsRow .u8 w a len cap z) (hl : len ≤ 1048576) :
    Calls Try.prog 46 #[.slice a len cap] w fun e w' => ∃ (s t : ByteArray) (f : Bool), e = .returned (.tuple #[.string s, .string t, .bool f]) ∧ s.size ≤ 14 ∧ t.size ≤ 14 ∧ Below w.heap.size w w' := by
  go_enter Try.func46, Try.ntmps46
  go_wp2_with fail
  refine (l1Open_any _ _ _ _ _ hr hl).mono ?_
  rintro e w1 ⟨rfl, hok, hb⟩
  go_wp2_with fail
  refine (rd_term _ _ _ _ _ _ hok 8 (by omega)).mono ?_
  rintro e w2 ⟨s, rfl, hs, hok2, hg2⟩
  go_wp2_with fail
  refine (rd_once _ _ _ _ _ _ hok2 _ (by omega) (by omega)).mono ?_
  rintro e w3 ⟨f, rfl, hok3, hg3⟩
  go_wp2_with fail
  refine (rd_once _ _ _ _ _ _ hok3 _ (by omega) (by omega)).mono ?_
  rintro e w4 ⟨m, rfl, hok4, hg4⟩
  have hg := grownBy_trans hg2 (grownBy_trans hg3 hg4)
  cases m
  · go_wp2_with fail
    refine (rd_nearly _ _ _ _ _ _ hok4 s (by omega)).mono ?_
    rintro e w5 ⟨t, rfl, ht, hok5, hg5⟩
    go_wp2_with fail
    go_ret3
    exact ⟨_, _, _, rfl, by omega, by omega, below_rd hb (grownBy_trans hg hg5)⟩
  · go_wp2_with fail
    refine (rd_term _ _ _ _ _ _ hok4 8 (by omega)).mono ?_
    rintro e w5 ⟨t, rfl, ht, hok5, hg5⟩
    go_wp2_with fail
    go_ret3
    exact ⟨_, _, _, rfl, by omega, by omega, below_rd hb (grownBy_trans hg hg5)⟩
/-- a text the other way round -/
def backS (s : ByteArray) : ByteArray := ⟨(bl s).reverse.toArray⟩
def backTo (s : ByteArray) (k : Nat) : ByteArray := ⟨((bl s).take k).reverse.toArray⟩
theorem backTo_all (s : ByteArray) : backTo s s.size = backS s := by unfold backTo backS; rw [List.take_of_length_le (by rw [bl_len]; exact Nat.le_refl _)]
theorem backTo_size (s : ByteArray) (k : Nat) (h : k ≤ s.size) : (backTo s k).size = k := by
  show (((bl s).take k).reverse.toArray).size = k
  simp [bl_len, h]
theorem backTo_succ (s : ByteArray) (k : Nat) (h : k < s.size) : s.extract k (k + 1) ++ backTo s k = backTo s (k + 1) := by
  rw [one_slice s k h]
  show ByteArray.mk _ ++ ByteArray.mk _ = ByteArray.mk _
  rw [ByteArray.mk_append_mk]
  congr 1
  rw [bl_take s k h, List.reverse_append]
  have e : byteAt s k = s[k] := by
    unfold byteAt
    rw [List.getD_eq_getElem?_getD, List.getElem?_eq_getElem (show k < s.data.toList.length by simpa using h)]
    rfl
  rw [e]; simp
end Go.Proofs.Ytelhgpoppgpniab

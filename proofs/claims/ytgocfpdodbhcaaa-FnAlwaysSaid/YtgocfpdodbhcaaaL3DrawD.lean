/-
  Chapter 3: what DrawDistance hands over, whatever it reads; a text turned round, as the laws do it.
-/
import Derived.Test.YtgocfpdodbhcaaaRd
import Derived.Test.YtgocfpdodbhcaaaL1Draw
import Derived.Test.YtgocfpdodbhcaaaL3Draw
import Derived.Test.YtgocfpdodbhcaaaEd
namespace Go.Proofs.Ytgocfpdodbhcaaa
open Go.RowKit
set_option linter.unusedVariables false
set_option maxRecDepth 100000
theorem drawDistance (a : Option Addr) (len cap : Nat) (z : List Int) (w : World) (hr : IsRow .u8 w a len cap z) (hl : len ≤ 1048576) :
    Calls Try.prog 22 #[.slice a len cap] w fun e w' => ∃ (s t : ByteArray) (f : Bool), e = .returned (.tuple #[.string s, .string t, .bool f]) ∧ s.size ≤ 14 ∧ t.size ≤ 14 ∧ Below w.heap.size w w' := by
  go_enter Try.func22, Try.ntmps22
  go_wp2_with fail
  refine (l1Open_any _ _ _ _ _ hr hl).mono ?_
  rintro e w1 ⟨rfl, hok, hb⟩
  go_wp2_with fail
  refine (rd_term _ _ _ _ _ _ hok 8 (by omega)).mono ?_
  rintro e w2 ⟨s, rfl, hs, hok2, hg2⟩
  go_wp2_with fail
  refine (rd_once _ _ _ _ _ _ hok2 _ (by omega) (by omega)).mono ?_
  rintro e w3 ⟨f, rfl, hok3, hg3⟩
  go_wp2_with fail
  refine (rd_once _ _ _ _ _ _ hok3 _ (by omega) (by omega)).mono ?_
  rintro e w4 ⟨m, rfl, hok4, hg4⟩
  have hg := grownBy_trans hg2 (grownBy_trans hg3 hg4)
  cases m
  · go_wp2_with fail
    refine (rd_nearly _ _ _ _ _ _ hok4 s (by omega)).mono ?_
    rintro e w5 ⟨t, rfl, ht, hok5, hg5⟩
    go_wp2_with fail
    go_ret3
    exact ⟨_, _, _, rfl, by omega, by omega, below_rd hb (grownBy_trans hg hg5)⟩
  · go_wp2_with fail
    refine (rd_term _ _ _ _ _ _ hok4 8 (by omega)).mono ?_
    rintro e w5 ⟨t, rfl, ht, hok5, hg5⟩
    go_wp2_with fail
    go_ret3
    exact ⟨_, _, _, rfl, by omega, by omega, below_rd hb (grownBy_trans hg hg5)⟩
/-- a text the other way round -/
def backS (s : ByteArray) : ByteArray := ⟨(bl s).reverse.toArray⟩
def backTo (s : ByteArray) (k : Nat) : ByteArray := ⟨((bl s).take k).reverse.toArray⟩
theorem backTo_all (s : ByteArray) : backTo s s.size = backS s := by unfold backTo backS; rw [List.take_of_length_le (by rw [bl_len]; exact Nat.le_refl _)]
theorem backTo_size (s : ByteArray) (k : Nat) (h : k ≤ s.size) : (backTo s k).size = k := by
  show (((bl s).take k).reverse.toArray).size = k
  simp [bl_len, h]
theorem backTo_succ (s : ByteArray) (k : Nat) (h : k < s.size) : s.extract k (k + 1) ++ backTo s k = backTo s (k + 1) := by
  rw [one_slice s k h]
  show ByteArray.mk _ ++ ByteArray.mk _ = ByteArray.mk _
  rw [ByteArray.mk_append_mk]
  congr 1
  rw [bl_take s k h, List.reverse_append]
  have e : byteAt s k = s[k] := by
    unfold byteAt
    rw [List.getD_eq_getElem?_getD, List.getElem?_eq_getElem (show k < s.data.toList.length by simpa using h)]
    rfl
  rw [e]; simp
theorem laws_back (s : ByteArray) (w : World) (hs : s.size ≤ 1000) :
    Calls Try.prog 26 #[.string s] w fun e w' => e = .returned (.string (backS s)) ∧ Below w.heap.size w w' := by
  have HA := Lib.hid (backTo_all s)
  go_enter Try.func26, Try.ntmps26
  go_wp2
  go_loopw [3, 4] (fun v i wr => ∃ k : Nat, k ≤ s.size ∧ i = .int .i64 k ∧ v = .string (backTo s k) ∧ Below w.heap.size w wr)
    (fun _ i _ => s.size - (intOf i).toNat)
  case atStart => exact ⟨0, by omega, rfl, rfl, Below.refl _ _⟩
  case round =>
    obtain ⟨k, hk, rfl, rfl, hb⟩ := hrel
    by_cases hlt : k < s.size
    · have hS := backTo_succ s k hlt
      have hB1 : (backTo s k).size ≤ 2000 := by rw [backTo_size s k hk]; omega
      have hA1 : (s.extract k (k + 1)).size ≤ 2000 := by rw [ByteArray.size_extract]; omega
      obtain ⟨A, hA⟩ : ∃ A, s.extract k (k + 1) = A := ⟨_, rfl⟩
      rw [hA] at hS hA1
      generalize backTo s k = B at *
      have HS := Lib.hid hS; clear hS
      go_wp2
      go_roundw
      case rel => exact ⟨k + 1, by omega, by go_num, by rw [← HS.out], hb⟩
      case measure => simp [intOf]; omega
    · obtain rfl : k = s.size := by omega
      go_wp2
      go_ret
      exact ⟨by rw [HA.out]; rfl, hb⟩
end Go.Proofs.Ytgocfpdodbhcaaa

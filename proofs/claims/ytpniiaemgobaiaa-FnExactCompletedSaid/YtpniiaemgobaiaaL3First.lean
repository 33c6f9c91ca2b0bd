/-
  Chapter 3: contracts of the first column, in the program and in its model.
-/
import Derived.Test.YtpniiaemgobaiaaIntLaw
import Derived.Test.YtpniiaemgobaiaaCols
import Derived.Test.YtpniiaemgobaiaaL2Pat
namespace Go.Proofs.Ytpniiaemgobaiaa
open Go.RowKit
set_option linter.unusedVariables false
set_option maxRecDepth 100000
def idI (i : Nat) : Int := i
def firstColL (s : ByteArray) (k : Int) : List Int := if patOk s k then tab idI (s.size + 1) else []
set_option maxHeartbeats 400000 in
theorem impl_firstColumn (s : ByteArray) (w : World) (hs : s.size ≤ 1048576) :
    Calls Try.prog 93 #[.string s] w fun e w' => ∃ a cap, e = .returned (.slice a (s.size + 1) cap) ∧ OwnN w' w.heap.size a (s.size + 1) cap (tab idI (s.size + 1)) ∧ Below w.heap.size w w' := by
  obtain ⟨i0, hi, hz0, hz1, hz2⟩ := info_parts int_info
  obtain ⟨n, hn⟩ : ∃ n, n = s.size + 1 := ⟨_, rfl⟩
  rw [← hn]
  have hn2 : (s.size : Int) + 1 = (n : Int) := by omega
  have hn3 : n ≤ 1048577 := by omega
  have HN := Lib.hid hn2; clear hn2 hn
  go_enter Try.func93, Try.ntmps93
  go_wp2_with (at_make; refine wpList_make_full _ rfl _ _ 78 rfl w.heap.size 2 i0 (.int .i64 0) 1 Try.underlying78 hi hz0 hz1 _ _ _ _ n rfl rfl HN.out HN.out (by rw [hz2]; omega) (by unfold maxLen; omega) (Nat.le_refl _) ?_; intro w1 hown hg)
  have hB1 : Below w.heap.size w w1 := (Below.refl _ _).grown hg (Nat.le_refl _) (fun k hk => by cases hk)
  have hO := OwnN.made hown
  clear hown hg
  go_loopw [11] (fun i wr => ∃ (k : Nat) (M : List Int), k ≤ n ∧ i = .int .i64 k ∧ OwnN wr w.heap.size (some ⟨w.heap.size, 0, none⟩) n n M ∧ UpTo idI k M ∧ Below w.heap.size w wr)
    (fun i _ => n - (intOf i).toNat)
  case atStart => exact ⟨0, _, by omega, rfl, hO, UpTo.zero _ _, hB1⟩
  case round =>
    obtain ⟨k, M, hk, rfl, hown, hup, hb⟩ := hrel
    by_cases hlt : k < n
    · have hc := hown.cell k hlt
      have hf := hown.frozen k
      have hown2 := Lib.hid (hown.set k k)
      have hup2 := Lib.hid (hup.set (by rw [hown.len]; exact hlt))
      clear hown hup hO
      go_wp2
      go_roundw
      case rel => exact ⟨k + 1, M.set k k, by omega, by go_num, hown2.out, hup2.out, hb.setCell (Nat.le_refl _) _⟩
      case measure => simp [intOf]; omega
    · obtain rfl : k = n := by omega
      have HM := Lib.hid (hup.tab hown.len)
      go_wp2
      go_ret
      exact ⟨_, _, rfl, by rw [← HM.out]; exact hown, hb⟩
set_option maxHeartbeats 400000 in
theorem spec_l3First (s : ByteArray) (w : World) (hs : s.size ≤ 1048576) :
    Calls Try.prog 77 #[.string s] w fun e w' => ∃ a cap, e = .returned (.slice a (s.size + 1) cap) ∧ OwnN w' w.heap.size a (s.size + 1) cap (tab idI (s.size + 1)) ∧ Below w.heap.size w w' := by
  obtain ⟨i0, hi, hz0, hz1, hz2⟩ := info_parts int_info
  go_enter Try.func77, Try.ntmps77
  go_wp2
  go_loopw [3, 4] (fun v i wr => ∃ k : Nat, k ≤ s.size + 1 ∧ i = .int .i64 k ∧ wr.ownsRow w.heap.size 2 1 v k ((tab idI k).map (Value.int .i64)) ∧ Below w.heap.size w wr)
    (fun _ i _ => s.size + 1 - (intOf i).toNat)
  case atStart => exact ⟨0, by omega, rfl, World.ownsRow_made w #[] 0 (Nat.le_refl _) (by decide) rfl, (Below.refl _ _).alloc (Nat.le_refl _) _⟩
  case round =>
    obtain ⟨k, hk, rfl, hown, hb⟩ := hrel
    by_cases hlt : k ≤ s.size
    · go_wp2_with (at_builtin; refine wpList_append_own _ rfl _ _ 78 rfl w.heap.size 2 i0 (.int .i64 0) 1 8 Try.underlying78 hi hz0 hz1 hz2 rfl (by decide) _ _ _ rfl (hown.alloc _) ⟨wr.heap.size, 0, none⟩ 1 1 [.int .i64 k] rfl rfl (one_new _ _ _) (int_one _) (by unfold maxLen; omega) (by omega) (by have := hb.size; simp; omega) ?_; intro v' w1 hown' hg _)
      have hown2 := own_snoc (f := idI) hown'
      have hb' := (hb.alloc hb.size (.cells #[.int .i64 k] 2)).grown hg (by have := hb.size; simp; omega) (fun j hj => (hown.lt j hj).1)
      clear hown hb hg hown'
      go_roundw
      case rel => exact ⟨k + 1, by omega, by go_num, hown2, hb'⟩
      case measure => simp [intOf]; omega
    · obtain rfl : k = s.size + 1 := by omega
      obtain ⟨a, cap, rfl, hO⟩ := OwnN.shape hown
      go_wp2
      go_ret
      exact ⟨_, _, rfl, hO, hb⟩
theorem firstColL_len (s : ByteArray) (k : Int) (hs : s.size ≤ 1048576) : (firstColL s k).length ≤ 1048577 := by
  unfold firstColL; split
  · rw [tab_length]; omega
  · simp
end Go.Proofs.Ytpniiaemgobaiaa

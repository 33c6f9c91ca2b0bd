/-
  Chapter 1: what the drawers of chapter 1 hand over, whatever they read.
-/
import Derived.Test.YtgjngnignjbdlaaRd
import Derived.Test.YtgjngnignjbdlaaL1Folded
namespace Go.Proofs.Ytgjngnignjbdlaa
open Go.RowKit
set_option linter.unusedVariables false
theorem drawFoldOf (a : Option Addr) (len cap : Nat) (z : List Int) (w : World) (hr : IsRow .u8 w a len cap z) (hl : len ≤ 1048576) :
    Calls Try.prog 9 #[.slice a len cap] w fun e w' => ∃ m : Int, e = .returned (.int .i64 m) ∧ (-9223372036854775808 ≤ m ∧ m ≤ 9223372036854775807) ∧ Below w.heap.size w w' := by
  go_enter Try.func9, Try.ntmps9
  go_wp2_with fail
  refine (l1Open_any _ _ _ _ _ hr hl).mono ?_
  rintro e w1 ⟨rfl, hok, hb⟩
  go_wp2_with fail
  refine (rd_once _ _ _ _ _ _ hok _ (by omega) (by omega)).mono ?_
  rintro e w2 ⟨m, rfl, hok2, hg2⟩
  cases m
  · go_wp2_with fail
    refine (rd_below _ _ _ _ _ _ hok2 _).mono ?_
    rintro e w3 ⟨m, rfl, ⟨hm0, _, _, hm1⟩, hok3, hg3⟩
    go_wp2_with fail
    go_ret
    exact ⟨_, rfl, by omega, below_rd hb (grownBy_trans hg2 hg3)⟩
  · go_wp2_with fail
    refine (rd_off _ _ _ _ _ _ hok2 _ _ (by omega) (by omega) (by omega) (by omega)).mono ?_
    rintro e w3 ⟨m, rfl, hm, hok3, hg3⟩
    go_wp2_with fail
    go_ret
    exact ⟨_, rfl, hm, below_rd hb (grownBy_trans hg2 hg3)⟩
theorem drawFolded (a : Option Addr) (len cap : Nat) (z : List Int) (w : World) (hr : IsRow .u8 w a len cap z) (hl : len ≤ 1048576) :
    Calls Try.prog 11 #[.slice a len cap] w fun e w' => ∃ s : ByteArray, e = .returned (.string s) ∧ s.size ≤ 14 ∧ Below w.heap.size w w' := by
  go_enter Try.func11, Try.ntmps11
  go_wp2_with fail
  refine (l1Open_any _ _ _ _ _ hr hl).mono ?_
  rintro e w1 ⟨rfl, hok, hb⟩
  go_wp2_with fail
  refine (rd_term _ _ _ _ _ _ hok 9 (by omega)).mono ?_
  rintro e w2 ⟨s, rfl, hs, hok2, hg2⟩
  go_wp2_with fail
  refine (rd_below _ _ _ _ _ _ (hok2.alloc _) _).mono ?_
  rintro e w3 ⟨m, rfl, ⟨hm0, _, hm2, hm1⟩, hok3, hg3⟩
  have hm3 : m < 2 := hm2 (by omega)
  clear hm2
  obtain ⟨j, rfl⟩ := Int.eq_ofNat_of_zero_le hm0
  obtain ⟨v, hv, y, rfl, hy⟩ := pick_any (k := j) (p := fun v => ∃ y : ByteArray, v = .string y ∧ y.size ≤ 4) hg3 hok2.lt (by simp; omega) (by
      intro v hv
      simp only [List.mem_cons, List.not_mem_nil, or_false] at hv
      rcases hv with rfl | rfl
      · exact ⟨_, rfl, by decide⟩
      · exact ⟨_, rfl, by decide⟩)
  go_wp2_with fail
  go_ret
  exact ⟨_, rfl, by rw [ByteArray.size_append]; omega, below_rd hb (grownBy_trans (grownBy_alloc hg2 _) hg3)⟩
theorem drawAlike (a : Option Addr) (len cap : Nat) (z : List Int) (w : World) (hr : IsRow .u8 w a len cap z) (hl : len ≤ 1048576) :
    Calls Try.prog 15 #[.slice a len cap] w fun e w' => ∃ (s t : ByteArray) (f : Bool), e = .returned (.tuple #[.string s, .string t, .bool f]) ∧ s.size ≤ 14 ∧ t.size ≤ 14 ∧ Below w.heap.size w w' := by
  go_enter Try.func15, Try.ntmps15
  go_wp2_with fail
  refine (l1Open_any _ _ _ _ _ hr hl).mono ?_
  rintro e w1 ⟨rfl, hok, hb⟩
  go_wp2_with fail
  refine (rd_term _ _ _ _ _ _ hok 6 (by omega)).mono ?_
  rintro e w2 ⟨s, rfl, hs, hok2, hg2⟩
  go_wp2_with fail
  refine (rd_once _ _ _ _ _ _ hok2 _ (by omega) (by omega)).mono ?_
  rintro e w3 ⟨f, rfl, hok3, hg3⟩
  go_wp2_with fail
  refine (rd_once _ _ _ _ _ _ hok3 _ (by omega) (by omega)).mono ?_
  rintro e w4 ⟨m, rfl, hok4, hg4⟩
  have hg := grownBy_trans hg2 (grownBy_trans hg3 hg4)
  cases m
  · go_wp2_with fail
    refine (rd_nearly _ _ _ _ _ _ hok4 s (by omega)).mono ?_
    rintro e w5 ⟨t, rfl, ht, hok5, hg5⟩
    go_wp2_with fail
    go_ret3
    exact ⟨_, _, _, rfl, by omega, by omega, below_rd hb (grownBy_trans hg hg5)⟩
  · go_wp2_with fail
    refine (spec_folded s _ (by omega)).mono ?_
    rintro e w5 ⟨rfl, hb5⟩
    have hfs := foldS_size s
    go_wp2_with fail
    go_ret3
    exact ⟨_, _, _, rfl, by omega, by omega, (below_rd hb hg).trans (hb5.mono (below_rd hb hg).size)⟩
theorem drawMaskOf (a : Option Addr) (len cap : Nat) (z : List Int) (w : World) (hr : IsRow .u8 w a len cap z) (hl : len ≤ 1048576) :
    Calls Try.prog 18 #[.slice a len cap] w fun e w' => ∃ (s : ByteArray) (f : Bool) (b : Int), e = .returned (.tuple #[.string s, .bool f, .int .i64 b]) ∧ s.size ≤ 14 ∧ (-9223372036854775808 ≤ b ∧ b ≤ 9223372036854775807) ∧ Below w.heap.size w w' := by
  go_enter Try.func18, Try.ntmps18
  go_wp2_with fail
  refine (l1Open_any _ _ _ _ _ hr hl).mono ?_
  rintro e w1 ⟨rfl, hok, hb⟩
  go_wp2_with fail
  refine (rd_term _ _ _ _ _ _ hok 9 (by omega)).mono ?_
  rintro e w2 ⟨s, rfl, hs, hok2, hg2⟩
  go_wp2_with fail
  refine (rd_once _ _ _ _ _ _ hok2 _ (by omega) (by omega)).mono ?_
  rintro e w3 ⟨f, rfl, hok3, hg3⟩
  go_wp2_with fail
  refine (rd_any _ _ _ _ _ _ hok3).mono ?_
  rintro e w4 ⟨b, rfl, hbb, hok4, hg4⟩
  go_wp2_with fail
  go_ret3
  exact ⟨_, _, _, rfl, by omega, hbb, below_rd hb (grownBy_trans hg2 (grownBy_trans hg3 hg4))⟩
end Go.Proofs.Ytgjngnignjbdlaa

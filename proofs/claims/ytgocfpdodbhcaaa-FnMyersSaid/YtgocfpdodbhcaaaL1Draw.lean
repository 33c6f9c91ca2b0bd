/-
  Chapter 1: what the drawers of chapter 1 hand over, whatever they read.
-/
import Derived.Test.YtgocfpdodbhcaaaRd
import Derived.Test.YtgocfpdodbhcaaaL1Folded
namespace Go.Proofs.Ytgocfpdodbhcaaa
open Go.RowKit
set_option linter.unusedVariables false
set_option maxRecDepth 100000
theorem drawFolded (a : Option Addr) (len cap : Nat) (z : List Int) (w : World) (hr : IsRow .u8 w a len cap z) (hl : len ≤ 1048576) :
    Calls Try.prog 23 #[.slice a len cap] w fun e w' => ∃ s : ByteArray, e = .returned (.string s) ∧ s.size ≤ 14 ∧ Below w.heap.size w w' := by
  go_enter Try.func23, Try.ntmps23
  go_wp2_with fail
  refine (l1Open_any _ _ _ _ _ hr hl).mono ?_
  rintro e w1 ⟨rfl, hok, hb⟩
  go_wp2_with fail
  refine (rd_term _ _ _ _ _ _ hok 9 (by omega)).mono ?_
  rintro e w2 ⟨s, rfl, hs, hok2, hg2⟩
  go_wp2_with fail
  refine (rd_below _ _ _ _ _ _ (hok2.alloc _) _).mono ?_
  rintro e w3 ⟨m, rfl, ⟨hm0, _, hm2, hm1⟩, hok3, hg3⟩
  have hm3 : m < 2 := hm2 (by omega)
  clear hm2
  obtain ⟨j, rfl⟩ := Int.eq_ofNat_of_zero_le hm0
  obtain ⟨v, hv, y, rfl, hy⟩ := pick_any (k := j) (p := fun v => ∃ y : ByteArray, v = .string y ∧ y.size ≤ 4) hg3 hok2.lt (by simp; omega) (by
      intro v hv
      simp only [List.mem_cons, List.not_mem_nil, or_false] at hv
      rcases hv with rfl | rfl
      · exact ⟨_, rfl, by decide⟩
      · exact ⟨_, rfl, by decide⟩)
  go_wp2_with fail
  go_ret
  exact ⟨_, rfl, by rw [ByteArray.size_append]; omega, below_rd hb (grownBy_trans (grownBy_alloc hg2 _) hg3)⟩
end Go.Proofs.Ytgocfpdodbhcaaa

/-
  Chapter 1: contracts of FoldOf, in the program and in its model.
-/
import Derived.Test.YtglldmfhjipacaaL1Table
namespace Go.Proofs.Ytglldmfhjipacaa
open Go.RowKit
set_option linter.unusedVariables false
set_option maxRecDepth 100000
set_option maxRecDepth 100000 in
theorem impl_foldOf (n : Int) (w : World) :
    Calls Try.prog 107 #[.int .i64 n] w fun e w' => e = .returned (.int .i64 (foldOfI n)) ∧ Below w.heap.size w w' := by
  by_cases h0 : 0 ≤ n
  · by_cases h1 : n ≤ 255
    · obtain ⟨k, rfl⟩ := Int.eq_ofNat_of_zero_le h0
      have hk : k < 256 := by omega
      have hf : foldOfI (k : Int) = foldI (k : Int) := by unfold foldOfI; rw [if_pos ⟨h0, h1⟩]
      have H := Lib.hid hf; clear hf
      have hr := foldI_byte k (by omega) (by omega)
      have hz := fold_zero
      have hat := foldTab_at k hk
      have hs : (Try.prog.info? 138).map (·.size) = some foldTab.size := by rw [foldTab_size]; exact fold_info
      have HS := Lib.hid hs; clear hs
      go_enter Try.func107, Try.ntmps107
      go_wp2_with (first | (go_at_call 124; refine (fold_table_any _).mono ?_; rintro e w1 ⟨rfl, hb⟩) | ((with_reducible show wpList _ _ _ (⟨_, Op.store 138 _ _, _, _, _, _⟩ :: _) _ _); refine wpList_store_new_row rfl 138 _ _ rfl foldTab rfl rfl 138 zeros256 HS.out (by rw [foldTab_size]; rfl) foldTab_one ?_) | go_in)
      go_ret
      exact ⟨by rw [H.out]; rfl, hb.alloc hb.size _⟩
    · have hf : foldOfI n = -1 := by unfold foldOfI; rw [if_neg (by omega)]
      have H := Lib.hid hf; clear hf
      go_enter Try.func107, Try.ntmps107
      go_wp2
      go_ret
      exact ⟨by rw [H.out]; rfl, Below.refl _ _⟩
  · have hf : foldOfI n = -1 := by unfold foldOfI; rw [if_neg (by omega)]
    have H := Lib.hid hf; clear hf
    go_enter Try.func107, Try.ntmps107
    go_wp2
    go_ret
    exact ⟨by rw [H.out]; rfl, Below.refl _ _⟩
end Go.Proofs.Ytglldmfhjipacaa

/-
  Chapter 1: the table of folds that the program builds for each call.
-/
import Derived.Test.YtpniiaemgobaiaaPlain
import Derived.Laws.CopyOwn
namespace Go.Proofs.Ytpniiaemgobaiaa
open Go.RowKit
set_option linter.unusedVariables false
set_option maxRecDepth 100000
theorem fold_zero (w : World) : (zeroValue 106).run Try.prog w = .ok (.agg zeros256) w := by kernel_rfl
theorem fold_info : (Try.prog.info? 106).map (·.size) = some 256 := by kernel_rfl
set_option maxHeartbeats 400000 in
set_option maxRecDepth 100000 in
theorem fold_table_any (w : World) :
    Calls Try.prog 80 #[] w fun e w' => e = .returned (.agg foldTab) ∧ Below w.heap.size w w' := by
  have hz := fold_zero
  go_enter Try.func80, Try.ntmps80
  go_wp2
  go_loopw [4] (fun i wr => ∃ k : Nat, k ≤ 256 ∧ i = .int .i64 k ∧ wr.heap[w.heap.size]? = some (.cells zeros256 106 (0, 0)) ∧ wr.heap[w.heap.size + 1]? = some (.cells (tab1 k) 106 (0, 0)) ∧ Below w.heap.size w wr)
    (fun i _ => 256 - (intOf i).toNat)
  case atStart =>
    refine ⟨0, by omega, rfl, heap_alloc2_old _ _ _, heap_alloc2_new _ _ _, ((Below.refl _ _).alloc (Nat.le_refl _) _).alloc (by simp) _⟩
  case round =>
    obtain ⟨k, hk, rfl, h0, h1, hb⟩ := hrel
    by_cases hlt : k < 256
    · have hc : wr.cell? ⟨w.heap.size + 1, k, none⟩ = some (.int .u8 0) := by
        rw [cell_of_row wr _ k _ _ _ h1, tab1_at k k hlt, if_neg (by omega)]
      have hf := frozen_of_row wr _ k _ _ h1
      go_wp2
      go_roundw
      case rel => exact ⟨k + 1, by omega, by go_num, by rw [heap_setCell_other _ _ _ _ (by simp)]; exact h0, by rw [heap_setCell_same _ _ _ _ _ _ h1]; rfl, hb.setCell (by simp) _⟩
      case measure => simp [intOf]; omega
    · obtain rfl : k = 256 := by omega
      go_wp2
      clear hk hlt
      go_loopw [3] (fun i wr => ∃ k : Nat, k ≤ 26 ∧ i = .int .i32 (65 + k : Nat) ∧ wr.heap[w.heap.size]? = some (.cells zeros256 106 (0, 0)) ∧ wr.heap[w.heap.size + 1]? = some (.cells (tab2 k) 106 (0, 0)) ∧ Below w.heap.size w wr)
        (fun i _ => 91 - (intOf i).toNat)
      case atStart => exact ⟨0, by omega, rfl, h0, h1, hb⟩
      case round =>
        clear h0 h1 hb
        obtain ⟨k, hk, rfl, h0, h1, hb⟩ := hrel
        by_cases hlt : k < 26
        · have hc : wr.cell? ⟨w.heap.size + 1, 65 + k, none⟩ = some (.int .u8 (65 + k : Nat)) := by
            rw [cell_of_row wr _ _ _ _ _ h1, tab2_at k _ (by omega), if_neg (by omega)]
          have hf := frozen_of_row wr _ (65 + k) _ _ h1
          go_wp2
          go_roundw
          case rel => exact ⟨k + 1, by omega, by go_num, by rw [heap_setCell_other _ _ _ _ (by simp)]; exact h0, by rw [heap_setCell_same _ _ _ _ _ _ h1]; rfl, hb.setCell (by simp) _⟩
          case measure => simp [intOf]; omega
        · obtain rfl : k = 26 := by omega
          have h1' : wr.heap[w.heap.size + 1]? = some (.cells foldTab 106 (0, 0)) := h1
          clear h1
          clear hz
          have hs : (Try.prog.info? 106).map (·.size) = some foldTab.size := by rw [foldTab_size]; exact fold_info
          go_wp2_with (first
            | (refine wpList_load_row rfl 106 _ rfl (w.heap.size + 1) rfl 106 foldTab (0, 0) _ h1' Try.underlying106 rfl hs ?_)
            | (refine wpList_store_row rfl 106 _ _ rfl w.heap.size foldTab rfl rfl 106 zeros256 h0 hs (by rw [foldTab_size]; rfl) foldTab_one ?_))
          refine bodyPost_ret (results_cell_row rfl _ _ w.heap.size 106 foldTab (0, 0) _ rfl (setRow_heap _ _ _ _ _ _ h0) Try.underlying106 rfl hs) rfl ⟨rfl, below_setRow hb (Nat.le_refl _) _⟩
end Go.Proofs.Ytpniiaemgobaiaa

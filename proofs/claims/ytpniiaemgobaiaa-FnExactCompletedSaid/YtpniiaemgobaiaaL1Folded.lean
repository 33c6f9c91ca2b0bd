/-
  Chapter 1: contracts of Folded, in the program and in its model.
-/
import Derived.Test.YtpniiaemgobaiaaL1Fold
import Derived.Test.YtpniiaemgobaiaaBytes
import Derived.Outline
namespace Go.Proofs.Ytpniiaemgobaiaa
open Go.RowKit
set_option linter.unusedVariables false
set_option maxRecDepth 100000

theorem spec_l1Fold (n : Int) (w : World) (h0 : 0 ≤ n) (h1 : n ≤ 255) :
    Calls Try.prog 79 #[.int .i64 n] w fun e w' => e = .returned (.int .i64 (foldI n)) ∧ w = w' := by
  by_cases h2 : 65 ≤ n
  · by_cases h3 : n ≤ 90
    · have H := Lib.hid (show foldI n = n + 32 by unfold foldI; rw [if_pos ⟨h2, h3⟩])
      go_enter Try.func79, Try.ntmps79
      go_wp2
      go_ret
      exact ⟨by rw [H.out]; rfl, rfl⟩
    · have H := Lib.hid (show foldI n = n by unfold foldI; rw [if_neg (by omega)])
      go_enter Try.func79, Try.ntmps79
      go_wp2
      go_ret
      exact ⟨by rw [H.out]; rfl, rfl⟩
  · have H := Lib.hid (show foldI n = n by unfold foldI; rw [if_neg (by omega)])
    go_enter Try.func79, Try.ntmps79
    go_wp2
    go_ret
    exact ⟨by rw [H.out]; rfl, rfl⟩

set_option maxHeartbeats 400000 in
set_option maxRecDepth 100000 in
theorem impl_folded (s : ByteArray) (w : World) (hs : s.size ≤ 140737488351232) :
    Calls Try.prog 56 #[.string s] w fun e w' => e = .returned (.string (foldS s)) ∧ Below w.heap.size w w' := by
  have hz := fold_zero
  have HI : Hid ((Try.prog.info? 106).map (·.size) = some foldTab.size) := by show _ = _; rw [foldTab_size]; exact fold_info
  have hcv := fun (w : World) => run_bytes_of_string (P := Try.prog) w 9 60 5 s Try.underlying9 Try.underlying60 Try.underlying5
  go_enter Try.func56, Try.ntmps56
  go_wp2_with (first | (go_at_call 80; refine (fold_table_any _).mono ?_; rintro e w1 ⟨rfl, hb⟩) | ((with_reducible show wpList _ _ _ (⟨_, Op.store 106 _ _, _, _, _, _⟩ :: _) _ _); refine wpList_store_new_row rfl 106 _ _ rfl foldTab rfl rfl 106 zeros256 HI.out (by rw [foldTab_size]; rfl) foldTab_one ?_))
  have hge := grownCap_ge (w1.alloc (.cells foldTab 106)) s.size 0 5
  generalize grownCap (w1.alloc (.cells foldTab 106)) s.size 0 5 = cap at hge ⊢
  have HR : Hid ((bytesRow s cap).size = cap) := bytesRow_size s cap hge
  clear hz hcv
  go_loopw [12] (fun i wr => ∃ k : Nat, k ≤ s.size ∧ i = .int .i64 k ∧ wr.heap[w1.heap.size]? = some (.cells foldTab 106 (0, 0)) ∧ wr.heap[w1.heap.size + 1]? = some (.cells (frow s cap k) 5 (cap, cap + 1)) ∧ Below w.heap.size w wr)
    (fun i _ => s.size - (intOf i).toNat)
  case atStart =>
    refine ⟨0, by omega, rfl, heap_alloc2_old _ _ _, ?_, (((hb.alloc hb.size _).alloc (by have := hb.size; simp; omega) _).drew)⟩
    refine (heap_alloc2_new _ _ _).trans ?_
    rw [HR.out]; rfl
  case round =>
    obtain ⟨k, hk, rfl, h0, h1, hbr⟩ := hrel
    have hwb := hb.size
    by_cases hlt : k < s.size
    · obtain ⟨c, hc⟩ : ∃ c : UInt8, s.data.toList.getD k 0 = c := ⟨_, rfl⟩
      have hcl := c.toNat_lt
      have hr := foldI_byte c.toNat (by omega) (by omega)
      have hcell : wr.cell? ⟨w1.heap.size + 1, k, none⟩ = some (.int .u8 c.toNat) := by
        rw [cell_of_row wr _ k _ _ _ h1, frow_at s cap k k hlt, if_neg (by omega), hc]
      have htab : wr.cell? ⟨w1.heap.size, c.toNat, none⟩ = some (.int .u8 (foldI c.toNat)) := by
        rw [cell_of_row wr _ _ _ _ _ h0, foldTab_at _ (by omega)]
      have hf := frozen_of_mark (j := k) h1 (by omega)
      have HC := Lib.hid hc; clear hc
      go_wp2
      go_roundw
      case rel => exact ⟨k + 1, by omega, by go_num, by rw [heap_setCell_other _ _ _ _ (by simp)]; exact h0, by rw [heap_setCell_mark _ _ _ _ _ _ _ h1, ← HC.out]; rfl, hbr.setCell (by show _ ≤ w1.heap.size + 1; omega) _⟩
      case measure => simp [intOf]; omega
    · obtain rfl : k = s.size := by omega
      have hcv := run_convert_bytes_back (P := Try.prog) wr 60 9 5 ⟨w1.heap.size + 1, 0, none⟩ cap (foldL s.data.toList) Try.underlying60 Try.underlying5 Try.underlying9 (fun j hj => by
        have hj' : j < s.size := by simpa [foldL] using hj
        rw [addr_add0, cell_of_row wr _ j _ _ _ h1, frow_at s cap _ j hj', if_pos hj']
        have e : (foldL s.data.toList)[j] = foldB (s.data.toList.getD j 0) := by
          have hl : j < s.data.toList.length := by rw [Array.length_toList]; exact hj'
          rw [List.getD_eq_getElem?_getD, List.getElem?_eq_getElem hl]; simp [foldL]
        rw [e, foldB_toNat])
      have el : (foldL s.data.toList).length = s.size := by simp [foldL]
      rw [el] at hcv
      go_wp2
      go_ret
      exact ⟨rfl, hbr⟩

end Go.Proofs.Ytpniiaemgobaiaa

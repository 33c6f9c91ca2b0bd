/-
  Chapter 1: contracts of Folded, in the program and in its model.
-/
import Derived.Test.YtnmjcoppbkjogabL1Fold
import Derived.Test.YtnmjcoppbkjogabBytes
import Derived.Outline
namespace Go.Proofs.Ytnmjcoppbkjogab
open Go.RowKit
set_option linter.unusedVariables false
set_option maxRecDepth 100000

theorem spec_l1Fold (n : Int) (w : World) (h0 : 0 ≤ n) (h1 : n ≤ 255) :
    Calls Try.prog 105 #[.int .i64 n] w fun e w' => e = .returned (.int .i64 (foldI n)) ∧ w = w' := by
  by_cases h2 : 65 ≤ n
  · by_cases h3 : n ≤ 90
    · have H := Lib.hid (show foldI n = n + 32 by unfold foldI; rw [if_pos ⟨h2, h3⟩])
      go_enter Try.func105, Try.ntmps105
      go_wp2
      go_ret
      exact ⟨by rw [H.out]; rfl, rfl⟩
    · have H := Lib.hid (show foldI n = n by unfold foldI; rw [if_neg (by omega)])
      go_enter Try.func105, Try.ntmps105
      go_wp2
      go_ret
      exact ⟨by rw [H.out]; rfl, rfl⟩
  · have H := Lib.hid (show foldI n = n by unfold foldI; rw [if_neg (by omega)])
    go_enter Try.func105, Try.ntmps105
    go_wp2
    go_ret
    exact ⟨by rw [H.out]; rfl, rfl⟩

set_option maxHeartbeats 400000 in
theorem spec_folded (s : ByteArray) (w : World) (hs : s.size ≤ 140737488351232) :
    Calls Try.prog 104 #[.string s] w fun e w' => e = .returned (.string (foldS s)) ∧ Below w.heap.size w w' := by
  obtain ⟨i0, hi, hz0, hz1, hz2⟩ := info_parts byte_info
  go_enter Try.func104, Try.ntmps104
  go_wp2
  go_loopw [3, 4] (fun v i wr => ∃ k : Nat, k ≤ s.size ∧ i = .int .i64 k ∧ wr.ownsRow w.heap.size 5 1 v k ((foldL (s.data.toList.take k)).map byteVal) ∧ Below w.heap.size w wr)
    (fun _ i _ => s.size - (intOf i).toNat)
  case atStart => exact ⟨0, by omega, rfl, World.ownsRow_made w #[] 0 (Nat.le_refl _) (by decide) rfl, (Below.refl _ _).alloc (Nat.le_refl _) _⟩
  case round =>
    obtain ⟨k, hk, rfl, hown, hb⟩ := hrel
    by_cases hlt : k < s.size
    · have hr := foldI_byte (s[k].toNat) (by omega) (by have := s[k].toNat_lt; omega)
      have hc := s[k].toNat_lt
      have hsn := take_snoc s k hlt
      have HS : Hid ((foldL (s.data.toList.take (k + 1))).map byteVal = (foldL (s.data.toList.take k)).map byteVal ++ [.int .u8 (foldI (s[k].toNat))]) := by
        show _ = _
        rw [hsn, foldL, List.map_append, List.map_append, ← foldL]
        simp [byteVal, foldB_toNat]
      clear hsn
      go_wp2_with (first
        | (go_at_call 105; refine (spec_l1Fold _ _ (by omega) (by omega)).mono ?_; rintro e w' ⟨rfl, rfl⟩)
        | (at_builtin; refine wpList_append_own _ rfl _ _ 41 rfl w.heap.size 5 i0 (.int .u8 0) 1 1 Try.underlying41 hi hz0 hz1 hz2 rfl (by decide) _ _ _ rfl (hown.alloc _) ⟨wr.heap.size, 0, none⟩ 1 1 [.int .u8 (foldI (s[k].toNat))] rfl rfl (one_new _ _ _) (one_byte _) (by unfold maxLen; omega) (by omega) (by have := hb.size; simp; omega) ?_; intro v' w1 hown' hg _))
      rw [← HS.out] at hown'
      have hb' := (hb.alloc hb.size (.cells #[.int .u8 (foldI (s[k].toNat))] 5)).grown hg (by have := hb.size; simp; omega) (fun j hj => (hown.lt j hj).1)
      clear hown hb hg
      go_roundw
      case rel => exact ⟨k + 1, by omega, by go_num, hown', hb'⟩
      case measure => simp [intOf]; omega
    · obtain rfl : k = s.size := by omega
      have hcv := run_owned_string (P := Try.prog) (w := wr) (src := 41) (dst := 9) (e := 5) Try.underlying41 Try.underlying5 Try.underlying9 _ hown
      go_wp2
      go_ret
      exact ⟨by rw [List.take_of_length_le (by simp)]; rfl, hb⟩

set_option maxHeartbeats 400000 in
set_option maxRecDepth 100000 in
theorem impl_folded (s : ByteArray) (w : World) (hs : s.size ≤ 140737488351232) :
    Calls Try.prog 48 #[.string s] w fun e w' => e = .returned (.string (foldS s)) ∧ Below w.heap.size w w' := by
  have hz := fold_zero
  have HI : Hid ((Try.prog.info? 105).map (·.size) = some foldTab.size) := by show _ = _; rw [foldTab_size]; exact fold_info
  have hcv := fun (w : World) => run_bytes_of_string (P := Try.prog) w 9 41 5 s Try.underlying9 Try.underlying41 Try.underlying5
  go_enter Try.func48, Try.ntmps48
  go_wp2_with (first | (go_at_call 86; refine (fold_table_any _).mono ?_; rintro e w1 ⟨rfl, hb⟩) | ((with_reducible show wpList _ _ _ (⟨_, Op.store 105 _ _, _, _, _, _⟩ :: _) _ _); refine wpList_store_new_row rfl 105 _ _ rfl foldTab rfl rfl 105 zeros256 HI.out (by rw [foldTab_size]; rfl) foldTab_one ?_))
  have hge := grownCap_ge (w1.alloc (.cells foldTab 105)) s.size 0 5
  generalize grownCap (w1.alloc (.cells foldTab 105)) s.size 0 5 = cap at hge ⊢
  have HR : Hid ((bytesRow s cap).size = cap) := bytesRow_size s cap hge
  clear hz hcv
  go_loopw [12] (fun i wr => ∃ k : Nat, k ≤ s.size ∧ i = .int .i64 k ∧ wr.heap[w1.heap.size]? = some (.cells foldTab 105 (0, 0)) ∧ wr.heap[w1.heap.size + 1]? = some (.cells (frow s cap k) 5 (cap, cap + 1)) ∧ Below w.heap.size w wr)
    (fun i _ => s.size - (intOf i).toNat)
  case atStart =>
    refine ⟨0, by omega, rfl, heap_alloc2_old _ _ _, ?_, (((hb.alloc hb.size _).alloc (by have := hb.size; simp; omega) _).drew)⟩
    refine (heap_alloc2_new _ _ _).trans ?_
    rw [HR.out]; rfl
  case round =>
    obtain ⟨k, hk, rfl, h0, h1, hbr⟩ := hrel
    have hwb := hb.size
    by_cases hlt : k < s.size
    · obtain ⟨c, hc⟩ : ∃ c : UInt8, s.data.toList.getD k 0 = c := ⟨_, rfl⟩
      have hcl := c.toNat_lt
      have hr := foldI_byte c.toNat (by omega) (by omega)
      have hcell : wr.cell? ⟨w1.heap.size + 1, k, none⟩ = some (.int .u8 c.toNat) := by
        rw [cell_of_row wr _ k _ _ _ h1, frow_at s cap k k hlt, if_neg (by omega), hc]
      have htab : wr.cell? ⟨w1.heap.size, c.toNat, none⟩ = some (.int .u8 (foldI c.toNat)) := by
        rw [cell_of_row wr _ _ _ _ _ h0, foldTab_at _ (by omega)]
      have hf := frozen_of_mark (j := k) h1 (by omega)
      have HC := Lib.hid hc; clear hc
      go_wp2
      go_roundw
      case rel => exact ⟨k + 1, by omega, by go_num, by rw [heap_setCell_other _ _ _ _ (by simp)]; exact h0, by rw [heap_setCell_mark _ _ _ _ _ _ _ h1, ← HC.out]; rfl, hbr.setCell (by show _ ≤ w1.heap.size + 1; omega) _⟩
      case measure => simp [intOf]; omega
    · obtain rfl : k = s.size := by omega
      have hcv := run_convert_bytes_back (P := Try.prog) wr 41 9 5 ⟨w1.heap.size + 1, 0, none⟩ cap (foldL s.data.toList) Try.underlying41 Try.underlying5 Try.underlying9 (fun j hj => by
        have hj' : j < s.size := by simpa [foldL] using hj
        rw [addr_add0, cell_of_row wr _ j _ _ _ h1, frow_at s cap _ j hj', if_pos hj']
        have e : (foldL s.data.toList)[j] = foldB (s.data.toList.getD j 0) := by
          have hl : j < s.data.toList.length := by rw [Array.length_toList]; exact hj'
          rw [List.getD_eq_getElem?_getD, List.getElem?_eq_getElem hl]; simp [foldL]
        rw [e, foldB_toNat])
      have el : (foldL s.data.toList).length = s.size := by simp [foldL]
      rw [el] at hcv
      go_wp2
      go_ret
      exact ⟨rfl, hbr⟩

end Go.Proofs.Ytnmjcoppbkjogab

/-
  Chapter 4: the model's column of the bits.
-/
import Derived.Test.YtgocfpdodbhcaaaL4Ok
namespace Go.Proofs.Ytgocfpdodbhcaaa
open Go.RowKit
set_option linter.unusedVariables false
set_option maxRecDepth 100000
set_option maxHeartbeats 4000000 in
theorem spec_l4Col (s : ByteArray) (k : Int) (f : Bool) (u d t : Int) (w : World) (hs : s.size ≤ 20) (hu : 0 ≤ u ∧ u ≤ 1048576) (hd : 0 ≤ d ∧ d ≤ 1048576) :
    Calls Try.prog 138 #[.agg #[.string s, .int .i64 k, .bool f], .agg #[.int .i64 u, .int .i64 d, .int .i64 t]] w fun e w' => ∃ a' cap', e = .returned (.slice a' (s.size + 1) cap') ∧ OwnN w' w.heap.size a' (s.size + 1) cap' (tab (colF u d) (s.size + 1)) ∧ Below w.heap.size w w' := by
  obtain ⟨i0, hi, ht0, ht1, ht2⟩ := info_parts int_info
  obtain ⟨hu0, hu1⟩ := hu
  obtain ⟨hd0, hd1⟩ := hd
  go_enter Try.func138, Try.ntmps138
  go_wp2_with fail
  have bx0 : ((w.alloc (.cells #[(.string s : Value), .int .i64 k, .bool f] 31)).alloc (.cells #[(.int .i64 u : Value), .int .i64 d, .int .i64 t] 51)).cell? ⟨w.heap.size, 0, none⟩ = some ((.string s : Value)) := (by rw [cell_of_row _ _ 0 _ _ _ (heap_alloc2_old _ _ _)]; rfl)
  have bx1 : ((w.alloc (.cells #[(.string s : Value), .int .i64 k, .bool f] 31)).alloc (.cells #[(.int .i64 u : Value), .int .i64 d, .int .i64 t] 51)).cell? ⟨w.heap.size, 1, none⟩ = some (.int .i64 k) := (by rw [cell_of_row _ _ 1 _ _ _ (heap_alloc2_old _ _ _)]; rfl)
  have bx2 : ((w.alloc (.cells #[(.string s : Value), .int .i64 k, .bool f] 31)).alloc (.cells #[(.int .i64 u : Value), .int .i64 d, .int .i64 t] 51)).cell? ⟨w.heap.size, 2, none⟩ = some (.bool f) := (by rw [cell_of_row _ _ 2 _ _ _ (heap_alloc2_old _ _ _)]; rfl)
  have by0 : ((w.alloc (.cells #[(.string s : Value), .int .i64 k, .bool f] 31)).alloc (.cells #[(.int .i64 u : Value), .int .i64 d, .int .i64 t] 51)).cell? ⟨w.heap.size + 1, 0, none⟩ = some ((.int .i64 u : Value)) := (by rw [cell_of_row _ _ 0 _ _ _ (heap_alloc2_new _ _ _)]; rfl)
  have by1 : ((w.alloc (.cells #[(.string s : Value), .int .i64 k, .bool f] 31)).alloc (.cells #[(.int .i64 u : Value), .int .i64 d, .int .i64 t] 51)).cell? ⟨w.heap.size + 1, 1, none⟩ = some (.int .i64 d) := (by rw [cell_of_row _ _ 1 _ _ _ (heap_alloc2_new _ _ _)]; rfl)
  have by2 : ((w.alloc (.cells #[(.string s : Value), .int .i64 k, .bool f] 31)).alloc (.cells #[(.int .i64 u : Value), .int .i64 d, .int .i64 t] 51)).cell? ⟨w.heap.size + 1, 2, none⟩ = some (.int .i64 t) := (by rw [cell_of_row _ _ 2 _ _ _ (heap_alloc2_new _ _ _)]; rfl)
  have hbz : Below w.heap.size w ((w.alloc (.cells #[(.string s : Value), .int .i64 k, .bool f] 31)).alloc (.cells #[(.int .i64 u : Value), .int .i64 d, .int .i64 t] 51)) := ((Below.refl _ _).alloc (Nat.le_refl _) _).alloc (by simp) _
  have hzz : w.heap.size + 1 < ((w.alloc (.cells #[(.string s : Value), .int .i64 k, .bool f] 31)).alloc (.cells #[(.int .i64 u : Value), .int .i64 d, .int .i64 t] 51)).heap.size := (by simp)
  have hzeq := Lib.hid (show ((w.alloc (.cells #[(.string s : Value), .int .i64 k, .bool f] 31)).alloc (.cells #[(.int .i64 u : Value), .int .i64 d, .int .i64 t] 51)).heap.size = w.heap.size + 2 by simp)
  generalize ((w.alloc (.cells #[(.string s : Value), .int .i64 k, .bool f] 31)).alloc (.cells #[(.int .i64 u : Value), .int .i64 d, .int .i64 t] 51)) = wz at *
  have cx0 := cell_regrown bx0
  have cx1 := cell_regrown bx1
  have cx2 := cell_regrown bx2
  have cy0 := cell_regrown by0
  have cy1 := cell_regrown by1
  have cy2 := cell_regrown by2
  have hbase : w.heap.size + 1 < wz.heap.size := hzz
  go_wp2
  go_loopw [5, 6] (fun v i wr => ∃ (j g c : Nat), j ≤ s.size ∧ i = .int .i64 j ∧ v = .slice (some ⟨g, 0, none⟩) (j + 1) c ∧ OwnN wr wz.heap.size (some ⟨g, 0, none⟩) (j + 1) c (tab (colF u d) (j + 1)) ∧ Below wz.heap.size wz wr)
    (fun _ i _ => s.size - (intOf i).toNat)
  case atStart =>
    have e : w.heap.size + 1 + 1 = wz.heap.size := by have := hzeq.out; omega
    rw [e]
    refine ⟨0, wz.heap.size, 1, by omega, rfl, rfl, ⟨by simp [tab], ?_⟩, (Below.refl _ _).alloc (Nat.le_refl _) _⟩
    have := World.ownsRow_lit (base := wz.heap.size) (e := 2) (size := 1) wz #[.int .i64 0] 1 (Nat.le_refl _) (by decide) rfl
    simpa [tab, colF] using this
  case round =>
    obtain ⟨j, g, c, hj, rfl, rfl, hO, hb⟩ := hrel
    have n0 := (hb.cell (p := ⟨w.heap.size, 0, none⟩) (by show w.heap.size < _; omega)).trans bx0
    have n1 := (hb.cell (p := ⟨w.heap.size + 1, 0, none⟩) hbase).trans by0
    have n2 := (hb.cell (p := ⟨w.heap.size + 1, 1, none⟩) hbase).trans by1
    clear bx0 bx1 bx2 by0 by1 by2 cx0 cx1 cx2 cy0 cy1 cy2
    by_cases hlt : j < s.size
    · have d0 := hO.cell j (by omega)
      rw [intAt_tab _ _ _ (by omega)] at d0
      have hx := colF_bnd u d j
      have hbu := bitI_01 u j
      have hbd := bitI_01 d j
      have he : colF u d (j + 1) = colF u d j + (u / 2 ^ j) % 2 - (d / 2 ^ j) % 2 := rfl
      unfold bitI at hbu hbd
      have hud : 0 ≤ u / 2 ^ j := Int.ediv_nonneg hu0 (Int.pow_nonneg (by decide))
      have hdd : 0 ≤ d / 2 ^ j := Int.ediv_nonneg hd0 (Int.pow_nonneg (by decide))
      have HO := Lib.hid hO; have HE := Lib.hid he
      have j0 : (0 : Int) ≤ (j : Int) := by omega
      have j1 : (j : Int) < (j : Int) + 1 := by omega
      have j2 : j < j + 1 := by omega
      have hmx : j + 1 + 1 ≤ maxLen := by unfold maxLen; omega
      have hby : (j + 1 + 1) * 8 ≤ 140737488355328 := by omega
      have hba : ∀ o, wz.heap.size ≤ (wr.alloc o).drew.heap.size := fun o => by have := hb.size; simp; omega
      have e1 : IntKind.i64.wrap (colF u d j + (u / 2 ^ j) % 2) = colF u d j + (u / 2 ^ j) % 2 := by rw [IntKind.wrap_i64]; omega
      have e2 : IntKind.i64.wrap (colF u d j + (u / 2 ^ j) % 2 - (d / 2 ^ j) % 2) = colF u d j + (u / 2 ^ j) % 2 - (d / 2 ^ j) % 2 := by rw [IntKind.wrap_i64]; omega
      have ut : (u / 2 ^ j).tmod 2 = (u / 2 ^ j) % 2 := Int.tmod_eq_emod_of_nonneg hud
      have dt : (d / 2 ^ j).tmod 2 = (d / 2 ^ j) % 2 := Int.tmod_eq_emod_of_nonneg hdd
      have jw : IntKind.u64.wrap (j : Int) = (j : Int) := by simp [IntKind.wrap, IntKind.bits, IntKind.signed]; omega
      have jm : min j 64 = j := by omega
      have E1 := Lib.hid e1; have E2 := Lib.hid e2
      clear hO he e1 e2
      have e1 := E1.out; have e2 := E2.out
      go_wp2_with fail
      go_region_law ((refine step_append_lies _ rfl (.tmp 15) (.tmp 34) 32 rfl wz.heap.size 2 i0 (.int .i64 0) 1 8 Try.underlying32 hi ht0 ht1 ht2 rfl (by decide) (.slice (some ⟨g, 0, none⟩) (j + 1) c) _ _ (by simp [Act.eval]) (HO.out.2.alloc _).drew ⟨wr.heap.size, 0, none⟩ 1 1 [.int .i64 (colF u d j + (u / 2 ^ j) % 2 - (d / 2 ^ j) % 2)] (by simp [Act.eval]) rfl (fun j u h => cells_new wr _ _ j u h) (one_all rfl) (by decide) hmx hby (hba _) _ rfl ?_; intro g1 cap1 w1 hown' hg _ _))
      all_goals
        clear e1 e2 ut dt jw jm
        rw [show colF u d j + u / 2 ^ j % 2 - d / 2 ^ j % 2 = colF u d (j + 1) from HE.out.symm] at hown' hg
        have hO1 := Lib.hid (OwnN.snoc hown')
        have hB1 := (hb.alloc hb.size (.cells #[.int .i64 (colF u d (j + 1))] 2)).drew.grown hg (by have := hb.size; simp; omega) (fun q hq => (HO.out.2.lt q hq).1)
        clear hown' hg
        go_wp2
        go_roundw
        case rel => exact ⟨j + 1, g1, cap1, by omega, by go_num, rfl, hO1.out, hB1⟩
        case measure => simp [intOf]; omega
    · obtain rfl : j = s.size := by omega
      go_wp2
      go_ret
      exact ⟨_, _, rfl, hO.mono hbz.size, hbz.trans (hb.mono hbz.size)⟩
end Go.Proofs.Ytgocfpdodbhcaaa

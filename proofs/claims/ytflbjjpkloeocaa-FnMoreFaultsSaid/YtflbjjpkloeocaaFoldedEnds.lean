/-
  FnFoldedEnds: the walk.
-/
import Derived.Test.YtflbjjpkloeocaaL3EndsL
import Derived.Test.YtflbjjpkloeocaaL3Draw
import Derived.Deep.RegionHeld3
namespace Go.Proofs.Ytflbjjpkloeocaa
open Go.RowKit
set_option linter.unusedVariables false
set_option maxRecDepth 100000
set_option maxHeartbeats 1000000 in
theorem laws_sameEnds (L : List Int) (a1 a2 : Option Addr) (n cap1 cap2 : Nat) (w : World) (hn : L.length = n * 2) (h1 : Ints w a1 L) (h2 : Ints w a2 L) (hlen : n ≤ 1048577) :
    Calls Try.prog 34 #[.slice a1 n cap1, .slice a2 n cap2] w fun e w' => e = .returned (.bool true) ∧ Below w.heap.size w w' := by
  have e0 : ((n : Int) != (n : Int)) = false := by simp
  have HN := Lib.hid hn; clear hn
  go_enter Try.func34, Try.ntmps34
  go_wp2
  go_loopw [5] (fun i wr => ∃ k : Nat, k ≤ n ∧ i = .int .i64 k ∧ Below w.heap.size w wr)
    (fun i _ => n - (intOf i).toNat)
  case atStart => exact ⟨0, by omega, rfl, Below.refl _ _⟩
  case round =>
    obtain ⟨k, hk, rfl, hb⟩ := hrel
    by_cases hlt : k < n
    · have hp2 := pair_lt hlt
      obtain ⟨b1, off1, rfl, hp1⟩ := (h1.kept hb).at (k * 2) (by rw [HN.out]; omega)
      obtain ⟨b2, off2, rfl, hp2⟩ := (h2.kept hb).at (k * 2) (by rw [HN.out]; omega)
      have c1 := hp1 (k * 2) (by rw [HN.out]; omega)
      have c2 := hp2 (k * 2) (by rw [HN.out]; omega)
      have d1 := hp1 (k * 2 + 1) (by rw [HN.out]; omega)
      have d2 := hp2 (k * 2 + 1) (by rw [HN.out]; omega)
      rw [← Nat.add_assoc] at d1 d2
      generalize intAt L (k * 2) = x at c1 c2
      generalize intAt L (k * 2 + 1) = y at d1 d2
      clear h1 h2 hp1 hp2
      go_wp2_with fail
      go_quiet (fail)
      go_wp2
      go_roundw
      case rel => exact ⟨k + 1, by omega, by go_num, below_drewN hb _⟩
      case measure => simp [intOf]; omega
    · obtain rfl : k = n := by omega
      go_wp2
      go_ret
      exact ⟨rfl, hb⟩
theorem foldS_foldS (s : ByteArray) : foldS (foldS s) = foldS s := by
  unfold foldS
  simp only [foldL, List.map_map, ByteArray.mk.injEq]
  congr 1
  apply List.map_congr_left
  intro b _
  exact foldB_idem b
theorem patOk_fold (s : ByteArray) (K : Int) : patOk (foldS s) K = patOk s K := by unfold patOk; rw [foldS_size]
theorem ends_fold1 (s : ByteArray) (K : Int) (r : ByteArray) : endsL s K true (foldS r) = endsL s K true r := by
  unfold endsL; rw [foldS_size]
  have : lastD s (foldS r) true = lastD s r true := by funext k; unfold lastD foldIf; simp only [if_true]; rw [foldS_foldS]
  rw [this]
theorem ends_fold2 (s : ByteArray) (K : Int) (r : ByteArray) : endsL (foldS s) K false (foldS r) = endsL s K true r := by
  unfold endsL; rw [foldS_size, patOk_fold]
  have : lastD (foldS s) (foldS r) false = lastD s r true := by funext k; unfold lastD foldIf; simp only [if_true, Bool.false_eq_true, if_false]; rw [foldS_size]
  rw [this]
set_option maxHeartbeats 2000000 in
theorem law_FnFoldedEnds (a : Option Addr) (len cap : Nat) (z : List Int) (w : World) (hr : IsRow .u8 w a len cap z) :
    Calls Try.prog 9 #[.slice a len cap] w fun e w' => e = .returned (.bool true) ∧ Below w.heap.size w w' := by
  by_cases hl : len ≤ 1048576
  · have hbig : decide (1048576 < (len : Int)) = false := by simp; omega
    go_enter Try.func9, Try.ntmps9
    go_wp2_with (go_at_call 14; refine (laws_big _ _ _ _ (by omega)).mono ?_; rintro e w' ⟨rfl, rfl⟩)
    refine (drawEndsOf _ _ _ _ _ hr hl).mono ?_
    rintro e w1 ⟨s, k, f, t, rfl, hs, hk, ht, hb1⟩
    go_wp2_with fail
    have hn0 : (w1.alloc (.cells #[.string s, .int .i64 k, .bool true] 31)).cell? ⟨w1.heap.size, 0, none⟩ = some (.string s) := by go_simp
    have hn1 : (w1.alloc (.cells #[.string s, .int .i64 k, .bool true] 31)).cell? ⟨w1.heap.size, 1, none⟩ = some (.int .i64 k) := by go_simp
    have hn2 : (w1.alloc (.cells #[.string s, .int .i64 k, .bool true] 31)).cell? ⟨w1.heap.size, 2, none⟩ = some (.bool true) := by go_simp
    have HB := hb1.alloc hb1.size (.cells #[.string s, .int .i64 k, .bool true] 31)
    have hBl : w1.heap.size < (w1.alloc (.cells #[.string s, .int .i64 k, .bool true] 31)).heap.size := by simp
    generalize (w1.alloc (.cells #[.string s, .int .i64 k, .bool true] 31)) = V at *
    generalize w1.heap.size = B at *
    have e1 := Lib.hid (ends_fold1 s k t)
    have e2 := Lib.hid (ends_fold2 s k t)
    have hln := endsL_len s k true t
    have HFS := Lib.hid (foldS_size s); have HFT := Lib.hid (foldS_size t)
    have hs1 : s.size ≤ 1048576 := by omega
    have ht1 : t.size ≤ 1048576 := by omega
    have hs2 : (foldS s).size ≤ 1048576 := by rw [foldS_size]; omega
    have ht2 : (foldS t).size ≤ 1048576 := by rw [foldS_size]; omega
    clear hb1
    refine (impl_endsOf s k true t _ hs1 ht1).mono ?_
    rintro e w3 ⟨a3, n3, cap3, rfl, hL, hb3⟩
    have hn0 := (hb3.cell (p := ⟨B, 0, none⟩) (by show B < _; omega)).trans hn0
    have hn1 := (hb3.cell (p := ⟨B, 1, none⟩) (by show B < _; omega)).trans hn1
    have hn2 := (hb3.cell (p := ⟨B, 2, none⟩) (by show B < _; omega)).trans hn2
    have HB := HB.trans (hb3.mono HB.size)
    have hBl : B < w3.heap.size := by have := hb3.size; omega
    have hn : n3 ≤ 201 := by have := hL.len; omega
    have HLN := Lib.hid hL.len
    go_wp2_with fail
    have hS : w3.drew.cell? ⟨B, 0, none⟩ = some (.string s) ∧ w3.drew.cell? ⟨B, 1, none⟩ = some (.int .i64 k) ∧ w3.drew.cell? ⟨B, 2, none⟩ = some (.bool true) := ⟨hn0, hn1, hn2⟩
    have hL := hL.kept ((Below.refl w3.heap.size w3).drew)
    have hBl : B < w3.drew.heap.size := hBl
    have HB := HB.drew
    clear hb3
    go_region_held3 (fun W => W.cell? ⟨B, 0, none⟩ = some (.string s) ∧ W.cell? ⟨B, 1, none⟩ = some (.int .i64 k) ∧ W.cell? ⟨B, 2, none⟩ = some (.bool true)) (first | with_reducible exact hS | go_keep)
      (first
        | (go_at_call 36; (with_reducible refine (impl_folded _ _ (by omega)).mono ?_); rintro e w4 ⟨rfl, hb4⟩; have hS : w4.cell? ⟨B, 0, none⟩ = some (.string s) ∧ w4.cell? ⟨B, 1, none⟩ = some (.int .i64 k) ∧ w4.cell? ⟨B, 2, none⟩ = some (.bool true) := ⟨(hb4.cell (p := ⟨B, 0, none⟩) (by show B < _; omega)).trans hS.1, (hb4.cell (p := ⟨B, 1, none⟩) (by show B < _; omega)).trans hS.2.1, (hb4.cell (p := ⟨B, 2, none⟩) (by show B < _; omega)).trans hS.2.2⟩; have HB := HB.trans (hb4.mono HB.size); have hL := hL.kept hb4; have hBl : B < w4.heap.size := (by have := hb4.size; omega))
        | (go_at_call 33; (with_reducible refine (impl_endsOf s k true (foldS t) _ hs1 ht2).mono ?_); rintro e w5 ⟨a5, n5, cap5, rfl, hX, hb5⟩; have hS : w5.cell? ⟨B, 0, none⟩ = some (.string s) ∧ w5.cell? ⟨B, 1, none⟩ = some (.int .i64 k) ∧ w5.cell? ⟨B, 2, none⟩ = some (.bool true) := ⟨(hb5.cell (p := ⟨B, 0, none⟩) (by show B < _; omega)).trans hS.1, (hb5.cell (p := ⟨B, 1, none⟩) (by show B < _; omega)).trans hS.2.1, (hb5.cell (p := ⟨B, 2, none⟩) (by show B < _; omega)).trans hS.2.2⟩; have HB := HB.trans (hb5.mono HB.size); have hL := hL.kept hb5; have hBl : B < w5.heap.size := (by have := hb5.size; omega)))
    rw [e1.out] at hX
    have hn5 : n5 = n3 := by have h1 := hX.len; have h2 := HLN.out; omega
    subst hn5
    go_wp2_with fail
    have hS : w5.drew.cell? ⟨B, 0, none⟩ = some (.string s) ∧ w5.drew.cell? ⟨B, 1, none⟩ = some (.int .i64 k) ∧ w5.drew.cell? ⟨B, 2, none⟩ = some (.bool true) := ⟨hS.1, hS.2.1, hS.2.2⟩
    have hL := hL.kept ((Below.refl w5.heap.size w5).drew)
    have hX := hX.kept ((Below.refl w5.heap.size w5).drew)
    have hBl : B < w5.drew.heap.size := hBl
    have HB := HB.drew
    clear hb4 hb5
    go_region_held3 (fun W => W.cell? ⟨B, 0, none⟩ = some (.string s) ∧ W.cell? ⟨B, 1, none⟩ = some (.int .i64 k) ∧ W.cell? ⟨B, 2, none⟩ = some (.bool true)) (first | with_reducible exact hS | go_keep)
      (first
        | (go_at_call 36; (with_reducible refine (impl_folded _ _ (by omega)).mono ?_); rintro e w6 ⟨rfl, hb6⟩; have hS : w6.cell? ⟨B, 0, none⟩ = some (.string s) ∧ w6.cell? ⟨B, 1, none⟩ = some (.int .i64 k) ∧ w6.cell? ⟨B, 2, none⟩ = some (.bool true) := ⟨(hb6.cell (p := ⟨B, 0, none⟩) (by show B < _; omega)).trans hS.1, (hb6.cell (p := ⟨B, 1, none⟩) (by show B < _; omega)).trans hS.2.1, (hb6.cell (p := ⟨B, 2, none⟩) (by show B < _; omega)).trans hS.2.2⟩; have HB := HB.trans (hb6.mono HB.size); have hL := hL.kept hb6; have hX := hX.kept hb6; have hBl : B < w6.heap.size := (by have := hb6.size; omega))
        | (go_at_call 33; (with_reducible refine (impl_endsOf (foldS s) k false (foldS t) _ hs2 ht2).mono ?_); rintro e w7 ⟨a7, n7, cap7, rfl, hY, hb7⟩; have hS : w7.cell? ⟨B, 0, none⟩ = some (.string s) ∧ w7.cell? ⟨B, 1, none⟩ = some (.int .i64 k) ∧ w7.cell? ⟨B, 2, none⟩ = some (.bool true) := ⟨(hb7.cell (p := ⟨B, 0, none⟩) (by show B < _; omega)).trans hS.1, (hb7.cell (p := ⟨B, 1, none⟩) (by show B < _; omega)).trans hS.2.1, (hb7.cell (p := ⟨B, 2, none⟩) (by show B < _; omega)).trans hS.2.2⟩; have HB := HB.trans (hb7.mono HB.size); have hL := hL.kept hb7; have hX := hX.kept hb7; have hBl : B < w7.heap.size := (by have := hb7.size; omega)))
    rw [e2.out] at hY
    have hn7 : n7 = n5 := by have h1 := hY.len; have h2 := HLN.out; omega
    subst hn7
    clear hb6 hb7
    obtain ⟨hq0, hq1, hq2⟩ := hS
    have hln2 : n7 ≤ 1048577 := by omega
    go_wp2_with fail
    refine (spec_endsOf s k true t _ hs1 ht1).mono ?_
    rintro e w8 ⟨a8, n8, cap8, rfl, hZ, hb8⟩
    have hn8 : n8 = n7 := by have h1 := hZ.len; have h2 := HLN.out; omega
    subst hn8
    have hL := hL.kept hb8; have hX := hX.kept hb8; have hY := hY.kept hb8
    have HB := HB.trans (hb8.mono HB.size)
    go_wp2_with fail
    refine (laws_sameEnds _ _ _ _ _ _ _ hL.len hL.ints hZ.ints hln2).mono ?_
    rintro e w9 ⟨rfl, hb9⟩
    have hL := hL.kept hb9; have hX := hX.kept hb9; have hY := hY.kept hb9
    have HB := HB.trans (hb9.mono HB.size)
    go_wp2_with fail
    refine (laws_sameEnds _ _ _ _ _ _ _ hX.len hX.ints hL.ints hln2).mono ?_
    rintro e w10 ⟨rfl, hb10⟩
    have hL := hL.kept hb10; have hY := hY.kept hb10
    have HB := HB.trans (hb10.mono HB.size)
    go_wp2_with fail
    refine (laws_sameEnds _ _ _ _ _ _ _ hY.len hY.ints hL.ints hln2).mono ?_
    rintro e w11 ⟨rfl, hb11⟩
    have HB := HB.trans (hb11.mono HB.size)
    go_wp2_with fail
    go_ret
    exact ⟨rfl, HB⟩
  · have hbig : decide (1048576 < (len : Int)) = true := by simp; omega
    go_enter Try.func9, Try.ntmps9
    go_wp2_with (go_at_call 14; go_in)
    go_ret
    exact ⟨rfl, Below.refl _ _⟩
end Go.Proofs.Ytflbjjpkloeocaa

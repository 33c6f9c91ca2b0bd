/-
  FnFirstEnds: the walk.
-/
import Derived.Test.YtflbjjpkloeocaaFoldedEnds
import Derived.Test.YtflbjjpkloeocaaEndsPre
namespace Go.Proofs.Ytflbjjpkloeocaa
open Go.RowKit
set_option linter.unusedVariables false
set_option maxRecDepth 100000
theorem ints_take' {w : World} {a : Option Addr} {L : List Int} (h : Ints w a L) (m : Nat) : Ints w a (L.take m) := by
  rcases h with rfl | ⟨b, off, rfl, h⟩
  · left; simp
  · right
    refine ⟨b, off, rfl, fun i hi => ?_⟩
    have h1 : i < L.length := by rw [List.length_take] at hi; omega
    have h2 : i < m := by rw [List.length_take] at hi; omega
    rw [h i h1, intAt_take h2]
set_option maxHeartbeats 2000000 in
theorem law_FnFirstEnds (a : Option Addr) (len cap : Nat) (z : List Int) (w : World) (hr : IsRow .u8 w a len cap z) :
    Calls Try.prog 8 #[.slice a len cap] w fun e w' => e = .returned (.bool true) ∧ Below w.heap.size w w' := by
  by_cases hl : len ≤ 1048576
  · have hbig : decide (1048576 < (len : Int)) = false := by simp; omega
    go_enter Try.func8, Try.ntmps8
    go_wp2_with (go_at_call 14; refine (laws_big _ _ _ _ (by omega)).mono ?_; rintro e w' ⟨rfl, rfl⟩)
    refine (drawEndsOf _ _ _ _ _ hr hl).mono ?_
    rintro e w1 ⟨s, k, f, t, rfl, hs, hk, ht, hb1⟩
    go_wp2_with fail
    have hn0 : (w1.alloc (.cells #[.string s, .int .i64 k, .bool f] 31)).cell? ⟨w1.heap.size, 0, none⟩ = some (.string s) := by go_simp
    have hn1 : (w1.alloc (.cells #[.string s, .int .i64 k, .bool f] 31)).cell? ⟨w1.heap.size, 1, none⟩ = some (.int .i64 k) := by go_simp
    have hn2 : (w1.alloc (.cells #[.string s, .int .i64 k, .bool f] 31)).cell? ⟨w1.heap.size, 2, none⟩ = some (.bool f) := by go_simp
    have HB := hb1.alloc hb1.size (.cells #[.string s, .int .i64 k, .bool f] 31)
    have hBl : w1.heap.size < (w1.alloc (.cells #[.string s, .int .i64 k, .bool f] 31)).heap.size := by simp
    generalize (w1.alloc (.cells #[.string s, .int .i64 k, .bool f] 31)) = V at *
    generalize w1.heap.size = B at *
    have hln := endsL_len s k f t
    have hs1 : s.size ≤ 1048576 := by omega
    have ht1 : t.size ≤ 1048576 := by omega
    clear hb1
    refine (impl_endsOf s k f t _ hs1 ht1).mono ?_
    rintro e w3 ⟨a3, n3, cap3, rfl, hL, hb3⟩
    have hn0 := (hb3.cell (p := ⟨B, 0, none⟩) (by show B < _; omega)).trans hn0
    have hn1 := (hb3.cell (p := ⟨B, 1, none⟩) (by show B < _; omega)).trans hn1
    have hn2 := (hb3.cell (p := ⟨B, 2, none⟩) (by show B < _; omega)).trans hn2
    have HB := HB.trans (hb3.mono HB.size)
    have hBl : B < w3.heap.size := by have := hb3.size; omega
    have hn : n3 ≤ 201 := by have := hL.len; omega
    have hln2 : n3 ≤ 1048577 := by omega
    have HLN := Lib.hid hL.len
    go_wp2_with fail
    refine (spec_endsOf s k f t _ hs1 ht1).mono ?_
    rintro e w4 ⟨a4, n4, cap4, rfl, hZ, hb4⟩
    have hn4 : n4 = n3 := by have h1 := hZ.len; have h2 := HLN.out; omega
    subst hn4
    have hL := hL.kept hb4
    have hn0 := (hb4.cell (p := ⟨B, 0, none⟩) (by show B < _; omega)).trans hn0
    have hn1 := (hb4.cell (p := ⟨B, 1, none⟩) (by show B < _; omega)).trans hn1
    have hn2 := (hb4.cell (p := ⟨B, 2, none⟩) (by show B < _; omega)).trans hn2
    have HB := HB.trans (hb4.mono HB.size)
    have hBl : B < w4.heap.size := by have := hb4.size; omega
    go_wp2_with fail
    refine (laws_sameEnds _ _ _ _ _ _ _ hL.len hL.ints hZ.ints hln2).mono ?_
    rintro e w5 ⟨rfl, hb5⟩
    have hL := hL.kept hb5
    have hn0 := (hb5.cell (p := ⟨B, 0, none⟩) (by show B < _; omega)).trans hn0
    have hn1 := (hb5.cell (p := ⟨B, 1, none⟩) (by show B < _; omega)).trans hn1
    have hn2 := (hb5.cell (p := ⟨B, 2, none⟩) (by show B < _; omega)).trans hn2
    have HB := HB.trans (hb5.mono HB.size)
    have hBl : B < w5.heap.size := by have := hb5.size; omega
    clear hb3 hb4 hb5 hZ
    obtain ⟨q, hq⟩ : ∃ q, len % (t.size + 1) = q := ⟨_, rfl⟩
    have hqs : q ≤ t.size := by have := Nat.mod_lt len (show 0 < t.size + 1 by omega); omega
    have hq2 : ((len : Int) % ((t.size : Int) + 1)) = (q : Int) := by rw [← hq]; simp
    have hq3 : (q : Int) ≤ (t.size : Int) := by omega
    have hS : w5.drew.cell? ⟨B, 0, none⟩ = some (.string s) ∧ w5.drew.cell? ⟨B, 1, none⟩ = some (.int .i64 k) ∧ w5.drew.cell? ⟨B, 2, none⟩ = some (.bool f) := ⟨hn0, hn1, hn2⟩
    have ht2 : (t.extract 0 q).size ≤ 1048576 := by rw [ByteArray.size_extract]; omega
    have HEF := Lib.hid (ends_first s k f t q hqs (by omega))
    have HEC := Lib.hid (endC_le s k f t q n4 hqs (by omega) HLN.out)
    have HLO := fun i => Lib.hid (ends_low s k f t q i hqs (by omega))
    have HHI := fun i => Lib.hid (ends_high s k f t q i n4 (by omega) HLN.out)
    clear hq
    go_wp2_with fail
    have hL := hL.kept ((Below.refl w5.heap.size w5).drew)
    have hBl : B < w5.drew.heap.size := hBl
    have HB := HB.drew
    clear hn0 hn1 hn2
    go_region_held3 (fun W => W.cell? ⟨B, 0, none⟩ = some (.string s) ∧ W.cell? ⟨B, 1, none⟩ = some (.int .i64 k) ∧ W.cell? ⟨B, 2, none⟩ = some (.bool f)) (first | with_reducible exact hS | go_keep)
      (first
        | (go_at_call 33; (with_reducible refine (impl_endsOf s k f (t.extract 0 q) _ hs1 ht2).mono ?_); rintro e w6 ⟨a6, n6, cap6, rfl, hM, hb6⟩; have hS : w6.cell? ⟨B, 0, none⟩ = some (.string s) ∧ w6.cell? ⟨B, 1, none⟩ = some (.int .i64 k) ∧ w6.cell? ⟨B, 2, none⟩ = some (.bool f) := ⟨(hb6.cell (p := ⟨B, 0, none⟩) (by show B < _; omega)).trans hS.1, (hb6.cell (p := ⟨B, 1, none⟩) (by show B < _; omega)).trans hS.2.1, (hb6.cell (p := ⟨B, 2, none⟩) (by show B < _; omega)).trans hS.2.2⟩; have HB := HB.trans (hb6.mono HB.size); have hL := hL.kept hb6))
    have hc0 := HEC.out
    rw [HEF.out] at hM
    have hn6 : n6 = endC s k f t q := by
      have h1 := hM.len; rw [List.length_take, HLN.out] at h1; omega
    subst hn6
    have HM := Lib.hid hM; have HL := Lib.hid hL
    have hcap : n4 ≤ cap3 := by
      rcases hL.2.2 with ⟨hv, h0⟩ | ⟨g', cap', cur, hv, _, _, hnc, _⟩
      · omega
      · simp only [Value.slice.injEq] at hv; omega
    clear hM hL hb6
    go_wp2
    go_loopw [8] (fun i wr => ∃ j : Nat, j ≤ endC s k f t q ∧ i = .int .i64 j ∧ Below w6.heap.size w6 wr)
      (fun i _ => n4 - (intOf i).toNat)
    case atStart => exact ⟨0, by omega, rfl, Below.refl _ _⟩
    case round =>
      obtain ⟨j, hj, rfl, hb⟩ := hrel
      by_cases hlt : j < endC s k f t q
      · have hjn : (j : Int) < (n4 : Int) := by omega
        obtain ⟨b, off, rfl, hp⟩ := (HL.out.ints.kept hb).at (j * 2) (by rw [HLN.out]; omega)
        have c0 := hp (j * 2) (by rw [HLN.out]; omega)
        have hle := (HLO j).out hlt
        generalize intAt (endsL s k f t) (j * 2) = y at c0 hle
        clear hp
        go_wp2
        go_roundw
        case rel => exact ⟨j + 1, by omega, by go_num, hb⟩
        case measure => simp [intOf]; omega
      · obtain rfl : j = endC s k f t q := by omega
        have hfin : Ints wr a3 ((endsL s k f t).take (endC s k f t q * 2)) := ints_take' (HL.out.ints.kept hb) _
        have hM2 := HM.out.kept hb
        have hcb : endC s k f t q ≤ 1048577 := by omega
        have hcc : endC s k f t q ≤ cap3 := by omega
        have hcc2 : ((endC s k f t q : Nat) : Int) ≤ (cap3 : Int) := by omega
        by_cases hend : endC s k f t q < n4
        · have hjn : ((endC s k f t q : Nat) : Int) < (n4 : Int) := by omega
          have hnle := (HHI (endC s k f t q)).out (Nat.le_refl _) hend
          obtain ⟨b, off, rfl, hp⟩ := (HL.out.ints.kept hb).at (endC s k f t q * 2) (by rw [HLN.out]; omega)
          have c0 := hp (endC s k f t q * 2) (by rw [HLN.out]; omega)
          generalize intAt (endsL s k f t) (endC s k f t q * 2) = y at c0 hnle
          clear hp
          go_wp2_with fail
          refine (laws_sameEnds _ _ _ _ _ _ _ hM2.len hM2.ints hfin hcb).mono ?_
          rintro e w9 ⟨rfl, hb9⟩
          go_wp2_with fail
          go_ret
          exact ⟨rfl, HB.trans ((hb.trans (hb9.mono hb.size)).mono HB.size)⟩
        · have hjn : ¬ ((endC s k f t q : Nat) : Int) < (n4 : Int) := by omega
          go_wp2_with fail
          refine (laws_sameEnds _ _ _ _ _ _ _ hM2.len hM2.ints hfin hcb).mono ?_
          rintro e w9 ⟨rfl, hb9⟩
          go_wp2_with fail
          go_ret
          exact ⟨rfl, HB.trans ((hb.trans (hb9.mono hb.size)).mono HB.size)⟩
  · have hbig : decide (1048576 < (len : Int)) = true := by simp; omega
    go_enter Try.func8, Try.ntmps8
    go_wp2_with (go_at_call 14; go_in)
    go_ret
    exact ⟨rfl, Below.refl _ _⟩
end Go.Proofs.Ytflbjjpkloeocaa

/-
  FnMoreFaults: the walk.
-/
import Derived.Test.YtflbjjpkloeocaaFirstEnds
import Derived.Test.YtflbjjpkloeocaaMoreEnds
namespace Go.Proofs.Ytflbjjpkloeocaa
open Go.RowKit
set_option linter.unusedVariables false
set_option maxRecDepth 100000
theorem ends_right {s : ByteArray} {K : Int} {f : Bool} {r : ByteArray} (hp : patOk s K = true) (hr : r.size ≤ 200) : endsL s K f r = endF (lastD s r f) K (r.size + 1) := by
  unfold endsL; rw [hp]; simp [hr]
set_option maxHeartbeats 2000000 in
theorem law_FnMoreFaults (a : Option Addr) (len cap : Nat) (z : List Int) (w : World) (hr : IsRow .u8 w a len cap z) :
    Calls Try.prog 7 #[.slice a len cap] w fun e w' => e = .returned (.bool true) ∧ Below w.heap.size w w' := by
  by_cases hl : len ≤ 1048576
  · have hbig : decide (1048576 < (len : Int)) = false := by simp; omega
    go_enter Try.func7, Try.ntmps7
    go_wp2_with (go_at_call 14; refine (laws_big _ _ _ _ (by omega)).mono ?_; rintro e w' ⟨rfl, rfl⟩)
    refine (drawEndsOf _ _ _ _ _ hr hl).mono ?_
    rintro e w1 ⟨s, k, f, t, rfl, hs, hk, ht, hb1⟩
    go_wp2_with fail
    have hn0 : (w1.alloc (.cells #[.string s, .int .i64 k, .bool f] 31)).cell? ⟨w1.heap.size, 0, none⟩ = some (.string s) := by go_simp
    have hn1 : (w1.alloc (.cells #[.string s, .int .i64 k, .bool f] 31)).cell? ⟨w1.heap.size, 1, none⟩ = some (.int .i64 k) := by go_simp
    have hn2 : (w1.alloc (.cells #[.string s, .int .i64 k, .bool f] 31)).cell? ⟨w1.heap.size, 2, none⟩ = some (.bool f) := by go_simp
    have HB := hb1.alloc hb1.size (.cells #[.string s, .int .i64 k, .bool f] 31)
    have hBl : w1.heap.size < (w1.alloc (.cells #[.string s, .int .i64 k, .bool f] 31)).heap.size := by simp
    generalize (w1.alloc (.cells #[.string s, .int .i64 k, .bool f] 31)) = V at *
    generalize w1.heap.size = B at *
    have hln := endsL_len s k f t
    have hs1 : s.size ≤ 1048576 := by omega
    have ht1 : t.size ≤ 1048576 := by omega
    clear hb1
    refine (impl_endsOf s k f t _ hs1 ht1).mono ?_
    rintro e w3 ⟨a3, n3, cap3, rfl, hL, hb3⟩
    have hn0 := (hb3.cell (p := ⟨B, 0, none⟩) (by show B < _; omega)).trans hn0
    have hn1 := (hb3.cell (p := ⟨B, 1, none⟩) (by show B < _; omega)).trans hn1
    have hn2 := (hb3.cell (p := ⟨B, 2, none⟩) (by show B < _; omega)).trans hn2
    have HB := HB.trans (hb3.mono HB.size)
    have hBl : B < w3.heap.size := by have := hb3.size; omega
    have hn : n3 ≤ 201 := by have := hL.len; omega
    have hln2 : n3 ≤ 1048577 := by omega
    have HLN := Lib.hid hL.len
    go_wp2_with fail
    refine (spec_endsOf s k f t _ hs1 ht1).mono ?_
    rintro e w4 ⟨a4, n4, cap4, rfl, hZ, hb4⟩
    have hn4 : n4 = n3 := by have h1 := hZ.len; have h2 := HLN.out; omega
    subst hn4
    have hL := hL.kept hb4
    have hn0 := (hb4.cell (p := ⟨B, 0, none⟩) (by show B < _; omega)).trans hn0
    have hn1 := (hb4.cell (p := ⟨B, 1, none⟩) (by show B < _; omega)).trans hn1
    have hn2 := (hb4.cell (p := ⟨B, 2, none⟩) (by show B < _; omega)).trans hn2
    have HB := HB.trans (hb4.mono HB.size)
    have hBl : B < w4.heap.size := by have := hb4.size; omega
    go_wp2_with fail
    refine (laws_sameEnds _ _ _ _ _ _ _ hL.len hL.ints hZ.ints hln2).mono ?_
    rintro e w5 ⟨rfl, hb5⟩
    have hL := hL.kept hb5
    have hn0 := (hb5.cell (p := ⟨B, 0, none⟩) (by show B < _; omega)).trans hn0
    have hn1 := (hb5.cell (p := ⟨B, 1, none⟩) (by show B < _; omega)).trans hn1
    have hn2 := (hb5.cell (p := ⟨B, 2, none⟩) (by show B < _; omega)).trans hn2
    have HB := HB.trans (hb5.mono HB.size)
    have hBl : B < w5.heap.size := by have := hb5.size; omega
    clear hb3 hb4 hb5 hZ
    cases hp : patOk s k
    · have HP := Lib.hid hp; clear hp
      go_wp2_with fail
      refine (spec_patternOk s k f _ (by omega)).mono ?_
      rintro e w6 ⟨rfl, hb6⟩
      rw [HP.out]
      have hL := hL.kept hb6
      have hn0 := (hb6.cell (p := ⟨B, 0, none⟩) (by show B < _; omega)).trans hn0
      have hn1 := (hb6.cell (p := ⟨B, 1, none⟩) (by show B < _; omega)).trans hn1
      have hn2 := (hb6.cell (p := ⟨B, 2, none⟩) (by show B < _; omega)).trans hn2
      have HB := HB.trans (hb6.mono HB.size)
      have hBl : B < w6.heap.size := by have := hb6.size; omega
      go_wp2_with fail
      refine (spec_endsOf s k f t _ hs1 ht1).mono ?_
      rintro e w8 ⟨a8, n8, cap8, rfl, hZ, hb8⟩
      have hn8 : n8 = n4 := by have h1 := hZ.len; have h2 := HLN.out; omega
      subst hn8
      have hL := hL.kept hb8
      have HB := HB.trans (hb8.mono HB.size)
      go_wp2_with fail
      refine (laws_sameEnds _ _ _ _ _ _ _ hL.len hL.ints hZ.ints hln2).mono ?_
      rintro e w9 ⟨rfl, hb9⟩
      have HB := HB.trans (hb9.mono HB.size)
      go_wp2_with fail
      go_ret
      exact ⟨rfl, HB⟩
    · obtain ⟨hp0, hp1, hk0, hk1⟩ := (patOk_iff s k).1 hp
      have HP := Lib.hid hp
      by_cases hk4 : k = 4
      · have hk4b : (k == 4) = true := by simp [hk4]
        clear hk4 hp
        go_wp2_with fail
        refine (spec_patternOk s k f _ (by omega)).mono ?_
        rintro e w6 ⟨rfl, hb6⟩
        rw [HP.out]
        have hL := hL.kept hb6
        have hn0 := (hb6.cell (p := ⟨B, 0, none⟩) (by show B < _; omega)).trans hn0
        have hn1 := (hb6.cell (p := ⟨B, 1, none⟩) (by show B < _; omega)).trans hn1
        have hn2 := (hb6.cell (p := ⟨B, 2, none⟩) (by show B < _; omega)).trans hn2
        have HB := HB.trans (hb6.mono HB.size)
        have hBl : B < w6.heap.size := by have := hb6.size; omega
        go_wp2_with fail
        refine (spec_endsOf s k f t _ hs1 ht1).mono ?_
        rintro e w8 ⟨a8, n8, cap8, rfl, hZ, hb8⟩
        have hn8 : n8 = n4 := by have h1 := hZ.len; have h2 := HLN.out; omega
        subst hn8
        have hL := hL.kept hb8
        have HB := HB.trans (hb8.mono HB.size)
        go_wp2_with fail
        refine (laws_sameEnds _ _ _ _ _ _ _ hL.len hL.ints hZ.ints hln2).mono ?_
        rintro e w9 ⟨rfl, hb9⟩
        have HB := HB.trans (hb9.mono HB.size)
        go_wp2_with fail
        go_ret
        exact ⟨rfl, HB⟩
      · have hk4b : (k == 4) = false := by simpa using hk4
        have hp2 : patOk s (k + 1) = true := patOk_yes ⟨hp0, hp1, by omega, by omega⟩
        have eL := ends_right (f := f) (r := t) hp (by omega)
        have eM := ends_right (f := f) (r := t) hp2 (by omega)
        obtain ⟨HA, HC⟩ := more_ends (lastD s t f) k (t.size + 1)
        have HD := endF_dist (lastD s t f) k (t.size + 1)
        obtain ⟨E, hE⟩ : ∃ E, endF (lastD s t f) k (t.size + 1) = E := ⟨_, rfl⟩
        obtain ⟨M, hM0⟩ : ∃ M, endF (lastD s t f) (k + 1) (t.size + 1) = M := ⟨_, rfl⟩
        have lE := endF_length (lastD s t f) k (t.size + 1)
        have lM := endF_length (lastD s t f) (k + 1) (t.size + 1)
        have bM := endN_le (lastD s t f) (k + 1) (t.size + 1)
        rw [hE] at eL HC HD lE
        rw [hM0] at eM HA HC lM
        rw [eL] at hL
        generalize endN (lastD s t f) k (t.size + 1) = nE at *
        generalize endN (lastD s t f) (k + 1) (t.size + 1) = nM at *
        have hnE : n4 = nE := by have := hL.len; omega
        subst hnE
        have HA := Lib.hid HA
        have HD := fun i => Lib.hid (HD i)
        have HC := fun i => Lib.hid (HC i)
        have LE := Lib.hid lE; have LM := Lib.hid lM; have EM := Lib.hid eM
        have HL := Lib.hid hL
        clear eL eM lE lM hE hM0 hL hp hp2 HLN hln hk4
        go_wp2_with fail
        refine (spec_patternOk s k f _ (by omega)).mono ?_
        rintro e w6 ⟨rfl, hb6⟩
        rw [HP.out]
        have HL := Lib.hid (HL.out.kept hb6)
        have hn0 := (hb6.cell (p := ⟨B, 0, none⟩) (by show B < _; omega)).trans hn0
        have hn1 := (hb6.cell (p := ⟨B, 1, none⟩) (by show B < _; omega)).trans hn1
        have hn2 := (hb6.cell (p := ⟨B, 2, none⟩) (by show B < _; omega)).trans hn2
        have HB := HB.trans (hb6.mono HB.size)
        have hBl : B < w6.heap.size := by have := hb6.size; omega
        go_wp2_with fail
        refine (impl_endsOf s (k + 1) f t _ hs1 ht1).mono ?_
        rintro e w7 ⟨a7, n7, cap7, rfl, hM, hb7⟩
        rw [EM.out] at hM
        have hn7 : n7 = nM := by have h1 := hM.len; have h2 := LM.out; omega
        subst hn7
        have HM := Lib.hid hM
        have HL := Lib.hid (HL.out.kept hb7)
        have hn1 := (hb7.cell (p := ⟨B, 1, none⟩) (by show B < _; omega)).trans hn1
        have HB := HB.trans (hb7.mono HB.size)
        have hBl : B < w7.heap.size := by have := hb7.size; omega
        clear hM hb6 hb7 hn0 hn2
        go_wp2
        go_loopw [7, 8] (fun c i wr => ∃ j : Nat, j ≤ n7 ∧ i = .int .i64 j ∧ c = .int .i64 (cntE M k j) ∧ Below w7.heap.size w7 wr)
          (fun _ i _ => n7 - (intOf i).toNat)
        case atStart => exact ⟨0, by omega, rfl, rfl, Below.refl _ _⟩
        case round =>
          obtain ⟨j, hj, rfl, rfl, hb⟩ := hrel
          by_cases hlt : j < n7
          · obtain ⟨b1, off1, rfl, hq1⟩ := (HM.out.ints.kept hb).at (j * 2) (by rw [LM.out]; omega)
            have c1 := hq1 (j * 2) (by rw [LM.out]; omega)
            have d1 := hq1 (j * 2 + 1) (by rw [LM.out]; omega)
            rw [← Nat.add_assoc] at d1
            have hnb := (hb.cell (p := ⟨B, 1, none⟩) (by show B < _; omega)).trans hn1
            have HCj := (HC j).out hlt
            have hcs : cntE M k (j + 1) = if intAt M (j * 2 + 1) ≤ k then cntE M k j + 1 else cntE M k j := rfl
            clear hq1
            obtain ⟨x, hx⟩ : ∃ x, intAt M (j * 2) = x := ⟨_, rfl⟩
            obtain ⟨y, hy⟩ : ∃ y, intAt M (j * 2 + 1) = y := ⟨_, rfl⟩
            rw [hx] at c1 HCj
            rw [hy] at d1 HCj hcs
            clear hx hy
            by_cases hle : y ≤ k
            · rw [if_pos hle] at hcs
              obtain ⟨g1, g2, g3⟩ := HCj hle
              have HS := Lib.hid hcs
              obtain ⟨b2, off2, rfl, hq2⟩ := (HL.out.ints.kept hb).at (cntE M k j * 2) (by rw [LE.out]; omega)
              have c2 := hq2 (cntE M k j * 2) (by rw [LE.out]; omega)
              have d2 := hq2 (cntE M k j * 2 + 1) (by rw [LE.out]; omega)
              rw [← Nat.add_assoc] at d2
              rw [g2] at c2
              rw [g3] at d2
              have hat : ((cntE M k j : Nat) : Int) < (n4 : Int) := by omega
              have hatb : decide (((cntE M k j : Nat) : Int) < (n4 : Int)) = true := by simpa using g1
              clear hcs HCj g2 g3 hq2
              generalize cntE M k j = ct at *
              go_wp2_with fail
              go_quiet (fail)
              go_wp2
              go_roundw
              case rel => exact ⟨j + 1, by omega, by go_num, by rw [HS.out]; go_num, below_drewN hb _⟩
              case measure => simp [intOf]; omega
            · rw [if_neg hle] at hcs
              have HS := Lib.hid hcs
              by_cases g1 : cntE M k j < n4
              · obtain ⟨b2, off2, rfl, hq2⟩ := (HL.out.ints.kept hb).at (cntE M k j * 2) (by rw [LE.out]; omega)
                have c2 := hq2 (cntE M k j * 2) (by rw [LE.out]; omega)
                have d2 := hq2 (cntE M k j * 2 + 1) (by rw [LE.out]; omega)
                rw [← Nat.add_assoc] at d2
                have hdd := (HD (cntE M k j)).out g1
                generalize intAt E (cntE M k j * 2) = x2 at c2
                generalize intAt E (cntE M k j * 2 + 1) = y2 at d2 hdd
                have hat : ((cntE M k j : Nat) : Int) < (n4 : Int) := by omega
                have hatb : decide (((cntE M k j : Nat) : Int) < (n4 : Int)) = true := by simpa using g1
                have hyy : (y == y2) = false := by simp; omega
                have hyy2 : ¬ y = y2 := by omega
                clear hcs HCj hq2
                generalize cntE M k j = ct at *
                go_wp2_with fail
                go_quiet (fail)
                go_wp2
                go_quiet (fail)
                go_wp2
                go_roundw
                case rel => exact ⟨j + 1, by omega, by go_num, by rw [HS.out], below_drewN hb _⟩
                case measure => simp [intOf]; omega
              · have hat : ¬ ((cntE M k j : Nat) : Int) < (n4 : Int) := by omega
                have hatb : decide (((cntE M k j : Nat) : Int) < (n4 : Int)) = false := by simpa using g1
                clear hcs HCj
                generalize cntE M k j = ct at *
                go_wp2_with fail
                go_quiet (fail)
                go_wp2
                go_quiet (fail)
                go_wp2
                go_roundw
                case rel => exact ⟨j + 1, by omega, by go_num, by rw [HS.out], below_drewN hb _⟩
                case measure => simp [intOf]; omega
          · obtain rfl : j = n7 := by omega
            have hfin : ((cntE M k j : Nat) : Int) = (n4 : Int) := by have := HA.out; omega
            have hfb : (((cntE M k j : Nat) : Int) == (n4 : Int)) = true := by simp [hfin]
            clear hfin
            go_wp2
            go_ret
            exact ⟨rfl, HB.trans (hb.mono HB.size)⟩
  · have hbig : decide (1048576 < (len : Int)) = true := by simp; omega
    go_enter Try.func7, Try.ntmps7
    go_wp2_with (go_at_call 14; go_in)
    go_ret
    exact ⟨rfl, Below.refl _ _⟩
end Go.Proofs.Ytflbjjpkloeocaa

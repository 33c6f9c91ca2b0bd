/-
  FnStart: the walk.
-/
import Derived.Test.YtelhgpoppgpniabL14StI
import Derived.Test.YtelhgpoppgpniabL14StS
import Derived.Test.YtelhgpoppgpniabStartDraw
import Derived.Test.YtelhgpoppgpniabStartFacts
import Derived.Test.YtelhgpoppgpniabL1Draw
namespace Go.Proofs.Ytelhgpoppgpniab
open Go.RowKit
set_option linter.unusedVariables false
set_option maxRecDepth 100000
theorem idist_of (s t : ByteArray) (f : Bool) (d : Int) (hs : s.size ≤ 1048576) (ht : t.size ≤ 1048576) (hd : distI s t f = d) (w : World) :
    Calls Try.prog 18 #[.string s, .string t, .bool f] w fun e w' => e = .returned (.int .i64 d) ∧ Below w.heap.size w w' :=
  (impl_distance s t f w hs ht).mono fun _ _ h => ⟨by rw [h.1, hd], h.2⟩
set_option maxHeartbeats 8000000 in
theorem law_FnStart (a : Option Addr) (len cap : Nat) (z : List Int) (w : World) (hr : IsRow .u8 w a len cap z) :
    Calls Try.prog 4 #[.slice a len cap] w fun e w' => e = .returned (.bool true) ∧ Below w.heap.size w w' := by
  by_cases hl : len ≤ 1048576
  · have hbig : decide (1048576 < (len : Int)) = false := by simp; omega
    go_enter Try.func4, Try.ntmps4
    go_wp2_with (go_at_call 10; refine (laws_big _ _ _ _ (by omega)).mono ?_; rintro e w' ⟨rfl, rfl⟩)
    refine (drawStartOf _ _ _ _ _ hr hl).mono ?_
    rintro e w1 ⟨s, k, f, t, en, rfl, hs, hk, ht, hb1⟩
    have HX := Lib.hid (fun (W : World) => impl_startOf s k f t en W (by omega) (by omega))
    have HY := Lib.hid (fun (W : World) => spec_startOf s k f t en W (by omega) (by omega))
    have hs1 : s.size ≤ 1048576 := by omega
    have ht1 : t.size ≤ 1048576 := by omega
    go_wp2_with fail
    have hn0 : (w1.alloc (.cells #[.string s, .int .i64 k, .bool f] 34)).cell? ⟨w1.heap.size, 0, none⟩ = some (.string s) := by go_simp
    have hn1 : (w1.alloc (.cells #[.string s, .int .i64 k, .bool f] 34)).cell? ⟨w1.heap.size, 1, none⟩ = some (.int .i64 k) := by go_simp
    have hn2 : (w1.alloc (.cells #[.string s, .int .i64 k, .bool f] 34)).cell? ⟨w1.heap.size, 2, none⟩ = some (.bool f) := by go_simp
    have HB := hb1.alloc hb1.size (.cells #[.string s, .int .i64 k, .bool f] 34)
    have hBl : w1.heap.size < (w1.alloc (.cells #[.string s, .int .i64 k, .bool f] 34)).heap.size := by simp
    generalize (w1.alloc (.cells #[.string s, .int .i64 k, .bool f] 34)) = V at *
    generalize w1.heap.size = B at *
    clear hb1
    by_cases hok : patOk s k = true ∧ t.size ≤ 200 ∧ 0 ≤ en ∧ en ≤ t.size
    · obtain ⟨h1, h2, h3, h4⟩ := hok
      obtain ⟨e9, rfl⟩ : ∃ e : Nat, en = (e : Int) := ⟨en.toNat, by omega⟩
      have he : e9 ≤ t.size := by omega
      obtain ⟨st, d, hT, hst, hdst, hall, hlast⟩ := start_is s t f e9 (by omega) he h2
      have hV9 := startS_yes (f := f) h1 h2 he
      rw [hT] at hV9
      rw [hV9] at HX HY
      simp only at HX HY
      have hd0 : 0 ≤ d ∧ d ≤ 200 := by
        have := startTo_bnd s t f e9 (by omega) he h2 (e9 + 1) (Nat.le_refl _)
        rw [hT] at this; simp only at this; omega
      have HALL := Lib.hid hall
      have HTH := Lib.hid (fun n (hn : (endsL s k f t).length = n * 2) => there_is s k f t e9 d n h1 h2 he hlast hn)
      have HDS := Lib.hid hdst
      have dn : decide (d < 0) = false := by simp; omega
      have x1 : ((st : Int) != (st : Int)) = false := by simp
      have y1 : (d != d) = false := by simp
      clear hT hV9 hall hlast hdst h1
      go_wp2_with fail
      refine (HX.out _).mono ?_
      rintro e w3 ⟨rfl, hb3⟩
      have hn0 := (hb3.cell (p := ⟨B, 0, none⟩) (by show B < _; omega)).trans hn0
      have hn1 := (hb3.cell (p := ⟨B, 1, none⟩) (by show B < _; omega)).trans hn1
      have hn2 := (hb3.cell (p := ⟨B, 2, none⟩) (by show B < _; omega)).trans hn2
      have HB := HB.trans (hb3.mono HB.size)
      have hBl : B < w3.heap.size := by have := hb3.size; omega
      go_wp2_with fail
      refine (HY.out _).mono ?_
      rintro e w4 ⟨rfl, hb4⟩
      have hn0 := (hb4.cell (p := ⟨B, 0, none⟩) (by show B < _; omega)).trans hn0
      have hn1 := (hb4.cell (p := ⟨B, 1, none⟩) (by show B < _; omega)).trans hn1
      have hn2 := (hb4.cell (p := ⟨B, 2, none⟩) (by show B < _; omega)).trans hn2
      have HB := HB.trans (hb4.mono HB.size)
      have hBl : B < w4.heap.size := by have := hb4.size; omega
      have HB4 := Lib.hid HB
      clear hb3 hb4 HX HY
      go_wp2_with fail
      go_loopw [10] (fun i wr => ∃ j : Nat, j ≤ e9 + 1 ∧ i = .int .i64 (j : Int) ∧ Below w4.heap.size w4 wr)
        (fun i _ => e9 + 1 - (intOf i).toNat)
      case atStart => exact ⟨0, by omega, rfl, Below.refl _ _⟩
      case round =>
        obtain ⟨j, hj, rfl, hb⟩ := hrel
        have m0 := (hb.cell (p := ⟨B, 0, none⟩) (by show B < _; omega)).trans hn0
        have m1 := (hb.cell (p := ⟨B, 1, none⟩) (by show B < _; omega)).trans hn1
        have m2 := (hb.cell (p := ⟨B, 2, none⟩) (by show B < _; omega)).trans hn2
        have hszr := hb.size
        have hBr : B < wr.heap.size := by omega
        by_cases hje : j ≤ e9
        · have j0 : (j : Int) ≤ (e9 : Int) := by omega
          have j1 : (e9 : Int) ≤ (t.size : Int) := by omega
          have hAz : (t.extract j e9).size ≤ 200 := by rw [extract_len t j e9 he]; omega
          obtain ⟨c1, c2⟩ := HALL.out j hje
          obtain ⟨n, hn⟩ : ∃ n, distI s (t.extract j e9) f = n := ⟨_, rfl⟩
          rw [hn] at c1 c2
          have C1 := Lib.hid (fun W => idist_of s (t.extract j e9) f n (by omega) (by omega) hn W)
          replace m0 := cell_regrown m0
          replace m2 := cell_regrown m2
          have k1 : decide (n < d) = false := by simp; omega
          by_cases hnd : n = d
          · have k2 : (n == d) = true := by simpa using hnd
            have k3 : decide ((st : Int) < (j : Int)) = false := by have := c2 hnd; simp; omega
            have k3n : decide (st < j) = false := by have := c2 hnd; simp; omega
            clear hn c1 c2 m1 hn0 hn1 hn2 hnd
            go_wp2_with fail
            refine wp_region_quiet_below (by kernel_rfl) (by kernel_rfl) ?_
            repeat (go_big_quiet_step (((go_at_call 18; with_reducible exact Calls.regrown_of (C1.out _)))))
            refine wpQuiet_nil ?_
            intro _ hw'
            obtain ⟨⟨dq, osq⟩, hw''⟩ := hw'
            subst hw''
            go_wp2
            go_roundw
            case rel => exact ⟨j + 1, by omega, by go_num, hb.trans ((below_regrown wr dq osq).mono hb.size)⟩
            case measure => simp [intOf]; omega
          · have k2 : (n == d) = false := by simpa using hnd
            clear hn c1 c2 m1 hn0 hn1 hn2 hnd
            go_wp2_with fail
            refine wp_region_quiet_below (by kernel_rfl) (by kernel_rfl) ?_
            repeat (go_big_quiet_step (((go_at_call 18; with_reducible exact Calls.regrown_of (C1.out _)))))
            refine wpQuiet_nil ?_
            intro _ hw'
            obtain ⟨⟨dq, osq⟩, hw''⟩ := hw'
            subst hw''
            go_wp2
            go_roundw
            case rel => exact ⟨j + 1, by omega, by go_num, hb.trans ((below_regrown wr dq osq).mono hb.size)⟩
            case measure => simp [intOf]; omega
        · have hje2 : j = e9 + 1 := by omega
          have j0 : ¬ (j : Int) ≤ (e9 : Int) := by omega
          have HBr := Lib.hid (HB4.out.trans (hb.mono HB4.out.size))
          clear hn0 hn1 hn2 hb
          go_wp2_with fail
          refine (impl_endsOf s k f t _ hs1 ht1).mono ?_
          rintro e w5 ⟨a5, n5, cap5, rfl, hL, hb5⟩
          have hn0 := (hb5.cell (p := ⟨B, 0, none⟩) (by show B < _; omega)).trans m0
          have hn1 := (hb5.cell (p := ⟨B, 1, none⟩) (by show B < _; omega)).trans m1
          have hn2 := (hb5.cell (p := ⟨B, 2, none⟩) (by show B < _; omega)).trans m2
          have HB5 := Lib.hid (HBr.out.trans (hb5.mono HBr.out.size))
          have hBl5 : B < w5.heap.size := by have := hb5.size; omega
          have hlen := endsL_len s k f t
          have hn5 : n5 ≤ 1000 := by have := hL.len; omega
          have HTN := Lib.hid (HTH.out n5 hL.len)
          have HL := Lib.hid hL
          clear m0 m1 m2 hb5 hlen hL
          go_wp2_with fail
          go_loopw [13, 14] (fun v i wr => ∃ i9 : Nat, i9 ≤ n5 ∧ i = .int .i64 (i9 : Int) ∧ v = .bool (thereTo (endsL s k f t) (e9 : Int) d i9) ∧ Below w5.heap.size w5 wr)
            (fun _ i _ => n5 - (intOf i).toNat)
          case atStart => exact ⟨0, by omega, rfl, rfl, Below.refl _ _⟩
          case round =>
            obtain ⟨i9, hi9, rfl, rfl, hb9⟩ := hrel
            by_cases hin : i9 < n5
            · have hin2 : (i9 : Int) < (n5 : Int) := by omega
              obtain ⟨b2, off2, rfl, hq2⟩ := (HL.out.ints.kept hb9).at (i9 * 2) (by rw [HL.out.len]; omega)
              have c2 := hq2 (i9 * 2) (by rw [HL.out.len]; omega)
              have d2 := hq2 (i9 * 2 + 1) (by rw [HL.out.len]; omega)
              rw [← Nat.add_assoc] at d2
              have HTT : Hid (thereTo (endsL s k f t) (e9 : Int) d (i9 + 1) = (thereTo (endsL s k f t) (e9 : Int) d i9 || (intAt (endsL s k f t) (i9 * 2) == (e9 : Int) && intAt (endsL s k f t) (i9 * 2 + 1) == d))) := Lib.hid rfl
              obtain ⟨x, hx⟩ : ∃ x, intAt (endsL s k f t) (i9 * 2) = x := ⟨_, rfl⟩
              obtain ⟨y, hy⟩ : ∃ y, intAt (endsL s k f t) (i9 * 2 + 1) = y := ⟨_, rfl⟩
              rw [hx] at c2 HTT
              rw [hy] at d2 HTT
              clear hx hy hq2
              cases hT9 : thereTo (endsL s k f t) (e9 : Int) d i9
              · rw [hT9] at HTT
                by_cases hxe : x = (e9 : Int)
                · have b1 : (x == (e9 : Int)) = true := by simpa using hxe
                  by_cases hyd : y = d
                  · have b2 : (y == d) = true := by simpa using hyd
                    have HF := Lib.hid (show thereTo (endsL s k f t) (e9 : Int) d (i9 + 1) = true by rw [HTT.out, b1, b2]; rfl)
                    clear HTT hxe hyd hT9
                    go_wp2_with fail
                    go_roundw
                    case rel => exact ⟨i9 + 1, by omega, by go_num, by rw [HF.out], hb9⟩
                    case measure => simp [intOf]; omega
                  · have b2 : (y == d) = false := by simpa using hyd
                    have HF := Lib.hid (show thereTo (endsL s k f t) (e9 : Int) d (i9 + 1) = false by rw [HTT.out, b1, b2]; rfl)
                    clear HTT hxe hyd hT9
                    go_wp2_with fail
                    go_roundw
                    case rel => exact ⟨i9 + 1, by omega, by go_num, by rw [HF.out], hb9⟩
                    case measure => simp [intOf]; omega
                · have b1 : (x == (e9 : Int)) = false := by simpa using hxe
                  have HF := Lib.hid (show thereTo (endsL s k f t) (e9 : Int) d (i9 + 1) = false by rw [HTT.out, b1]; rfl)
                  clear HTT hxe hT9
                  go_wp2_with fail
                  go_roundw
                  case rel => exact ⟨i9 + 1, by omega, by go_num, by rw [HF.out], hb9⟩
                  case measure => simp [intOf]; omega
              · rw [hT9] at HTT
                have HF := Lib.hid (show thereTo (endsL s k f t) (e9 : Int) d (i9 + 1) = true by rw [HTT.out]; rfl)
                clear HTT hT9 c2 d2
                go_wp2_with fail
                go_roundw
                case rel => exact ⟨i9 + 1, by omega, by go_num, by rw [HF.out], hb9⟩
                case measure => simp [intOf]; omega
            · have hin2 : i9 = n5 := by omega
              subst hin2
              rw [HTN.out]
              have m0 := (hb9.cell (p := ⟨B, 0, none⟩) (by show B < _; omega)).trans hn0
              have m1 := (hb9.cell (p := ⟨B, 1, none⟩) (by show B < _; omega)).trans hn1
              have m2 := (hb9.cell (p := ⟨B, 2, none⟩) (by show B < _; omega)).trans hn2
              have hBr9 : B < wr.heap.size := by have := hb9.size; omega
              replace m0 := cell_regrown m0
              replace m1 := cell_regrown m1
              replace m2 := cell_regrown m2
              have j2 : (st : Int) ≤ (e9 : Int) := by omega
              have j3 : (e9 : Int) ≤ (t.size : Int) := by omega
              have j4 : (0 : Int) ≤ (st : Int) := by omega
              have hAz : (t.extract st e9).size ≤ 200 := by rw [extract_len t st e9 he]; omega
              have C1 := Lib.hid (fun W => idist_of s (t.extract st e9) f d (by omega) (by omega) HDS.out W)
              have dd : (d == d) = true := by simp
              have HBe := Lib.hid (HB5.out.trans (hb9.mono HB5.out.size))
              clear hn0 hn1 hn2 hb9
              cases hdk : decide (d ≤ k)
              · go_wp2_with fail
                refine wp_region_quiet_below (by kernel_rfl) (by kernel_rfl) ?_
                repeat (go_big_quiet_step (((go_at_call 18; with_reducible exact Calls.regrown_of (C1.out _)))))
                refine wpQuiet_nil ?_
                intro _ hw'
                obtain ⟨⟨dq, osq⟩, hw''⟩ := hw'
                subst hw''
                go_wp2
                go_ret
                exact ⟨rfl, HBe.out.trans ((below_regrown wr dq osq).mono HBe.out.size)⟩
              · go_wp2_with fail
                refine wp_region_quiet_below (by kernel_rfl) (by kernel_rfl) ?_
                repeat (go_big_quiet_step (((go_at_call 18; with_reducible exact Calls.regrown_of (C1.out _)))))
                refine wpQuiet_nil ?_
                intro _ hw'
                obtain ⟨⟨dq, osq⟩, hw''⟩ := hw'
                subst hw''
                go_wp2
                go_ret
                exact ⟨rfl, HBe.out.trans ((below_regrown wr dq osq).mono HBe.out.size)⟩
    · rw [startS_no hok] at HX HY
      simp only at HX HY
      clear hok
      go_wp2_with fail
      refine (HX.out _).mono ?_
      rintro e w3 ⟨rfl, hb3⟩
      have hn0 := (hb3.cell (p := ⟨B, 0, none⟩) (by show B < _; omega)).trans hn0
      have hn1 := (hb3.cell (p := ⟨B, 1, none⟩) (by show B < _; omega)).trans hn1
      have hn2 := (hb3.cell (p := ⟨B, 2, none⟩) (by show B < _; omega)).trans hn2
      have HB := HB.trans (hb3.mono HB.size)
      go_wp2_with fail
      refine (HY.out _).mono ?_
      rintro e w4 ⟨rfl, hb4⟩
      have HB := HB.trans (hb4.mono HB.size)
      clear hb3 hb4
      go_wp2
      go_ret
      exact ⟨rfl, HB⟩
  · have hbig : decide (1048576 < (len : Int)) = true := by simp; omega
    go_enter Try.func4, Try.ntmps4
    go_wp2_with (go_at_call 10; go_in)
    go_ret
    exact ⟨rfl, Below.refl _ _⟩
end Go.Proofs.Ytelhgpoppgpniab

/-
  FnMyersCol: the walk.
-/
import Derived.Test.YtgocfpdodbhcaaaL4Draw2
import Derived.Test.YtgocfpdodbhcaaaL4Run
import Derived.Test.YtgocfpdodbhcaaaL4ColL
import Derived.Deep.RegionHeld3
namespace Go.Proofs.Ytgocfpdodbhcaaa
open Go.RowKit
set_option linter.unusedVariables false
set_option maxRecDepth 100000
theorem bits_apart {u d : Int} (hu : 0 ≤ u) (hd : 0 ≤ d) (h : bits .and .i64 u d = 0) (j : Nat) (hj : j < 64) : ¬ (bitI u j = 1 ∧ bitI d j = 1) := by
  rw [bitI_bv hu j hj, bitI_bv hd j hj]
  rintro ⟨h1, h2⟩
  have a : (bv u).getLsbD j = true := by cases hx : (bv u).getLsbD j <;> simp [hx] at h1 ⊢
  have b : (bv d).getLsbD j = true := by cases hx : (bv d).getLsbD j <;> simp [hx] at h2 ⊢
  have e : (bv (bits .and .i64 u d)).getLsbD j = true := by rw [bv_and, BitVec.getLsbD_and, a, b]; rfl
  rw [h, bv_zero] at e
  simp at e
theorem colOk_is2 {s : ByteArray} {k : Int} {f v : Bool} {L : List Int} {a : Option Addr} {n cap : Nat} {w : World} (hs : s.size ≤ 1048576) (hn : L.length = n) (h : Ints w a L) (hlen : n ≤ 1048577) (hv : colOkB (patOk s k) s.size L = v) :
    Calls Try.prog 34 #[.agg #[.string s, .int .i64 k, .bool f], .slice a n cap] w fun e w' => e = .returned (.bool v) ∧ Below w.heap.size w w' :=
  (impl_colOk s k f L a n cap w hs hn h hlen).mono fun _ _ h2 => ⟨by rw [h2.1, hv], h2.2⟩
theorem myersNew_is2 {s : ByteArray} {k : Int} {f : Bool} {v : Value} (hs : s.size ≤ 1048576) (h : myersNewV s k = v) (w : World) :
    Calls Try.prog 48 #[.agg #[.string s, .int .i64 k, .bool f]] w fun e w' => e = .returned v ∧ Below w.heap.size w w' :=
  (impl_myersNew s k f w hs).mono fun _ _ h2 => ⟨by rw [h2.1, h], h2.2⟩
theorem col_first {s : ByteArray} {k : Int} (hp : patOk s k = true) : myColL s k (mU idI s.size) (mD idI s.size) s.size = firstColL s k := by
  obtain ⟨_, hn, _, _⟩ := (patOk_iff s k).1 hp
  have hC : Near idI s.size := near_id s.size
  have ho := state_ok hp hC
  have hid : idI s.size = (s.size : Int) := rfl
  rw [hid] at ho
  unfold myColL firstColL
  rw [ho, hp]
  exact tab_congr fun i hi => state_col hn hC i (by omega)
theorem keep5 {W W1 : World} {B G gc : Nat} {s : ByteArray} {k t : Int} {f : Bool} (hb : Below W.heap.size W W1)
    (h : W.cell? ⟨B, 0, none⟩ = some (.string s) ∧ W.cell? ⟨B, 1, none⟩ = some (.int .i64 k) ∧ W.cell? ⟨B, 2, none⟩ = some (.bool f) ∧ W.cell? ⟨G, 2, none⟩ = some (.int .i64 t) ∧ W.cell? ⟨gc, s.size, none⟩ = some (.int .i64 t)) (h1 : B < W.heap.size) (h2 : G < W.heap.size) (h3 : gc < W.heap.size) : W1.cell? ⟨B, 0, none⟩ = some (.string s) ∧ W1.cell? ⟨B, 1, none⟩ = some (.int .i64 k) ∧ W1.cell? ⟨B, 2, none⟩ = some (.bool f) ∧ W1.cell? ⟨G, 2, none⟩ = some (.int .i64 t) ∧ W1.cell? ⟨gc, s.size, none⟩ = some (.int .i64 t) := by
  obtain ⟨a0, a1, a2, b2, c0⟩ := h
  exact ⟨(hb.cell (p := ⟨B, 0, none⟩) h1).trans a0, (hb.cell (p := ⟨B, 1, none⟩) h1).trans a1, (hb.cell (p := ⟨B, 2, none⟩) h1).trans a2, (hb.cell (p := ⟨G, 2, none⟩) h2).trans b2, (hb.cell (p := ⟨gc, _, none⟩) h3).trans c0⟩
set_option maxHeartbeats 4000000 in
theorem law_FnMyersCol (a : Option Addr) (len cap : Nat) (z : List Int) (w : World) (hr : IsRow .u8 w a len cap z) :
    Calls Try.prog 8 #[.slice a len cap] w fun e w' => e = .returned (.bool true) ∧ Below w.heap.size w w' := by
  by_cases hl : len ≤ 1048576
  · have hbig : decide (1048576 < (len : Int)) = false := by simp; omega
    go_enter Try.func8, Try.ntmps8
    go_wp2_with (go_at_call 21; refine (laws_big _ _ _ _ (by omega)).mono ?_; rintro e w' ⟨rfl, rfl⟩)
    refine (drawMyersCol _ _ _ _ _ hr hl).mono ?_
    rintro e w1 ⟨s, k, f, u, d, t, rfl, hs, hk, ⟨hu, hd, ht⟩, hb1⟩
    go_wp2_with fail
    have rB := heap_alloc2_old w1 (.cells #[.string s, .int .i64 k, .bool f] 31) (.cells #[.int .i64 u, .int .i64 d, .int .i64 t] 51)
    have rG := heap_alloc2_new w1 (.cells #[.string s, .int .i64 k, .bool f] 31) (.cells #[.int .i64 u, .int .i64 d, .int .i64 t] 51)
    have HB := (hb1.alloc hb1.size (.cells #[.string s, .int .i64 k, .bool f] 31)).alloc (by have := hb1.size; simp; omega) (.cells #[.int .i64 u, .int .i64 d, .int .i64 t] 51)
    have hz : w1.heap.size + 1 < ((w1.alloc (.cells #[.string s, .int .i64 k, .bool f] 31)).alloc (.cells #[.int .i64 u, .int .i64 d, .int .i64 t] 51)).heap.size := by simp
    generalize ((w1.alloc (.cells #[.string s, .int .i64 k, .bool f] 31)).alloc (.cells #[.int .i64 u, .int .i64 d, .int .i64 t] 51)) = V at *
    obtain ⟨G, hG⟩ : ∃ G, w1.heap.size + 1 = G := ⟨_, rfl⟩
    rw [hG] at rG hz ⊢
    generalize w1.heap.size = B at *
    have hBv : B < V.heap.size := by omega
    have hs1 : s.size ≤ 1048576 := by omega
    have hll := myColL_len s k u d t
    clear hb1 hG
    refine (impl_myersCol s k f u d t _ hs1 hu hd).mono ?_
    rintro e w2 ⟨a2, n2, cap2, rfl, hL, hb2⟩
    have rB := (hb2.block B hBv).trans rB
    have rG := (hb2.block G hz).trans rG
    have HB := HB.trans (hb2.mono HB.size)
    have hBv : B < w2.heap.size := by have := hb2.size; omega
    have hGv : G < w2.heap.size := by have := hb2.size; omega
    have hln1 : n2 ≤ 1048577 := by have := hL.len; omega
    clear hb2 hz
    have b0 : w2.cell? ⟨B, 0, none⟩ = some (.string s) := by rw [cell_of_row _ _ 0 _ _ _ rB]; rfl
    have b1 : w2.cell? ⟨B, 1, none⟩ = some (.int .i64 k) := by rw [cell_of_row _ _ 1 _ _ _ rB]; rfl
    have b2 : w2.cell? ⟨B, 2, none⟩ = some (.bool f) := by rw [cell_of_row _ _ 2 _ _ _ rB]; rfl
    have e0 : w2.cell? ⟨G, 0, none⟩ = some (.int .i64 u) := by rw [cell_of_row _ _ 0 _ _ _ rG]; rfl
    have e1 : w2.cell? ⟨G, 1, none⟩ = some (.int .i64 d) := by rw [cell_of_row _ _ 1 _ _ _ rG]; rfl
    have e2 : w2.cell? ⟨G, 2, none⟩ = some (.int .i64 t) := by rw [cell_of_row _ _ 2 _ _ _ rG]; rfl
    go_wp2_with fail
    refine (spec_myersCol s k f u d t _ hs1 hu hd).mono ?_
    rintro e w3 ⟨a3, n3, cap3, rfl, hZ, hb3⟩
    have hn3 : n3 = n2 := hZ.len.symm.trans hL.len
    subst hn3
    have hL := hL.kept hb3
    have rB := (hb3.block B hBv).trans rB
    have rG := (hb3.block G hGv).trans rG
    have HB := HB.trans (hb3.mono HB.size)
    have hBv : B < w3.heap.size := by have := hb3.size; omega
    have hGv : G < w3.heap.size := by have := hb3.size; omega
    clear hb3 b0 b1 b2 e0 e1 e2
    go_wp2_with fail
    refine (laws_sameInts _ _ _ _ _ _ _ hL.len hL.ints hZ.ints hln1).mono ?_
    rintro e w4 ⟨rfl, hb4⟩
    have hL := hL.kept hb4
    have rB := (hb4.block B hBv).trans rB
    have rG := (hb4.block G hGv).trans rG
    have HB := HB.trans (hb4.mono HB.size)
    have hBv : B < w4.heap.size := by have := hb4.size; omega
    have hGv : G < w4.heap.size := by have := hb4.size; omega
    clear hb4 hZ
    have b0 : w4.cell? ⟨B, 0, none⟩ = some (.string s) := by rw [cell_of_row _ _ 0 _ _ _ rB]; rfl
    have b1 : w4.cell? ⟨B, 1, none⟩ = some (.int .i64 k) := by rw [cell_of_row _ _ 1 _ _ _ rB]; rfl
    have b2 : w4.cell? ⟨B, 2, none⟩ = some (.bool f) := by rw [cell_of_row _ _ 2 _ _ _ rB]; rfl
    have e0 : w4.cell? ⟨G, 0, none⟩ = some (.int .i64 u) := by rw [cell_of_row _ _ 0 _ _ _ rG]; rfl
    have e1 : w4.cell? ⟨G, 1, none⟩ = some (.int .i64 d) := by rw [cell_of_row _ _ 1 _ _ _ rG]; rfl
    have e2 : w4.cell? ⟨G, 2, none⟩ = some (.int .i64 t) := by rw [cell_of_row _ _ 2 _ _ _ rG]; rfl
    clear rB rG
    cases hm : myOkB s k u d t
    · have hr0 : myColL s k u d t = [] := by unfold myColL; rw [hm]; rfl
      have hn0 : n3 = 0 := by have h1 := hL.len; rw [hr0] at h1; exact h1.symm
      subst hn0
      have HL := Lib.hid hL
      clear hm hr0 hL
      go_wp2_with fail
      refine (spec_myersCol s k f u d t _ hs1 hu hd).mono ?_
      rintro e w5 ⟨a5, n5, cap5, rfl, hZ, hb5⟩
      have hn5 : n5 = 0 := hZ.len.symm.trans HL.out.len
      subst hn5
      have hL := HL.out.kept hb5
      have HB := HB.trans (hb5.mono HB.size)
      go_wp2_with fail
      refine (laws_sameInts _ _ _ _ _ _ _ hL.len hL.ints hZ.ints hln1).mono ?_
      rintro e w6 ⟨rfl, hb6⟩
      have HB := HB.trans (hb6.mono HB.size)
      go_wp2_with fail
      go_ret
      exact ⟨rfl, HB⟩
    · have hr0 : myColL s k u d t = tab (colF u d) (s.size + 1) := by unfold myColL; rw [hm]; rfl
      obtain ⟨⟨hp0, hp1, hk0, hk1⟩, hu2, hd2, hud, hC, htt⟩ := myOk_parts hm
      have hp : patOk s k = true := patOk_yes ⟨hp0, hp1, hk0, hk1⟩
      rw [hr0] at hL
      have hn2 : n3 = s.size + 1 := by have h1 := hL.len; rw [tab_length] at h1; exact h1.symm
      subst hn2
      obtain ⟨gc, rfl, hgc0, hgc1⟩ := hL.head 0 (by omega)
      have hcl := hL.cell s.size (by omega)
      rw [intAt_tab _ _ _ (by omega), htt] at hcl
      have HLI := Lib.hid hL
      have HLN := Lib.hid (tab_length (colF u d) (s.size + 1))
      have HCO := Lib.hid (show colOkB (patOk s k) s.size (tab (colF u d) (s.size + 1)) = true by rw [hp]; exact colOkB_near_tab hC)
      have HV := Lib.hid (show myersNewV s k = .agg #[.int .i64 (mU idI s.size), .int .i64 (mD idI s.size), .int .i64 s.size] from run_first (s := s) (t := s) (f := f) hp)
      have HMC := Lib.hid (col_first hp)
      have HFL := Lib.hid (show (firstColL s k).length ≤ 1048577 by unfold firstColL; rw [hp]; show (tab idI (s.size + 1)).length ≤ _; rw [tab_length]; omega)
      obtain ⟨hi0, hi1⟩ := state_i64 idI (n := s.size) (by omega)
      have HAP := fun j => Lib.hid (bits_apart hu2.1 hd2.1 hud j)
      have HNR := Lib.hid hC
      have hu0 := hu2.1
      have hd0 := hd2.1
      have hzb : (((s.size + 1 : Nat) : Int) == 0) = false := by simp; omega
      have hzn : ¬ ((s.size : Int) + 1 = 0) := by omega
      clear hm hr0 hp hu2 hd2 hud hC htt hL hll
      have hcast : (((s.size + 1 : Nat)) : Int) = (s.size : Int) + 1 := by omega
      go_wp2_with fail
      go_loopw [6] (fun i wr => ∃ j : Nat, j ≤ s.size ∧ i = .int .i64 ((j : Int) + 1) ∧ Below w4.heap.size w4 wr)
        (fun i _ => s.size + 1 - (intOf i).toNat)
      case atStart => exact ⟨0, by omega, by go_num, Below.refl _ _⟩
      case round =>
        obtain ⟨j, hj, rfl, hb⟩ := hrel
        have p0 := (hb.cell (p := ⟨B, 0, none⟩) hBv).trans b0
        have p1 := (hb.cell (p := ⟨B, 1, none⟩) hBv).trans b1
        have p2 := (hb.cell (p := ⟨B, 2, none⟩) hBv).trans b2
        have m0 := (hb.cell (p := ⟨G, 0, none⟩) hGv).trans e0
        have m1 := (hb.cell (p := ⟨G, 1, none⟩) hGv).trans e1
        have m2 := (hb.cell (p := ⟨G, 2, none⟩) hGv).trans e2
        have hcr := (hb.cell (p := ⟨gc, s.size, none⟩) hgc1).trans hcl
        by_cases hlt : j < s.size
        · have c0 := (HLI.out.kept hb).cell j (by omega)
          have c1 := (HLI.out.kept hb).cell (j + 1) (by omega)
          rw [intAt_tab _ _ _ (by omega)] at c0 c1
          have hx : colF u d (j + 1) = colF u d j + bitI u j - bitI d j := rfl
          have hy0 := HNR.out.2.1 j (by omega)
          have hy1 := near_le HNR.out j (by omega)
          have hbu := bitI_01 u j
          have hbd := bitI_01 d j
          have hap := (HAP j).out (by omega)
          have hud : 0 ≤ u / 2 ^ j := Int.ediv_nonneg hu0 (Int.pow_nonneg (by decide))
          have hdd : 0 ≤ d / 2 ^ j := Int.ediv_nonneg hd0 (Int.pow_nonneg (by decide))
          have ut : (u / 2 ^ j).tmod 2 = (u / 2 ^ j) % 2 := Int.tmod_eq_emod_of_nonneg hud
          have dt : (d / 2 ^ j).tmod 2 = (d / 2 ^ j) % 2 := Int.tmod_eq_emod_of_nonneg hdd
          obtain ⟨bu, hbu2⟩ : ∃ bu, bitI u j = bu := ⟨_, rfl⟩
          obtain ⟨bd, hbd2⟩ : ∃ bd, bitI d j = bd := ⟨_, rfl⟩
          rw [hbu2] at hx hbu hap
          rw [hbd2] at hx hbd hap
          unfold bitI at hbu2 hbd2
          generalize colF u d (j + 1) = x at c1 hx
          generalize colF u d j = y at c0 hx hy0 hy1
          have jw : IntKind.u64.wrap (j : Int) = (j : Int) := by simp [IntKind.wrap, IntKind.bits, IntKind.signed]; omega
          have jm : min j 64 = j := by omega
          have j0 : (0 : Int) ≤ (j : Int) := by omega
          have j1 : (j : Int) < (s.size : Int) + 1 := by omega
          have j2 : j < s.size + 1 := by omega
          have j3 : j + 1 < s.size + 1 := by omega
          have k0 : (0 : Int) ≤ (j : Int) + 1 := by omega
          have k1 : (j : Int) + 1 < (s.size : Int) + 1 := by omega
          have kt : ((j : Int) + 1).toNat = j + 1 := by omega
          have jt : ((j : Int)).toNat = j := by omega
          clear b0 b1 b2 e0 e1 e2 hcl p0 p1 p2 m2 hcr hzb hzn
          have cs : (bu = 1 ∧ bd = 0 ∧ x = y + 1) ∨ (bu = 0 ∧ bd = 1 ∧ x = y - 1) ∨ (bu = 0 ∧ bd = 0 ∧ x = y) := by omega
          clear hap hx hbu hbd
          rcases cs with ⟨rfl, rfl, hxy⟩ | ⟨rfl, rfl, hxy⟩ | ⟨rfl, rfl, hxy⟩
          · have d1 : decide (y < x) = true := by simp; omega
            have d2 : decide (x < y) = false := by simp; omega
            clear hxy
            go_wp2_with fail
            go_quiet (fail)
            clear jw jm kt jt ut dt
            go_wp2
            go_roundw
            case rel => exact ⟨j + 1, by omega, by go_num, below_drewN hb _⟩
            case measure => simp [intOf]; omega
          · have d1 : decide (y < x) = false := by simp; omega
            have d2 : decide (x < y) = true := by simp; omega
            clear hxy
            go_wp2_with fail
            go_quiet (fail)
            clear jw jm kt jt ut dt
            go_wp2
            go_roundw
            case rel => exact ⟨j + 1, by omega, by go_num, below_drewN hb _⟩
            case measure => simp [intOf]; omega
          · have d1 : decide (y < x) = false := by simp; omega
            have d2 : decide (x < y) = false := by simp; omega
            clear hxy
            go_wp2_with fail
            go_quiet (fail)
            clear jw jm kt jt ut dt
            go_wp2
            go_roundw
            case rel => exact ⟨j + 1, by omega, by go_num, below_drewN hb _⟩
            case measure => simp [intOf]; omega
        · obtain rfl : j = s.size := by omega
          have hBw : B < wr.heap.size := Nat.lt_of_lt_of_le hBv hb.size
          have hGw : G < wr.heap.size := Nat.lt_of_lt_of_le hGv hb.size
          have hcw : gc < wr.heap.size := Nat.lt_of_lt_of_le hgc1 hb.size
          have hS10 : wr.drew.cell? ⟨B, 0, none⟩ = some (.string s) ∧ wr.drew.cell? ⟨B, 1, none⟩ = some (.int .i64 k) ∧ wr.drew.cell? ⟨B, 2, none⟩ = some (.bool f) ∧ wr.drew.cell? ⟨G, 2, none⟩ = some (.int .i64 t) ∧ wr.drew.cell? ⟨gc, s.size, none⟩ = some (.int .i64 t) := ⟨p0, p1, p2, m2, hcr⟩
          have HX := hb.drew
          replace hBv : B < wr.drew.heap.size := hBw
          replace hGv : G < wr.drew.heap.size := hGw
          have hcv : gc < wr.drew.heap.size := hcw
          have i0 : (0 : Int) ≤ (s.size : Int) := by omega
          have i1 : (s.size : Int) < (s.size : Int) + 1 := by omega
          have i2 : ((s.size : Int)).toNat = s.size := by omega
          have i3 : s.size < s.size + 1 := by omega
          have i4 : IntKind.i64.wrap ((s.size : Int) + 1 - 1) = (s.size : Int) := by rw [IntKind.wrap_i64]; omega
          have i5 : IntKind.i64.wrap (s.size : Int) = (s.size : Int) := by rw [IntKind.wrap_i64]; omega
          have tt : ((t : Int) == t) = true := by simp
          clear b0 b1 b2 e0 e1 e2 hcl p0 p1 p2 m0 m1 m2 hcr hzb hzn hBw hGw hcw
          go_wp2_with fail
          go_region_held3 (fun W => W.cell? ⟨B, 0, none⟩ = some (.string s) ∧ W.cell? ⟨B, 1, none⟩ = some (.int .i64 k) ∧ W.cell? ⟨B, 2, none⟩ = some (.bool f) ∧ W.cell? ⟨G, 2, none⟩ = some (.int .i64 t) ∧ W.cell? ⟨gc, s.size, none⟩ = some (.int .i64 t)) (first | with_reducible exact hS10 | with_reducible exact hS11 | with_reducible exact hS12 | with_reducible exact hS13 | with_reducible exact hS14 | with_reducible exact hS15 | go_keep)
            (first
              | (go_at_call 34; (with_reducible refine (colOk_is2 hs1 HLN.out (HLI.out.kept HX).ints hln1 HCO.out).mono ?_); rintro e w11 ⟨rfl, hb11⟩; have hS11 := keep5 hb11 hS10 hBv hGv hcv; replace HX := HX.trans (hb11.mono HX.size); have hzz := hb11.size; replace hBv := Nat.lt_of_lt_of_le hBv hzz; replace hGv := Nat.lt_of_lt_of_le hGv hzz; replace hcv := Nat.lt_of_lt_of_le hcv hzz; clear hzz)
              | (go_at_call 48; (with_reducible refine (myersNew_is2 hs1 HV.out _).mono ?_); rintro e w12 ⟨rfl, hb12⟩; have hS12 := keep5 hb12 hS11 hBv hGv hcv; replace HX := HX.trans (hb12.mono HX.size); have hzz := hb12.size; replace hBv := Nat.lt_of_lt_of_le hBv hzz; replace hGv := Nat.lt_of_lt_of_le hGv hzz; replace hcv := Nat.lt_of_lt_of_le hcv hzz; clear hzz)
              | (go_at_call 52; (with_reducible refine (impl_myersCol s k f (mU idI s.size) (mD idI s.size) s.size _ hs1 hi0 hi1).mono ?_); rintro e w13 ⟨a13, n13, cap13, rfl, hO13, hb13⟩; rw [HMC.out] at hO13; have hS13 := keep5 hb13 hS12 hBv hGv hcv; replace HX := HX.trans (hb13.mono HX.size); have hzz := hb13.size; replace hBv := Nat.lt_of_lt_of_le hBv hzz; replace hGv := Nat.lt_of_lt_of_le hGv hzz; replace hcv := Nat.lt_of_lt_of_le hcv hzz; clear hzz)
              | (go_at_call 36; (with_reducible refine (impl_firstCol s k f _ hs1).mono ?_); rintro e w14 ⟨a14, n14, cap14, rfl, hO14, hb14⟩; replace hO13 := hO13.kept hb14; have hn14 : n14 = n13 := hO14.len.symm.trans hO13.len; subst hn14; have hn15 : n14 ≤ 1048577 := (by have h1 := hO14.len; have h2 := HFL.out; omega); have hS14 := keep5 hb14 hS13 hBv hGv hcv; replace HX := HX.trans (hb14.mono HX.size); have hzz := hb14.size; replace hBv := Nat.lt_of_lt_of_le hBv hzz; replace hGv := Nat.lt_of_lt_of_le hGv hzz; replace hcv := Nat.lt_of_lt_of_le hcv hzz; clear hzz)
              | (go_at_call 32; (with_reducible refine (laws_sameInts _ _ _ _ _ _ _ hO13.len hO13.ints hO14.ints hn15).mono ?_); rintro e w15 ⟨rfl, hb15⟩; have hS15 := keep5 hb15 hS14 hBv hGv hcv; replace HX := HX.trans (hb15.mono HX.size); have hzz := hb15.size; replace hBv := Nat.lt_of_lt_of_le hBv hzz; replace hGv := Nat.lt_of_lt_of_le hGv hzz; replace hcv := Nat.lt_of_lt_of_le hcv hzz; clear hzz))
          clear i4 i5 i2
          go_wp2_with fail
          go_ret
          exact ⟨rfl, HB.trans (HX.mono HB.size)⟩
  · have hbig : decide (1048576 < (len : Int)) = true := by simp; omega
    go_enter Try.func8, Try.ntmps8
    go_wp2_with (go_at_call 21; go_in)
    go_ret
    exact ⟨rfl, Below.refl _ _⟩
end Go.Proofs.Ytgocfpdodbhcaaa

/-
  FnAlways: the walk.
-/
import Derived.Test.YtgocfpdodbhcaaaL8Always
import Derived.Test.YtgocfpdodbhcaaaL4Run
import Derived.Test.YtgocfpdodbhcaaaFoldedEnds
import Derived.Test.YtgocfpdodbhcaaaEnds
import Derived.Deep.RegionHeld3
import Derived.Deep.Cut
namespace Go.Proofs.Ytgocfpdodbhcaaa
open Go.RowKit
set_option linter.unusedVariables false
set_option maxRecDepth 100000
theorem endN_all {d : Nat → Int} {K : Int} : ∀ m, (∀ i, i < m → d i ≤ K) → endN d K m = m := by
  intro m
  induction m with
  | zero => intro _; rfl
  | succ m ih => intro h; simp only [endN]; rw [if_pos (h m (by omega)), ih fun i hi => h i (by omega)]
theorem all_ends {d : Nat → Int} {K : Int} {m : Nat} (h : ∀ i, i < m → d i ≤ K) (i : Nat) (hi : i < m) : intAt (endF d K m) (i * 2) = i ∧ intAt (endF d K m) (i * 2 + 1) = d i := by
  have h2 := (endF_at d K i (h i hi) m hi).2
  rw [endN_all i fun j hj => h j (by omega)] at h2
  exact h2
theorem always_is {s : ByteArray} {k : Int} {f v : Bool} (hs : s.size ≤ 1048576) (h : alwaysB s k = v) (w : World) :
    Calls Try.prog 101 #[.agg #[.string s, .int .i64 k, .bool f]] w fun e w' => e = .returned (.bool v) ∧ Below w.heap.size w w' :=
  (impl_always s k f w hs).mono fun _ _ h2 => ⟨by rw [h2.1, h], h2.2⟩
theorem always_is' {s : ByteArray} {k : Int} {f v : Bool} (hs : s.size ≤ 1048576) (h : alwaysB s k = v) (w : World) :
    Calls Try.prog 102 #[.agg #[.string s, .int .i64 k, .bool f]] w fun e w' => e = .returned (.bool v) ∧ Below w.heap.size w w' :=
  (spec_always s k f w hs).mono fun _ _ h2 => ⟨by rw [h2.1, h], h2.2⟩
theorem patOk_is' {s : ByteArray} {k : Int} {f v : Bool} (hs : s.size ≤ 1048576) (h : patOk s k = v) (w : World) :
    Calls Try.prog 38 #[.agg #[.string s, .int .i64 k, .bool f]] w fun e w' => e = .returned (.bool v) ∧ Below w.heap.size w w' :=
  (spec_patternOk s k f w (by omega)).mono fun _ _ h2 => ⟨by rw [h2.1, h], h2.2⟩
theorem keep3 {W W1 : World} {B : Nat} {s : ByteArray} {k : Int} {f : Bool} (hb : Below W.heap.size W W1)
    (h : W.cell? ⟨B, 0, none⟩ = some (.string s) ∧ W.cell? ⟨B, 1, none⟩ = some (.int .i64 k) ∧ W.cell? ⟨B, 2, none⟩ = some (.bool f)) (hB : B < W.heap.size) :
    W1.cell? ⟨B, 0, none⟩ = some (.string s) ∧ W1.cell? ⟨B, 1, none⟩ = some (.int .i64 k) ∧ W1.cell? ⟨B, 2, none⟩ = some (.bool f) :=
  ⟨(hb.cell (p := ⟨B, 0, none⟩) hB).trans h.1, (hb.cell (p := ⟨B, 1, none⟩) hB).trans h.2.1, (hb.cell (p := ⟨B, 2, none⟩) hB).trans h.2.2⟩
set_option maxHeartbeats 4000000 in
theorem law_FnAlways (a : Option Addr) (len cap : Nat) (z : List Int) (w : World) (hr : IsRow .u8 w a len cap z) :
    Calls Try.prog 20 #[.slice a len cap] w fun e w' => e = .returned (.bool true) ∧ Below w.heap.size w w' := by
  by_cases hl : len ≤ 1048576
  · have hbig : decide (1048576 < (len : Int)) = false := by simp; omega
    go_enter Try.func20, Try.ntmps20
    go_wp2_with (go_at_call 21; refine (laws_big _ _ _ _ (by omega)).mono ?_; rintro e w' ⟨rfl, rfl⟩)
    refine (drawEndsOf _ _ _ _ _ hr hl).mono ?_
    rintro e w1 ⟨s0, k, f, t, rfl, hs0, hk, ht, hb1⟩
    go_upto_if 17 with (fail)
    have x0 := heap_alloc_new w1 (.cells #[.string s0, .int .i64 k, .bool f] 31)
    have HB := hb1.alloc hb1.size (.cells #[.string s0, .int .i64 k, .bool f] 31)
    have hBl : w1.heap.size < (w1.alloc (.cells #[.string s0, .int .i64 k, .bool f] 31)).heap.size := by simp
    have hBw : w.heap.size ≤ w1.heap.size := hb1.size
    generalize (w1.alloc (.cells #[.string s0, .int .i64 k, .bool f] 31)) = V at *
    generalize w1.heap.size = B at *
    clear hb1
    go_cut [3] from 18 (fun x wr => ∃ s : ByteArray, x = .pointer (some ⟨B, 0, none⟩) ∧ s.size ≤ 4 ∧ wr.heap[B]? = some (.cells #[.string s, .int .i64 k, .bool f] 31 (0, 0)) ∧ Below w.heap.size w wr ∧ B < wr.heap.size)
    case first =>
      by_cases h4 : s0.size ≤ 4
      · have h4b : decide ((4 : Int) < (s0.size : Int)) = false := by simp; omega
        go_wp2_with fail
        go_meet
        case rel => exact ⟨s0, rfl, h4, x0, HB, hBl⟩
      · have h4b : decide ((4 : Int) < (s0.size : Int)) = true := by simp; omega
        have n0 : V.cell? ⟨B, 0, none⟩ = some (.string s0) := by rw [cell_of_row _ _ 0 _ _ _ x0]; rfl
        have g0 := frozen_of_row _ _ 0 _ _ x0
        obtain ⟨q, hq⟩ : ∃ q, len % 4 = q := ⟨_, rfl⟩
        have hq4 : q < 4 := by omega
        have hq2 : ((len : Int) % 4) = (q : Int) := by rw [← hq]; simp
        have hq3 : (1 : Int) + (q : Int) ≤ (s0.size : Int) := by omega
        have hqn : ((1 : Int) + (q : Int)).toNat = 1 + q := by omega
        have hz1 : (s0.extract 0 (1 + q)).size ≤ 4 := by rw [ByteArray.size_extract]; omega
        have HX := Lib.hid (heap_setCell_mark V B 0 _ _ _ (.string (s0.extract 0 (1 + q))) x0)
        have HBs := Lib.hid (HB.setCell (p := ⟨B, 0, none⟩) hBw (.string (s0.extract 0 (1 + q))))
        clear hq x0
        go_wp2_with fail
        go_meet
        case rel => exact ⟨s0.extract 0 (1 + q), rfl, hz1, HX.out, HBs.out, by simpa [World.setCell] using hBl⟩
    case rest =>
      obtain ⟨s, rfl, hs, y0, HB5, hB5⟩ := hcut
      clear x0 HB hBl
      generalize wc = V5 at *
      have n0 : V5.cell? ⟨B, 0, none⟩ = some (.string s) := by rw [cell_of_row _ _ 0 _ _ _ y0]; rfl
      have n1 : V5.cell? ⟨B, 1, none⟩ = some (.int .i64 k) := by rw [cell_of_row _ _ 1 _ _ _ y0]; rfl
      have g1 := frozen_of_row _ _ 1 _ _ y0
      have HX := Lib.hid (heap_setCell_mark V5 B 1 _ _ _ (.int .i64 s.size) y0)
      have n2 : V5.cell? ⟨B, 2, none⟩ = some (.bool f) := by rw [cell_of_row _ _ 2 _ _ _ y0]; rfl
      replace HB5 := HB5.setCell (p := ⟨B, 1, none⟩) hBw (.int .i64 s.size)
      have hBv : B < (V5.setCell ⟨B, 1, none⟩ (.int .i64 s.size)).heap.size := by simpa [World.setCell] using hB5
      have hs1 : s.size ≤ 1048576 := by omega
      have ht1 : t.size ≤ 1048576 := by omega
      clear y0
      go_wp2_with fail
      have x0 := HX.out
      clear n0 n1 n2 g1 HX
      generalize V5.setCell ⟨B, 1, none⟩ (.int .i64 s.size) = V6 at *
      have hS6 : V6.cell? ⟨B, 0, none⟩ = some (.string s) ∧ V6.cell? ⟨B, 1, none⟩ = some (.int .i64 s.size) ∧ V6.cell? ⟨B, 2, none⟩ = some (.bool f) :=
        ⟨by rw [cell_of_row _ _ 0 _ _ _ x0]; rfl, by rw [cell_of_row _ _ 1 _ _ _ x0]; rfl, by rw [cell_of_row _ _ 2 _ _ _ x0]; rfl⟩
      clear x0
      refine (impl_endsOf s s.size f t _ hs1 ht1).mono ?_
      rintro e w7 ⟨a3, n3, cap3, rfl, hL, hb7⟩
      have hS7 := keep3 hb7 hS6 hBv
      replace HB5 := HB5.trans (hb7.mono HB5.size)
      replace hBv := Nat.lt_of_lt_of_le hBv hb7.size
      have hbd := (Below.refl w7.heap.size w7).drew
      have hln := endsL_len s s.size f t
      have hn : n3 ≤ 201 := by have := hL.len; omega
      have hln2 : n3 ≤ 1048577 := by omega
      have HZN := Lib.hid (show ∀ m : Nat, (endsL s s.size f t).length = m * 2 → m = n3 from fun m h => by have h2 := hL.len; omega)
      clear hb7 hS6
      have hL9 := hL.len
      replace hL := hL.kept hbd
      replace HB5 := HB5.drew
      have hS10 : w7.drew.cell? ⟨B, 0, none⟩ = some (.string s) ∧ w7.drew.cell? ⟨B, 1, none⟩ = some (.int .i64 s.size) ∧ w7.drew.cell? ⟨B, 2, none⟩ = some (.bool f) := hS7
      have hBv : B < w7.drew.heap.size := hBv
      clear hbd hS7
      cases hp : patOk s s.size
      · have HP := Lib.hid hp
        have HA := Lib.hid (alwaysB_no hp)
        clear hp hL9
        go_wp2_with fail
        go_region_held3 (fun W => W.cell? ⟨B, 0, none⟩ = some (.string s) ∧ W.cell? ⟨B, 1, none⟩ = some (.int .i64 s.size) ∧ W.cell? ⟨B, 2, none⟩ = some (.bool f)) (first | with_reducible exact hS10 | with_reducible exact hS11 | with_reducible exact hS12 | with_reducible exact hS13 | with_reducible exact hS14 | with_reducible exact hS15 | go_keep)
          (first | (go_at_call 42; (with_reducible refine (spec_endsOf s s.size f t _ hs1 ht1).mono ?_); rintro e w11 ⟨aZ, nZ, capZ, rfl, hZ, hb11⟩; have hnZ : nZ = n3 := HZN.out _ hZ.len; subst hnZ; have hS11 := keep3 hb11 hS10 hBv; replace hL := hL.kept hb11; replace HB5 := HB5.trans (hb11.mono HB5.size); replace hBv := Nat.lt_of_lt_of_le hBv hb11.size) | (go_at_call 41; (with_reducible refine (laws_sameEnds _ _ _ _ _ _ _ hL.len hL.ints hZ.ints hln2).mono ?_); rintro e w12 ⟨rfl, hb12⟩; have hS12 := keep3 hb12 hS11 hBv; replace hL := hL.kept hb12; replace HB5 := HB5.trans (hb12.mono HB5.size); replace hBv := Nat.lt_of_lt_of_le hBv hb12.size) | (go_at_call 101; (with_reducible refine (always_is hs1 HA.out _).mono ?_); rintro e w13 ⟨rfl, hb13⟩; have hS13 := keep3 hb13 hS12 hBv; replace hL := hL.kept hb13; replace HB5 := HB5.trans (hb13.mono HB5.size); replace hBv := Nat.lt_of_lt_of_le hBv hb13.size) | (go_at_call 102; (with_reducible refine (always_is' hs1 HA.out _).mono ?_); rintro e w14 ⟨rfl, hb14⟩; have hS14 := keep3 hb14 hS13 hBv; replace hL := hL.kept hb14; replace HB5 := HB5.trans (hb14.mono HB5.size); replace hBv := Nat.lt_of_lt_of_le hBv hb14.size) | (go_at_call 38; (with_reducible refine (patOk_is' hs1 HP.out _).mono ?_); rintro e w15 ⟨rfl, hb15⟩; have hS15 := keep3 hb15 hS14 hBv; replace hL := hL.kept hb15; replace HB5 := HB5.trans (hb15.mono HB5.size); replace hBv := Nat.lt_of_lt_of_le hBv hb15.size))
        go_wp2_with fail
        have hbd2 := (Below.refl w15.heap.size w15).drew
        replace hL := hL.kept hbd2
        replace HB5 := HB5.drew
        have hS20 : w15.drew.cell? ⟨B, 0, none⟩ = some (.string s) ∧ w15.drew.cell? ⟨B, 1, none⟩ = some (.int .i64 s.size) ∧ w15.drew.cell? ⟨B, 2, none⟩ = some (.bool f) := hS15
        have hBv : B < w15.drew.heap.size := hBv
        clear hZ hS10 hS11 hS12 hS13 hS14 hS15 hb11 hb12 hb13 hb14 hb15
        have HZN := Lib.hid (show ∀ m : Nat, (endsL s s.size f t).length = m * 2 → m = nZ from fun m h => by have h2 := hL.len; omega)
        go_region_held3 (fun W => W.cell? ⟨B, 0, none⟩ = some (.string s) ∧ W.cell? ⟨B, 1, none⟩ = some (.int .i64 s.size) ∧ W.cell? ⟨B, 2, none⟩ = some (.bool f)) (first | with_reducible exact hS20 | with_reducible exact hS21 | with_reducible exact hS22 | with_reducible exact hS23 | with_reducible exact hS24 | go_keep)
          (first | (go_at_call 42; (with_reducible refine (spec_endsOf s s.size f t _ hs1 ht1).mono ?_); rintro e w21 ⟨aY, nY, capY, rfl, hY, hb21⟩; have hnY : nY = nZ := HZN.out _ hY.len; subst hnY; have hS21 := keep3 hb21 hS20 hBv; replace hL := hL.kept hb21; replace HB5 := HB5.trans (hb21.mono HB5.size); replace hBv := Nat.lt_of_lt_of_le hBv hb21.size) | (go_at_call 41; (with_reducible refine (laws_sameEnds _ _ _ _ _ _ _ hL.len hL.ints hY.ints hln2).mono ?_); rintro e w22 ⟨rfl, hb22⟩; have hS22 := keep3 hb22 hS21 hBv; replace hL := hL.kept hb22; replace HB5 := HB5.trans (hb22.mono HB5.size); replace hBv := Nat.lt_of_lt_of_le hBv hb22.size) | (go_at_call 101; (with_reducible refine (always_is hs1 HA.out _).mono ?_); rintro e w23 ⟨rfl, hb23⟩; have hS23 := keep3 hb23 hS22 hBv; replace hL := hL.kept hb23; replace HB5 := HB5.trans (hb23.mono HB5.size); replace hBv := Nat.lt_of_lt_of_le hBv hb23.size) | (go_at_call 102; (with_reducible refine (always_is' hs1 HA.out _).mono ?_); rintro e w24 ⟨rfl, hb24⟩; have hS24 := keep3 hb24 hS23 hBv; replace hL := hL.kept hb24; replace HB5 := HB5.trans (hb24.mono HB5.size); replace hBv := Nat.lt_of_lt_of_le hBv hb24.size))
        go_wp2_with fail
        go_ret
        exact ⟨rfl, HB5⟩
      · have HP := Lib.hid hp
        have HA := Lib.hid (alwaysB_yes hp (Int.le_refl _))
        have hD : ∀ i, i < t.size + 1 → lastD s t f i ≤ (s.size : Int) := fun i hi => near_le (colT_near s t f i (by omega)) s.size (Nat.le_refl _)
        have hD0 : lastD s t f 0 = (s.size : Int) := rfl
        have hE := ends_all (f := f) (r := t) hp (by omega)
        have hAll := all_ends hD
        have hnl : (endsL s s.size f t).length = (t.size + 1) * 2 := by rw [hE, endF_length, endN_all _ hD]
        rw [← hE] at hAll
        have hn9 : n3 = t.size + 1 := by omega
        have HN9 := Lib.hid hn9
        have HNL := Lib.hid hnl
        have HALL := fun i => Lib.hid (hAll i)
        have HDD := fun i => Lib.hid (hD i)
        have HD0 := Lib.hid hD0
        clear hp hL9 hD hD0 hE hAll hnl hn9
        go_wp2_with fail
        go_region_held3 (fun W => W.cell? ⟨B, 0, none⟩ = some (.string s) ∧ W.cell? ⟨B, 1, none⟩ = some (.int .i64 s.size) ∧ W.cell? ⟨B, 2, none⟩ = some (.bool f)) (first | with_reducible exact hS10 | with_reducible exact hS11 | with_reducible exact hS12 | with_reducible exact hS13 | with_reducible exact hS14 | with_reducible exact hS15 | go_keep)
          (first | (go_at_call 42; (with_reducible refine (spec_endsOf s s.size f t _ hs1 ht1).mono ?_); rintro e w11 ⟨aZ, nZ, capZ, rfl, hZ, hb11⟩; have hnZ : nZ = n3 := HZN.out _ hZ.len; subst hnZ; have hS11 := keep3 hb11 hS10 hBv; replace hL := hL.kept hb11; replace HB5 := HB5.trans (hb11.mono HB5.size); replace hBv := Nat.lt_of_lt_of_le hBv hb11.size) | (go_at_call 41; (with_reducible refine (laws_sameEnds _ _ _ _ _ _ _ hL.len hL.ints hZ.ints hln2).mono ?_); rintro e w12 ⟨rfl, hb12⟩; have hS12 := keep3 hb12 hS11 hBv; replace hL := hL.kept hb12; replace HB5 := HB5.trans (hb12.mono HB5.size); replace hBv := Nat.lt_of_lt_of_le hBv hb12.size) | (go_at_call 101; (with_reducible refine (always_is hs1 HA.out _).mono ?_); rintro e w13 ⟨rfl, hb13⟩; have hS13 := keep3 hb13 hS12 hBv; replace hL := hL.kept hb13; replace HB5 := HB5.trans (hb13.mono HB5.size); replace hBv := Nat.lt_of_lt_of_le hBv hb13.size) | (go_at_call 102; (with_reducible refine (always_is' hs1 HA.out _).mono ?_); rintro e w14 ⟨rfl, hb14⟩; have hS14 := keep3 hb14 hS13 hBv; replace hL := hL.kept hb14; replace HB5 := HB5.trans (hb14.mono HB5.size); replace hBv := Nat.lt_of_lt_of_le hBv hb14.size) | (go_at_call 38; (with_reducible refine (patOk_is' hs1 HP.out _).mono ?_); rintro e w15 ⟨rfl, hb15⟩; have hS15 := keep3 hb15 hS14 hBv; replace hL := hL.kept hb15; replace HB5 := HB5.trans (hb15.mono HB5.size); replace hBv := Nat.lt_of_lt_of_le hBv hb15.size))
        replace HN9 := HN9
        clear hZ hS10 hS11 hS12 hS13 hS14 hb11 hb12 hb13 hb14 hb15
        have HL := Lib.hid hL
        clear hL
        obtain ⟨k0, k1, k2⟩ := hS15
        go_wp2
        go_loopw [6] (fun i wr => ∃ j : Nat, j ≤ nZ ∧ i = .int .i64 j ∧ Below w15.heap.size w15 wr)
          (fun i _ => nZ - (intOf i).toNat)
        case atStart => exact ⟨0, by omega, rfl, Below.refl _ _⟩
        case round =>
          obtain ⟨j, hj, rfl, hb⟩ := hrel
          have p0 := (hb.cell (p := ⟨B, 0, none⟩) hBv).trans k0
          have p1 := (hb.cell (p := ⟨B, 1, none⟩) hBv).trans k1
          have p2 := (hb.cell (p := ⟨B, 2, none⟩) hBv).trans k2
          by_cases hlt : j < nZ
          · have hjt : j < t.size + 1 := by have := HN9.out; omega
            obtain ⟨b1, off1, rfl, hq1⟩ := (HL.out.ints.kept hb).at (j * 2) (by rw [HNL.out]; omega)
            have c1 := hq1 (j * 2) (by rw [HNL.out]; omega)
            have d1 := hq1 (j * 2 + 1) (by rw [HNL.out]; omega)
            rw [← Nat.add_assoc] at d1
            obtain ⟨v0, v1⟩ := (HALL j).out hjt
            have vD := (HDD j).out hjt
            rw [v0] at c1
            rw [v1] at d1
            generalize lastD s t f j = y at d1 vD
            have e1 : ((j : Int) != (j : Int)) = false := by simp
            have e2 : decide ((s.size : Int) < y) = false := by simp; omega
            have i1 : (j : Int) < (nZ : Int) := by omega
            clear hq1 v0 v1
            go_wp2_with fail
            go_quiet (fail)
            go_wp2
            go_roundw
            case rel => exact ⟨j + 1, by omega, by go_num, below_drewN hb _⟩
            case measure => simp [intOf]; omega
          · obtain rfl : j = nZ := by omega
            have hj1 : 0 < j := by have := HN9.out; omega
            obtain ⟨b1, off1, rfl, hq1⟩ := (HL.out.ints.kept hb).at 1 (by rw [HNL.out]; omega)
            have d1 := hq1 1 (by rw [HNL.out]; omega)
            have v1 := ((HALL 0).out (by omega)).2
            rw [show 0 * 2 + 1 = 1 from rfl, HD0.out] at v1
            rw [v1] at d1
            have f1 := cell_regrown d1
            have f0 := cell_regrown p0
            have f2 := cell_regrown p1
            have f3 := cell_regrown p2
            have C1 := Lib.hid (fun W => always_is (f := f) hs1 HA.out W)
            have e1 : ((j : Int) == (t.size : Int) + 1) = true := by have := HN9.out; simp; omega
            have i1 : (0 : Int) < (j : Int) := by omega
            have e2 : ((s.size : Int) == (s.size : Int)) = true := by simp
            clear hq1 v1 d1 p0 p1 p2 k0 k1 k2
            go_wp2_with fail
            refine wp_region_quiet_below (by kernel_rfl) (by kernel_rfl) ?_
            repeat (go_big_quiet_step (((go_at_call 101; with_reducible exact Calls.regrown_of (C1.out _)))))
            refine wpQuiet_nil ?_
            intro _ hw'
            obtain ⟨⟨dq, osq⟩, hw''⟩ := hw'
            subst hw''
            go_wp2
            go_ret
            exact ⟨rfl, (HB5.trans (hb.mono HB5.size)).trans ((below_regrown wr dq osq).mono (HB5.trans (hb.mono HB5.size)).size)⟩
  · have hbig : decide (1048576 < (len : Int)) = true := by simp; omega
    go_enter Try.func20, Try.ntmps20
    go_wp2_with (go_at_call 21; go_in)
    go_ret
    exact ⟨rfl, Below.refl _ _⟩
end Go.Proofs.Ytgocfpdodbhcaaa

/-
  FnCutRun: the walk.
-/
import Derived.Test.YtglldmfhjipacaaCutRunF
import Derived.Test.YtglldmfhjipacaaCutsL
import Derived.Test.YtglldmfhjipacaaL6DistS
import Derived.Deep.RegionHeld3
import Derived.Deep.Cut
import Derived.StillTailTactics
namespace Go.Proofs.Ytglldmfhjipacaa
open Go.RowKit
set_option linter.unusedVariables false
set_option maxRecDepth 100000
theorem keepCR {W W1 : World} {B1 B2 B3 B4 : Nat} {s s5 : ByteArray} {k k5 x2 xR : Int} {f f5 : Bool} {aR a2 : Option Addr} {nR n2 capR cap2 : Nat} (hb : Below W.heap.size W W1)
    (h : W.cell? ⟨B1, 0, none⟩ = some (.string s) ∧ W.cell? ⟨B1, 1, none⟩ = some (.int .i64 k) ∧ W.cell? ⟨B1, 2, none⟩ = some (.bool f) ∧ W.cell? ⟨B2, 0, none⟩ = some (.slice aR nR capR) ∧ W.cell? ⟨B2, 1, none⟩ = some (.int .i64 xR) ∧ W.cell? ⟨B3, 0, none⟩ = some (.string s5) ∧ W.cell? ⟨B3, 1, none⟩ = some (.int .i64 k5) ∧ W.cell? ⟨B3, 2, none⟩ = some (.bool f5) ∧ W.cell? ⟨B4, 0, none⟩ = some (.slice a2 n2 cap2) ∧ W.cell? ⟨B4, 1, none⟩ = some (.int .i64 x2)) (h1 : B1 < W.heap.size) (h2 : B2 < W.heap.size) (h3 : B3 < W.heap.size) (h4 : B4 < W.heap.size) : W1.cell? ⟨B1, 0, none⟩ = some (.string s) ∧ W1.cell? ⟨B1, 1, none⟩ = some (.int .i64 k) ∧ W1.cell? ⟨B1, 2, none⟩ = some (.bool f) ∧ W1.cell? ⟨B2, 0, none⟩ = some (.slice aR nR capR) ∧ W1.cell? ⟨B2, 1, none⟩ = some (.int .i64 xR) ∧ W1.cell? ⟨B3, 0, none⟩ = some (.string s5) ∧ W1.cell? ⟨B3, 1, none⟩ = some (.int .i64 k5) ∧ W1.cell? ⟨B3, 2, none⟩ = some (.bool f5) ∧ W1.cell? ⟨B4, 0, none⟩ = some (.slice a2 n2 cap2) ∧ W1.cell? ⟨B4, 1, none⟩ = some (.int .i64 x2) := by
  obtain ⟨c10, c11, c12, c20, c21, c30, c31, c32, c40, c41⟩ := h
  exact ⟨(hb.cell (p := ⟨B1, 0, none⟩) h1).trans c10, (hb.cell (p := ⟨B1, 1, none⟩) h1).trans c11, (hb.cell (p := ⟨B1, 2, none⟩) h1).trans c12, (hb.cell (p := ⟨B2, 0, none⟩) h2).trans c20, (hb.cell (p := ⟨B2, 1, none⟩) h2).trans c21, (hb.cell (p := ⟨B3, 0, none⟩) h3).trans c30, (hb.cell (p := ⟨B3, 1, none⟩) h3).trans c31, (hb.cell (p := ⟨B3, 2, none⟩) h3).trans c32, (hb.cell (p := ⟨B4, 0, none⟩) h4).trans c40, (hb.cell (p := ⟨B4, 1, none⟩) h4).trans c41⟩
theorem distI_isC {s : ByteArray} {k : Int} {f : Bool} {L : List Int} {x : Int} {a : Option Addr} {n cap : Nat} {w : World} {v : Int} (hs : s.size ≤ 1048576) (hn : L.length = n) (h : Ints w a L) (hlen : n ≤ 1048577) (hx : -9223372036854775808 ≤ x ∧ x ≤ 9223372036854775807) (hv : cutDistI s k L x = v) :
    Calls Try.prog 70 #[.agg #[.string s, .int .i64 k, .bool f], .agg #[.slice a n cap, .int .i64 x]] w fun e w' => e = .returned (.int .i64 v) ∧ Below w.heap.size w w' :=
  (impl_cutDist s k f L x a n cap w hs hn h hlen hx).mono fun _ _ h2 => ⟨by rw [h2.1, hv], h2.2⟩
theorem distS_isC {s : ByteArray} {k : Int} {f : Bool} {L : List Int} {x : Int} {a : Option Addr} {n cap : Nat} {w : World} {v : Int} (hs : s.size ≤ 1048576) (hn : L.length = n) (h : Ints w a L) (hlen : n ≤ 1048577) (hx : -9223372036854775808 ≤ x ∧ x ≤ 9223372036854775807) (hv : cutDistI s k L x = v) :
    Calls Try.prog 71 #[.agg #[.string s, .int .i64 k, .bool f], .agg #[.slice a n cap, .int .i64 x]] w fun e w' => e = .returned (.int .i64 v) ∧ Below w.heap.size w w' :=
  (spec_cutDist s k f L x a n cap w hs hn h hlen hx).mono fun _ _ h2 => ⟨by rw [h2.1, hv], h2.2⟩
theorem patS_isC {s : ByteArray} {k : Int} {f v : Bool} (hs : s.size ≤ 1048576) (h : patOk s k = v) (w : World) :
    Calls Try.prog 37 #[.agg #[.string s, .int .i64 k, .bool f]] w fun e w' => e = .returned (.bool v) ∧ Below w.heap.size w w' :=
  (spec_patternOk s k f w (by omega)).mono fun _ _ h2 => ⟨by rw [h2.1, h], h2.2⟩
theorem box3_ofC {W : World} {B : Nat} {x y v : Value} {t : TypeId} {fr : Nat × Nat} (h : W.heap[B]? = some (.cells #[x, y, v] t fr)) : W.cell? ⟨B, 0, none⟩ = some x ∧ W.cell? ⟨B, 1, none⟩ = some y ∧ W.cell? ⟨B, 2, none⟩ = some v :=
  ⟨by rw [cell_of_row _ _ 0 _ _ _ h]; rfl, by rw [cell_of_row _ _ 1 _ _ _ h]; rfl, by rw [cell_of_row _ _ 2 _ _ _ h]; rfl⟩
set_option maxHeartbeats 4000000 in
theorem law_FnCutRun (a : Option Addr) (len cap : Nat) (z : List Int) (w : World) (hr : IsRow .u8 w a len cap z) :
    Calls Try.prog 14 #[.slice a len cap] w fun e w' => e = .returned (.bool true) ∧ Below w.heap.size w w' := by
  by_cases hl : len ≤ 1048576
  · have hbig : decide (1048576 < (len : Int)) = false := by simp; omega
    go_enter Try.func14, Try.ntmps14
    go_wp2_with (go_at_call 15; refine (laws_big _ _ _ _ (by omega)).mono ?_; rintro e w' ⟨rfl, rfl⟩)
    refine (drawEndsOf _ _ _ _ _ hr hl).mono ?_
    rintro e w1 ⟨s, k, f, t, rfl, hs, hk, ht, HB⟩
    have hwB1 : w.heap.size ≤ w1.heap.size := HB.size
    go_wp2_with fail
    have r1 := heap_alloc_new w1 (.cells #[.string s, .int .i64 k, .bool f] 48)
    have hbx : Below w1.heap.size w1 (w1.alloc (.cells #[.string s, .int .i64 k, .bool f] 48)) := (Below.refl _ _).alloc (Nat.le_refl _) _
    have z1 : w1.heap.size < (w1.alloc (.cells #[.string s, .int .i64 k, .bool f] 48)).heap.size := by simp
    generalize (w1.alloc (.cells #[.string s, .int .i64 k, .bool f] 48)) = V1 at *
    replace HB := HB.trans (hbx.mono HB.size)
    clear hbx
    generalize w1.heap.size = B1 at *
    have hs1 : s.size ≤ 1048576 := by omega
    refine (impl_cutNew s k f _ hs1).mono ?_
    rintro e w2 ⟨aR, nR, capR, rfl, hR, hb2⟩
    obtain ⟨LR, hLR⟩ : ∃ L, cutNewL s k = L := ⟨_, rfl⟩
    obtain ⟨xR, hXR⟩ : ∃ x, cutNewI s k = x := ⟨_, rfl⟩
    have hRF := fine_cutNew s k hs
    rw [hLR, hXR] at hRF
    rw [hLR] at hR
    rw [hXR]
    have HXR := Lib.hid hXR; clear hXR
    have hnR21 : nR ≤ 21 := by have := hRF.1; have := hR.len; omega
    have HLR := Lib.hid hLR; have HRN := Lib.hid hR.len; have HRF := Lib.hid hRF
    have hRlt : ∀ r, (Value.slice aR nR capR).ownBlock = some r → r < w2.heap.size := fun r hr => (hR.2.lt r hr).2
    clear hLR hRF
    replace r1 := (hb2.block B1 z1).trans r1
    replace z1 := Nat.lt_of_lt_of_le z1 hb2.size
    replace HB := HB.trans (hb2.mono HB.size)
    clear hb2
    have hB12 : B1 < w2.heap.size := z1
    go_wp2_with fail
    have r2 := heap_alloc_new w2 (.cells #[.slice aR nR capR, .int .i64 xR] 79)
    have hbx : Below w2.heap.size w2 (w2.alloc (.cells #[.slice aR nR capR, .int .i64 xR] 79)) := (Below.refl _ _).alloc (Nat.le_refl _) _
    have z2 : w2.heap.size < (w2.alloc (.cells #[.slice aR nR capR, .int .i64 xR] 79)).heap.size := by simp
    generalize (w2.alloc (.cells #[.slice aR nR capR, .int .i64 xR] 79)) = V2 at *
    replace r1 := (hbx.block B1 z1).trans r1
    replace hR := hR.kept hbx
    replace z1 := Nat.lt_of_lt_of_le z1 hbx.size
    replace HB := HB.trans (hbx.mono HB.size)
    clear hbx
    generalize w2.heap.size = B2 at *
    have HRlt := Lib.hid hRlt; clear hRlt
    refine (drawCutDist _ _ _ _ _ (isRow_below hr HB) hl).mono ?_
    rintro e w4 ⟨s5, k5, f5, a2, n2, cap2, x2, rfl, hs5, hk5, ⟨M, hM, hMF⟩, hb4⟩
    have HMF := Lib.hid hMF; have HMN := Lib.hid hM.len; clear hMF
    have hn2 : n2 ≤ 21 := by have := HMF.out.1; have := HMN.out; omega
    replace r1 := (hb4.block B1 z1).trans r1
    replace r2 := (hb4.block B2 z2).trans r2
    replace hR := hR.kept hb4
    replace z1 := Nat.lt_of_lt_of_le z1 hb4.size
    replace z2 := Nat.lt_of_lt_of_le z2 hb4.size
    replace HB := HB.trans (hb4.mono HB.size)
    clear hb4
    go_wp2_with fail
    have r3 := heap_alloc2_old w4 (.cells #[.string s5, .int .i64 k5, .bool f5] 48) (.cells #[.slice a2 n2 cap2, .int .i64 x2] 79)
    have r4 := heap_alloc2_new w4 (.cells #[.string s5, .int .i64 k5, .bool f5] 48) (.cells #[.slice a2 n2 cap2, .int .i64 x2] 79)
    have hbx : Below w4.heap.size w4 ((w4.alloc (.cells #[.string s5, .int .i64 k5, .bool f5] 48)).alloc (.cells #[.slice a2 n2 cap2, .int .i64 x2] 79)) := ((Below.refl _ _).alloc (Nat.le_refl _) _).alloc (by simp) _
    have z3 : w4.heap.size < ((w4.alloc (.cells #[.string s5, .int .i64 k5, .bool f5] 48)).alloc (.cells #[.slice a2 n2 cap2, .int .i64 x2] 79)).heap.size := by simp; omega
    have z4 : w4.heap.size + 1 < ((w4.alloc (.cells #[.string s5, .int .i64 k5, .bool f5] 48)).alloc (.cells #[.slice a2 n2 cap2, .int .i64 x2] 79)).heap.size := by simp
    generalize ((w4.alloc (.cells #[.string s5, .int .i64 k5, .bool f5] 48)).alloc (.cells #[.slice a2 n2 cap2, .int .i64 x2] 79)) = V4 at *
    replace r1 := (hbx.block B1 z1).trans r1
    replace r2 := (hbx.block B2 z2).trans r2
    replace hR := hR.kept hbx
    replace hM := hM.kept hbx
    replace z1 := Nat.lt_of_lt_of_le z1 hbx.size
    replace z2 := Nat.lt_of_lt_of_le z2 hbx.size
    replace HB := HB.trans (hbx.mono HB.size)
    clear hbx
    obtain ⟨B4, hB4⟩ : ∃ G, w4.heap.size + 1 = G := ⟨_, rfl⟩
    rw [hB4] at r4 z4 ⊢
    clear hB4
    generalize w4.heap.size = B3 at *
    clear hr
    have hS0 : V4.drew.cell? ⟨B1, 0, none⟩ = some (.string s) ∧ V4.drew.cell? ⟨B1, 1, none⟩ = some (.int .i64 k) ∧ V4.drew.cell? ⟨B1, 2, none⟩ = some (.bool f) ∧ V4.drew.cell? ⟨B2, 0, none⟩ = some (.slice aR nR capR) ∧ V4.drew.cell? ⟨B2, 1, none⟩ = some (.int .i64 xR) ∧ V4.drew.cell? ⟨B3, 0, none⟩ = some (.string s5) ∧ V4.drew.cell? ⟨B3, 1, none⟩ = some (.int .i64 k5) ∧ V4.drew.cell? ⟨B3, 2, none⟩ = some (.bool f5) ∧ V4.drew.cell? ⟨B4, 0, none⟩ = some (.slice a2 n2 cap2) ∧ V4.drew.cell? ⟨B4, 1, none⟩ = some (.int .i64 x2) := ⟨by rw [cell_of_row _ _ 0 _ _ _ (show V4.drew.heap[B1]? = _ from r1)]; rfl, by rw [cell_of_row _ _ 1 _ _ _ (show V4.drew.heap[B1]? = _ from r1)]; rfl, by rw [cell_of_row _ _ 2 _ _ _ (show V4.drew.heap[B1]? = _ from r1)]; rfl, by rw [cell_of_row _ _ 0 _ _ _ (show V4.drew.heap[B2]? = _ from r2)]; rfl, by rw [cell_of_row _ _ 1 _ _ _ (show V4.drew.heap[B2]? = _ from r2)]; rfl, by rw [cell_of_row _ _ 0 _ _ _ (show V4.drew.heap[B3]? = _ from r3)]; rfl, by rw [cell_of_row _ _ 1 _ _ _ (show V4.drew.heap[B3]? = _ from r3)]; rfl, by rw [cell_of_row _ _ 2 _ _ _ (show V4.drew.heap[B3]? = _ from r3)]; rfl, by rw [cell_of_row _ _ 0 _ _ _ (show V4.drew.heap[B4]? = _ from r4)]; rfl, by rw [cell_of_row _ _ 1 _ _ _ (show V4.drew.heap[B4]? = _ from r4)]; rfl⟩
    have hbd := (Below.refl V4.heap.size V4).drew
    replace hR := hR.kept hbd
    replace hM := hM.kept hbd
    replace HB := HB.drew
    replace z1 : B1 < V4.drew.heap.size := z1
    replace z2 : B2 < V4.drew.heap.size := z2
    replace z3 : B3 < V4.drew.heap.size := z3
    replace z4 : B4 < V4.drew.heap.size := z4
    have R1 : V4.drew.heap[B1]? = some (.cells #[.string s, .int .i64 k, .bool f] 48 (0, 0)) := r1
    have R2 : V4.drew.heap[B2]? = some (.cells #[.slice aR nR capR, .int .i64 xR] 79 (0, 0)) := r2
    clear hbd r1 r2 r3 r4
    have HR1 := Lib.hid R1; have HR2 := Lib.hid R2; clear R1 R2
    have hs51 : s5.size ≤ 1048576 := by omega
    have hnR : nR ≤ 1048577 := by omega
    have hn2b : n2 ≤ 1048577 := by omega
    obtain ⟨cp, hcp⟩ : ∃ cp, patOk s k = cp := ⟨_, rfl⟩
    have HCP := Lib.hid hcp; clear hcp
    obtain ⟨D, hD⟩ : ∃ D, cutDistI s5 k5 M x2 = D := ⟨_, rfl⟩
    have HMW := Lib.hid HMF.out.2.2
    have HD := Lib.hid hD; clear hD
    have eD : (D != D) = false := by simp
    have eD2 : (D == D) = true := by simp
    go_wp2_with fail
    go_cut [46] from 28 (fun x wr => x = .bool (!cp) ∧ Below V4.drew.heap.size V4.drew wr)
    case first =>
      have hB0 := Below.refl V4.drew.heap.size V4.drew
      go_region_held3 (fun W => W.cell? ⟨B1, 0, none⟩ = some (.string s) ∧ W.cell? ⟨B1, 1, none⟩ = some (.int .i64 k) ∧ W.cell? ⟨B1, 2, none⟩ = some (.bool f) ∧ W.cell? ⟨B2, 0, none⟩ = some (.slice aR nR capR) ∧ W.cell? ⟨B2, 1, none⟩ = some (.int .i64 xR) ∧ W.cell? ⟨B3, 0, none⟩ = some (.string s5) ∧ W.cell? ⟨B3, 1, none⟩ = some (.int .i64 k5) ∧ W.cell? ⟨B3, 2, none⟩ = some (.bool f5) ∧ W.cell? ⟨B4, 0, none⟩ = some (.slice a2 n2 cap2) ∧ W.cell? ⟨B4, 1, none⟩ = some (.int .i64 x2)) (first | with_reducible exact hS0 | with_reducible exact hS1 | with_reducible exact hS2 | with_reducible exact hS3 | with_reducible exact hS4 | with_reducible exact hS5 | go_keep)
        (first
          | (go_at_call 66; (with_reducible refine (spec_cutNew s k f _ hs1).mono ?_); rintro e w15 ⟨a15, n15, cap15, rfl, hO15, hb15⟩; rw [HLR.out] at hO15; rw [HXR.out]; have hn15 : n15 = nR := hO15.len.symm.trans HRN.out; subst hn15; have hS1 := keepCR hb15 hS0 z1 z2 z3 z4; replace hR := hR.kept hb15; replace hM := hM.kept hb15; replace hB0 := hB0.trans (hb15.mono hB0.size); have hzz := hb15.size; replace z1 : B1 < w15.heap.size := Nat.lt_of_lt_of_le z1 hzz; replace z2 : B2 < w15.heap.size := Nat.lt_of_lt_of_le z2 hzz; replace z3 : B3 < w15.heap.size := Nat.lt_of_lt_of_le z3 hzz; replace z4 : B4 < w15.heap.size := Nat.lt_of_lt_of_le z4 hzz; clear hzz)
          | (go_at_call 63; (with_reducible refine (laws_sameCut LR xR _ _ n15 _ _ _ HRN.out hR.ints hO15.ints hnR).mono ?_); rintro e w16 ⟨rfl, hb16⟩; have hS2 := keepCR hb16 hS1 z1 z2 z3 z4; replace hR := hR.kept hb16; replace hM := hM.kept hb16; replace hB0 := hB0.trans (hb16.mono hB0.size); have hzz := hb16.size; replace z1 : B1 < w16.heap.size := Nat.lt_of_lt_of_le z1 hzz; replace z2 : B2 < w16.heap.size := Nat.lt_of_lt_of_le z2 hzz; replace z3 : B3 < w16.heap.size := Nat.lt_of_lt_of_le z3 hzz; replace z4 : B4 < w16.heap.size := Nat.lt_of_lt_of_le z4 hzz; clear hzz)
          | (go_at_call 70; (with_reducible refine (distI_isC hs51 HMN.out hM.ints hn2b HMW.out HD.out).mono ?_); rintro e w17 ⟨rfl, hb17⟩; have hS3 := keepCR hb17 hS2 z1 z2 z3 z4; replace hR := hR.kept hb17; replace hM := hM.kept hb17; replace hB0 := hB0.trans (hb17.mono hB0.size); have hzz := hb17.size; replace z1 : B1 < w17.heap.size := Nat.lt_of_lt_of_le z1 hzz; replace z2 : B2 < w17.heap.size := Nat.lt_of_lt_of_le z2 hzz; replace z3 : B3 < w17.heap.size := Nat.lt_of_lt_of_le z3 hzz; replace z4 : B4 < w17.heap.size := Nat.lt_of_lt_of_le z4 hzz; clear hzz)
          | (go_at_call 71; (with_reducible refine (distS_isC hs51 HMN.out hM.ints hn2b HMW.out HD.out).mono ?_); rintro e w18 ⟨rfl, hb18⟩; have hS4 := keepCR hb18 hS3 z1 z2 z3 z4; replace hR := hR.kept hb18; replace hM := hM.kept hb18; replace hB0 := hB0.trans (hb18.mono hB0.size); have hzz := hb18.size; replace z1 : B1 < w18.heap.size := Nat.lt_of_lt_of_le z1 hzz; replace z2 : B2 < w18.heap.size := Nat.lt_of_lt_of_le z2 hzz; replace z3 : B3 < w18.heap.size := Nat.lt_of_lt_of_le z3 hzz; replace z4 : B4 < w18.heap.size := Nat.lt_of_lt_of_le z4 hzz; clear hzz)
          | (go_at_call 37; (with_reducible refine (patS_isC hs1 HCP.out _).mono ?_); rintro e w19 ⟨rfl, hb19⟩; have hS5 := keepCR hb19 hS4 z1 z2 z3 z4; replace hR := hR.kept hb19; replace hM := hM.kept hb19; replace hB0 := hB0.trans (hb19.mono hB0.size); have hzz := hb19.size; replace z1 : B1 < w19.heap.size := Nat.lt_of_lt_of_le z1 hzz; replace z2 : B2 < w19.heap.size := Nat.lt_of_lt_of_le z2 hzz; replace z3 : B3 < w19.heap.size := Nat.lt_of_lt_of_le z3 hzz; replace z4 : B4 < w19.heap.size := Nat.lt_of_lt_of_le z4 hzz; clear hzz))
      go_wp2_with fail
      go_meet
      case rel => exact ⟨rfl, hB0⟩
    case rest =>
      obtain ⟨rfl, hB7⟩ := hcut
      replace hS0 := keepCR hB7 hS0 z1 z2 z3 z4
      replace hR := hR.kept hB7
      replace hM := hM.kept hB7
      replace HB := HB.trans (hB7.mono HB.size)
      have r1 := (hB7.block B1 z1).trans HR1.out
      have r2 := (hB7.block B2 z2).trans HR2.out
      replace z1 := Nat.lt_of_lt_of_le z1 hB7.size
      replace z2 := Nat.lt_of_lt_of_le z2 hB7.size
      replace z3 := Nat.lt_of_lt_of_le z3 hB7.size
      replace z4 := Nat.lt_of_lt_of_le z4 hB7.size
      clear hB7 HR1 HR2
      generalize wc = W5 at *
      cases cp
      · clear r1 r2
        replace hS0 : W5.drew.cell? ⟨B1, 0, none⟩ = some (.string s) ∧ W5.drew.cell? ⟨B1, 1, none⟩ = some (.int .i64 k) ∧ W5.drew.cell? ⟨B1, 2, none⟩ = some (.bool f) ∧ W5.drew.cell? ⟨B2, 0, none⟩ = some (.slice aR nR capR) ∧ W5.drew.cell? ⟨B2, 1, none⟩ = some (.int .i64 xR) ∧ W5.drew.cell? ⟨B3, 0, none⟩ = some (.string s5) ∧ W5.drew.cell? ⟨B3, 1, none⟩ = some (.int .i64 k5) ∧ W5.drew.cell? ⟨B3, 2, none⟩ = some (.bool f5) ∧ W5.drew.cell? ⟨B4, 0, none⟩ = some (.slice a2 n2 cap2) ∧ W5.drew.cell? ⟨B4, 1, none⟩ = some (.int .i64 x2) := hS0
        have hbd := (Below.refl W5.heap.size W5).drew
        replace hR := hR.kept hbd
        replace hM := hM.kept hbd
        replace HB := HB.drew
        replace z1 : B1 < W5.drew.heap.size := z1
        replace z2 : B2 < W5.drew.heap.size := z2
        replace z3 : B3 < W5.drew.heap.size := z3
        replace z4 : B4 < W5.drew.heap.size := z4
        go_wp2_with fail
        go_cut [2] from 47 (fun x wr => x = .bool true ∧ Below W5.drew.heap.size W5.drew wr)
        case first =>
          have hB0 := Below.refl W5.drew.heap.size W5.drew
          go_region_held3 (fun W => W.cell? ⟨B1, 0, none⟩ = some (.string s) ∧ W.cell? ⟨B1, 1, none⟩ = some (.int .i64 k) ∧ W.cell? ⟨B1, 2, none⟩ = some (.bool f) ∧ W.cell? ⟨B2, 0, none⟩ = some (.slice aR nR capR) ∧ W.cell? ⟨B2, 1, none⟩ = some (.int .i64 xR) ∧ W.cell? ⟨B3, 0, none⟩ = some (.string s5) ∧ W.cell? ⟨B3, 1, none⟩ = some (.int .i64 k5) ∧ W.cell? ⟨B3, 2, none⟩ = some (.bool f5) ∧ W.cell? ⟨B4, 0, none⟩ = some (.slice a2 n2 cap2) ∧ W.cell? ⟨B4, 1, none⟩ = some (.int .i64 x2)) (first | with_reducible exact hS0 | with_reducible exact hS1 | with_reducible exact hS2 | with_reducible exact hS3 | with_reducible exact hS4 | go_keep)
            (first
              | (go_at_call 66; (with_reducible refine (spec_cutNew s k f _ hs1).mono ?_); rintro e w15 ⟨a15, n15, cap15, rfl, hO15, hb15⟩; rw [HLR.out] at hO15; rw [HXR.out]; have hn15 : n15 = nR := hO15.len.symm.trans HRN.out; subst hn15; have hS1 := keepCR hb15 hS0 z1 z2 z3 z4; replace hR := hR.kept hb15; replace hM := hM.kept hb15; replace hB0 := hB0.trans (hb15.mono hB0.size); have hzz := hb15.size; replace z1 : B1 < w15.heap.size := Nat.lt_of_lt_of_le z1 hzz; replace z2 : B2 < w15.heap.size := Nat.lt_of_lt_of_le z2 hzz; replace z3 : B3 < w15.heap.size := Nat.lt_of_lt_of_le z3 hzz; replace z4 : B4 < w15.heap.size := Nat.lt_of_lt_of_le z4 hzz; clear hzz)
              | (go_at_call 63; (with_reducible refine (laws_sameCut LR xR _ _ n15 _ _ _ HRN.out hR.ints hO15.ints hnR).mono ?_); rintro e w16 ⟨rfl, hb16⟩; have hS2 := keepCR hb16 hS1 z1 z2 z3 z4; replace hR := hR.kept hb16; replace hM := hM.kept hb16; replace hB0 := hB0.trans (hb16.mono hB0.size); have hzz := hb16.size; replace z1 : B1 < w16.heap.size := Nat.lt_of_lt_of_le z1 hzz; replace z2 : B2 < w16.heap.size := Nat.lt_of_lt_of_le z2 hzz; replace z3 : B3 < w16.heap.size := Nat.lt_of_lt_of_le z3 hzz; replace z4 : B4 < w16.heap.size := Nat.lt_of_lt_of_le z4 hzz; clear hzz)
              | (go_at_call 70; (with_reducible refine (distI_isC hs51 HMN.out hM.ints hn2b HMW.out HD.out).mono ?_); rintro e w17 ⟨rfl, hb17⟩; have hS3 := keepCR hb17 hS2 z1 z2 z3 z4; replace hR := hR.kept hb17; replace hM := hM.kept hb17; replace hB0 := hB0.trans (hb17.mono hB0.size); have hzz := hb17.size; replace z1 : B1 < w17.heap.size := Nat.lt_of_lt_of_le z1 hzz; replace z2 : B2 < w17.heap.size := Nat.lt_of_lt_of_le z2 hzz; replace z3 : B3 < w17.heap.size := Nat.lt_of_lt_of_le z3 hzz; replace z4 : B4 < w17.heap.size := Nat.lt_of_lt_of_le z4 hzz; clear hzz)
              | (go_at_call 71; (with_reducible refine (distS_isC hs51 HMN.out hM.ints hn2b HMW.out HD.out).mono ?_); rintro e w18 ⟨rfl, hb18⟩; have hS4 := keepCR hb18 hS3 z1 z2 z3 z4; replace hR := hR.kept hb18; replace hM := hM.kept hb18; replace hB0 := hB0.trans (hb18.mono hB0.size); have hzz := hb18.size; replace z1 : B1 < w18.heap.size := Nat.lt_of_lt_of_le z1 hzz; replace z2 : B2 < w18.heap.size := Nat.lt_of_lt_of_le z2 hzz; replace z3 : B3 < w18.heap.size := Nat.lt_of_lt_of_le z3 hzz; replace z4 : B4 < w18.heap.size := Nat.lt_of_lt_of_le z4 hzz; clear hzz))
          go_wp2_with fail
          go_meet
          case rel => exact ⟨rfl, hB0⟩
        case rest =>
          obtain ⟨rfl, hB7⟩ := hcut
          go_wp2_with fail
          go_ret
          exact ⟨rfl, HB.trans (hB7.mono HB.size)⟩
      · obtain ⟨hp0, hp1, hk0, hk4⟩ := (patOk_iff s k).1 HCP.out
        obtain ⟨K, rfl⟩ := Int.eq_ofNat_of_zero_le hk0
        have hRL := HLR.out.symm.trans (cutQ_first (t := t) (f := f) HCP.out).1
        have hXL := HXR.out.symm.trans (cutQ_first (t := t) (f := f) HCP.out).2
        obtain ⟨l0, hl0⟩ : ∃ l, lastLe (colQ s t f 0) (K : Int) (s.size + 1) = l := ⟨_, rfl⟩
        have hnK : nR = l0 + 1 := by have h1 := HRN.out; rw [hRL, cutL_len, hl0] at h1; exact h1.symm
        rw [hl0] at hXL
        have Hl0 := Lib.hid hl0; clear hl0
        subst hRL hXL hnK
        clear HXR
        obtain ⟨c10, c11, c12, _⟩ := hS0
        clear hM HMF HMN hn2 HMW HD eD eD2 hs51 hn2b z3 z4 HLR HRF
        go_wp2_with fail
        refine (impl_firstCol s K f _ hs1).mono ?_
        rintro e w8 ⟨aC, nC, capC, rfl, hC, hb8⟩
        rw [colQ_first (t := t) (f := f) HCP.out] at hC
        obtain rfl : nC = s.size + 1 := by have h1 := hC.len; rw [tab_length] at h1; exact h1.symm
        replace r1 := (hb8.block B1 z1).trans r1
        replace r2 := (hb8.block B2 z2).trans r2
        replace hR := hR.kept hb8
        have hlo1 : B1 < W5.heap.size := z1
        have hlo2 : B2 < W5.heap.size := z2
        have hlo : W5.heap.size ≤ w8.heap.size := hb8.size
        replace HB := HB.trans (hb8.mono HB.size)
        generalize W5.heap.size = lo at *
        clear hb8 c10 c11 c12 z1 z2
        obtain ⟨d10, d11, d12⟩ := box3_ofC r1
        go_wp2_with fail
        clear d10 d11 d12
        have HRlt2 := Lib.hid (show ∀ r, (Value.slice aR (l0 + 1) capR).ownBlock = some r → r ≠ B2 from fun r hr => by have := HRlt.out r hr; omega)
        have HR := Lib.hid (hR.mono (C := 0) (by omega)); have HC := Lib.hid hC
        have Hr1 := Lib.hid r1; have Hr2 := Lib.hid r2
        clear HRlt hR hC r1 r2 HRN hnR
        go_loopw [8, 10] (fun v i wr => ∃ (q l : Nat) (aC aR : Option Addr) (capC capR : Nat), q ≤ t.size + 1 ∧ v = .slice aC (s.size + 1) capC ∧ i = .int .i64 q ∧ lastLe (colQ s t f (min q t.size)) (K : Int) (s.size + 1) = l ∧ OwnN wr lo aC (s.size + 1) capC (tab (colQ s t f (min q t.size)) (s.size + 1)) ∧ OwnN wr 0 aR (l + 1) capR (cutL (colQ s t f (min q t.size)) (K : Int) (s.size + 1)) ∧ (∀ r, (Value.slice aR (l + 1) capR).ownBlock = some r → r ≠ B2) ∧ wr.heap[B2]? = some (.cells #[.slice aR (l + 1) capR, .int .i64 (l : Int)] 79 (0, 0)) ∧ wr.heap[B1]? = some (.cells #[.string s, .int .i64 K, .bool f] 48 (0, 0)) ∧ Below w.heap.size w wr ∧ lo ≤ wr.heap.size)
          (fun _ i _ => t.size + 1 - (intOf i).toNat)
        case atStart => exact ⟨0, l0, _, _, _, _, by omega, rfl, rfl, by rw [show min 0 t.size = 0 by omega]; exact Hl0.out, by rw [show min 0 t.size = 0 by omega]; exact HC.out, by rw [show min 0 t.size = 0 by omega]; exact HR.out, HRlt2.out, Hr2.out, Hr1.out, HB, hlo⟩
        case round =>
          obtain ⟨q, l, aC, aR, capC, capR, hq, rfl, rfl, hll, hC, hR, hE, r2, r1, HBr, hlor⟩ := hrel
          clear HB hlo HR HC Hr1 Hr2 HRlt2 Hl0
          generalize wr = WA at *
          by_cases hqs : q ≤ t.size
          · rw [show min q t.size = q by omega] at hC hR hll
            have hN := colQ_near s t f q
            have hle := near_le hN
            have hge := hN.2.1
            have HDI := Lib.hid (cutQ_dist (t := t) (f := f) (q := q) HCP.out)
            have HNX := Lib.hid (cutQ_next (t := t) (f := f) (q := q) HCP.out)
            have HNC := Lib.hid (colQ_next (t := t) (f := f) (q := q) HCP.out)
            obtain ⟨CQ, hCQ⟩ : ∃ C, colQ s t f q = C := ⟨_, rfl⟩
            rw [hCQ] at hC hR hle hge HDI HNX HNC hll
            rw [hll] at HDI HNX
            have HCQ := Lib.hid hCQ
            have hln : l ≤ s.size := by have := lastLe_lt CQ (K : Int) (s.size + 1) (by omega); omega
            have HCL := Lib.hid hC.len; have HRL := Lib.hid hR.len
            have HLE := Lib.hid hle; have HGE := Lib.hid hge
            have HE := Lib.hid hE; have Hr1 := Lib.hid r1; have Hr2 := Lib.hid r2
            have HC := Lib.hid hC; have HR := Lib.hid hR; have HBR := Lib.hid HBr; have HLL := Lib.hid hll
            have hz1 : B1 < WA.heap.size := by omega
            have hz2 : B2 < WA.heap.size := by omega
            have b20 : WA.cell? ⟨B2, 0, none⟩ = some (.slice aR (l + 1) capR) := by rw [cell_of_row _ _ 0 _ _ _ r2]; rfl
            have b21 : WA.cell? ⟨B2, 1, none⟩ = some (.int .i64 (l : Int)) := by rw [cell_of_row _ _ 1 _ _ _ r2]; rfl
            obtain ⟨d10, d11, d12⟩ := box3_ofC r1
            have eL : (((s.size + 1 : Nat) : Int) != (s.size : Int) + 1) = false := by simp
            have eL2 : (((s.size : Int) + 1) != (s.size : Int) + 1) = false := by simp
            have hqi : (q : Int) ≤ (t.size : Int) := by omega
            have hKw : IntKind.i64.wrap ((K : Int) + 1) = (K : Int) + 1 := by rw [IntKind.wrap_i64]; omega
            clear hN hle hge hCQ hE r1 r2 hC hR HBr hll
            go_wp2_with fail
            go_loopw [11, 12] (fun v i wr => ∃ m : Nat, m ≤ s.size + 1 ∧ v = .int .i64 (lastLe CQ (K : Int) m : Nat) ∧ i = .int .i64 m ∧ Below WA.heap.size WA wr)
              (fun _ i _ => s.size + 1 - (intOf i).toNat)
            case atStart => exact ⟨0, by omega, rfl, rfl, Below.refl _ _⟩
            case round =>
              obtain ⟨m, hm, rfl, rfl, hb2⟩ := hrel
              generalize wr = WB at *
              have e11 := (hb2.cell (p := ⟨B1, 1, none⟩) hz1).trans d11
              by_cases hms : m < s.size + 1
              · obtain ⟨bC, oC, rfl, hpC⟩ := (HC.out.ints.kept hb2).at m (by rw [HCL.out]; omega)
                have d1 := hpC m (by rw [HCL.out]; omega)
                rw [intAt_tab _ _ _ (by omega)] at d1
                have hbl1 := block_lt_of_cell d1
                have hmi : (m : Int) < (s.size : Int) + 1 := by omega
                have hmi2 : (m : Int) ≤ (s.size : Int) := by omega
                have HLY := fun h => Lib.hid (lastLe_yes (C := CQ) (k := (K : Int)) (j := m) h)
                have HLN := fun h => Lib.hid (lastLe_no (C := CQ) (k := (K : Int)) (j := m) h)
                obtain ⟨y, hy⟩ : ∃ y, CQ m = y := ⟨_, rfl⟩
                rw [hy] at d1 HLY HLN
                clear hpC hy
                by_cases hyk : y ≤ (K : Int)
                · have HL2 := HLY hyk
                  clear HLY HLN
                  go_wp2_with fail
                  go_quiet (fail)
                  go_wp2
                  go_roundw
                  case rel => exact ⟨m + 1, by omega, by rw [HL2.out], by go_num, below_drewN hb2 _⟩
                  case measure => simp [intOf]; omega
                · have HL2 := HLN hyk
                  clear HLY HLN
                  go_wp2_with fail
                  go_quiet (fail)
                  go_wp2
                  go_roundw
                  case rel => exact ⟨m + 1, by omega, by rw [HL2.out], by go_num, below_drewN hb2 _⟩
                  case measure => simp [intOf]; omega
              · obtain rfl : m = s.size + 1 := by omega
                rw [HLL.out]
                have rB1 := (hb2.block B1 hz1).trans Hr1.out
                have rB2 := (hb2.block B2 hz2).trans Hr2.out
                have hCB := HC.out.kept hb2
                have hRB := HR.out.kept hb2
                have HBB := HBR.out.trans (hb2.mono HBR.out.size)
                have hloB : lo ≤ WB.heap.size := Nat.le_trans hlor hb2.size
                have hmn : ¬ (((s.size + 1 : Nat) : Int) ≤ (s.size : Int)) := by omega
                have hmn2 : ¬ ((s.size : Int) + 1 ≤ (s.size : Int)) := by omega
                clear hb2 b20 b21 d10 d11 d12 e11 HC HR Hr1 Hr2 HBR hz1 hz2
                go_wp2_with fail
                obtain ⟨bC, oC, rfl, hpC⟩ := hCB.ints.at s.size (by rw [HCL.out]; omega)
                have dC := hpC s.size (by rw [HCL.out]; omega)
                rw [intAt_tab _ _ _ (by omega)] at dC
                have hbC := block_lt_of_cell dC
                simp only at hbC
                have hy0 := HGE.out s.size (Nat.le_refl _)
                have hy1 := HLE.out s.size (Nat.le_refl _)
                have hcap : capI CQ (K : Int) s.size = if (K : Int) + 1 < CQ s.size then (K : Int) + 1 else CQ s.size := rfl
                have hDi := HDI.out.trans hcap
                obtain ⟨y, hyy⟩ : ∃ y, CQ s.size = y := ⟨_, rfl⟩
                rw [hyy] at dC hy0 hy1 hDi
                have HDy := Lib.hid hDi
                have q1 : (s.size : Int) < (s.size : Int) + 1 := by omega
                have hz1 : B1 < WB.heap.size := by omega
                have hz2 : B2 < WB.heap.size := by omega
                obtain ⟨m10, m11, m12⟩ := box3_ofC rB1
                have m20 : WB.cell? ⟨B2, 0, none⟩ = some (.slice aR (l + 1) capR) := by rw [cell_of_row _ _ 0 _ _ _ rB2]; rfl
                have m21 : WB.cell? ⟨B2, 1, none⟩ = some (.int .i64 (l : Int)) := by rw [cell_of_row _ _ 1 _ _ _ rB2]; rfl
                have g10 := cell_regrown m10
                have g11 := cell_regrown m11
                have g12 := cell_regrown m12
                have g20 := cell_regrown m20
                have g21 := cell_regrown m21
                have gC := cell_regrown dC
                have el : ((l : Int) != (l : Int)) = false := by simp
                have el2 : (((l : Int) + 1) != ((l : Int) + 1)) = false := by simp
                have el3 : (((l + 1 : Nat) : Int) != ((l : Int) + 1)) = false := by simp
                have hl64 := Lib.hid (show -9223372036854775808 ≤ (l : Int) ∧ (l : Int) ≤ 9223372036854775807 by omega)
                clear hpC hyy m10 m11 m12 m20 m21 dC hcap hDi
                go_cut [114] from 89 (fun x wr => x = .bool false ∧ Below WB.heap.size WB wr)
                case first =>
                  by_cases hy : y ≤ (K : Int) + 1
                  · have HDv := show cutDistI s (K : Int) (cutL CQ (K : Int) (s.size + 1)) (l : Int) = y by rw [HDy.out, if_neg (by omega)]
                    have C1 := Lib.hid (fun dq osq => distI_isC (f := f) (cap := capR) (w := Sort.grow (redrawn WB dq) osq) hs1 HRL.out (hRB.ints.kept (below_regrown WB dq osq)) (by omega) hl64.out HDv)
                    clear HDv
                    have ey : (y != y) = false := by simp
                    refine wp_region_quiet_below (by kernel_rfl) (by kernel_rfl) ?_
                    repeat (go_big_quiet_step ((go_at_call 70; with_reducible exact Calls.regrown_of (C1.out _ _))))
                    refine wpQuiet_nil ?_
                    intro _ hw'
                    obtain ⟨⟨dq, osq⟩, hw''⟩ := hw'
                    subst hw''
                    have hX := below_regrown WB dq osq
                    go_wp2_with fail
                    go_meet
                    case rel => exact ⟨rfl, hX⟩
                  · have HDv := show cutDistI s (K : Int) (cutL CQ (K : Int) (s.size + 1)) (l : Int) = (K : Int) + 1 by rw [HDy.out, if_pos (by omega)]
                    have C1 := Lib.hid (fun dq osq => distI_isC (f := f) (cap := capR) (w := Sort.grow (redrawn WB dq) osq) hs1 HRL.out (hRB.ints.kept (below_regrown WB dq osq)) (by omega) hl64.out HDv)
                    clear HDv
                    have ey : ((K : Int) + 1 != (K : Int) + 1) = false := by simp
                    refine wp_region_quiet_below (by kernel_rfl) (by kernel_rfl) ?_
                    repeat (go_big_quiet_step ((go_at_call 70; with_reducible exact Calls.regrown_of (C1.out _ _))))
                    refine wpQuiet_nil ?_
                    intro _ hw'
                    obtain ⟨⟨dq, osq⟩, hw''⟩ := hw'
                    subst hw''
                    have hX := below_regrown WB dq osq
                    go_wp2_with fail
                    go_meet
                    case rel => exact ⟨rfl, hX⟩
                case rest =>
                  obtain ⟨rfl, hB7⟩ := hcut
                  have Hr1 := Lib.hid ((hB7.block B1 hz1).trans rB1)
                  have Hr2 := Lib.hid ((hB7.block B2 hz2).trans rB2)
                  have HC := Lib.hid (hCB.kept hB7)
                  have HR := Lib.hid (hRB.kept hB7)
                  have HBR := Lib.hid (HBB.trans (hB7.mono HBB.size))
                  have hlor : lo ≤ wc.heap.size := Nat.le_trans hloB hB7.size
                  clear hB7 rB1 rB2 hCB hRB HBB hloB hz1 hz2 hbC hy0 hy1 HDI HDy g10 g11 g12 g20 g21 gC el el2 el3
                  generalize wc = WC at *
                  have hz1 : B1 < WC.heap.size := by omega
                  have hz2 : B2 < WC.heap.size := by omega
                  have b20 : WC.cell? ⟨B2, 0, none⟩ = some (.slice aR (l + 1) capR) := by rw [cell_of_row _ _ 0 _ _ _ Hr2.out]; rfl
                  obtain ⟨d10, d11, d12⟩ := box3_ofC Hr1.out
                  go_wp2_with fail
                  go_loopw [13] (fun i wr => ∃ m : Nat, m ≤ l + 1 ∧ i = .int .i64 m ∧ Below WC.heap.size WC wr)
                    (fun i _ => l + 1 - (intOf i).toNat)
                  case atStart => exact ⟨0, by omega, rfl, Below.refl _ _⟩
                  case round =>
                    obtain ⟨m, hm, rfl, hb2⟩ := hrel
                    generalize wr = WE at *
                    have e20 := (hb2.cell (p := ⟨B2, 0, none⟩) hz2).trans b20
                    have e11 := (hb2.cell (p := ⟨B1, 1, none⟩) hz1).trans d11
                    by_cases hms : m < l + 1
                    · obtain ⟨bC2, oC2, hbo, hpC⟩ := (HC.out.ints.kept hb2).at m (by rw [HCL.out]; omega)
                      obtain ⟨bR, oR, rfl, hpR⟩ := (HR.out.ints.kept hb2).at m (by rw [HRL.out]; omega)
                      simp only [Option.some.injEq, Addr.mk.injEq, and_true] at hbo
                      obtain ⟨rfl, rfl⟩ := hbo
                      have d1 := hpC m (by rw [HCL.out]; omega)
                      have d0 := hpR m (by rw [HRL.out]; omega)
                      unfold cutL at d0
                      rw [HLL.out, intAt_tab _ _ _ hms] at d0
                      rw [intAt_tab _ _ _ (by omega)] at d1
                      have hcap : capI CQ (K : Int) m = if (K : Int) + 1 < CQ m then (K : Int) + 1 else CQ m := rfl
                      rw [hcap] at d0
                      generalize CQ m = y at d0 d1
                      have hbl0 := block_lt_of_cell d0
                      have hbl1 := block_lt_of_cell d1
                      have hmi : (m : Int) < (l : Int) + 1 := by omega
                      have hmi2 : (m : Int) ≤ (s.size : Int) := by omega
                      have hmi3 : (m : Int) < (s.size : Int) + 1 := by omega
                      clear hpC hpR hcap
                      by_cases hy : y ≤ (K : Int) + 1
                      · rw [if_neg (by omega)] at d0
                        have ey : (y != y) = false := by simp
                        go_wp2_with fail
                        go_quiet (fail)
                        go_wp2
                        go_roundw
                        case rel => exact ⟨m + 1, by omega, by go_num, below_drewN hb2 _⟩
                        case measure => simp [intOf]; omega
                      · rw [if_pos (by omega)] at d0
                        have ey : ((K : Int) + 1 != (K : Int) + 1) = false := by simp
                        go_wp2_with fail
                        go_quiet (fail)
                        go_wp2
                        go_roundw
                        case rel => exact ⟨m + 1, by omega, by go_num, below_drewN hb2 _⟩
                        case measure => simp [intOf]; omega
                    · obtain rfl : m = l + 1 := by omega
                      have rE1 := (hb2.block B1 hz1).trans Hr1.out
                      have rE2 := (hb2.block B2 hz2).trans Hr2.out
                      have hCe := HC.out.kept hb2
                      have hRe := HR.out.kept hb2
                      have HBe := HBR.out.trans (hb2.mono HBR.out.size)
                      have hloE : lo ≤ WE.heap.size := Nat.le_trans hlor hb2.size
                      have hmn : ¬ (((l + 1 : Nat) : Int) < (l : Int) + 1) := by omega
                      have hmn2 : ¬ ((l : Int) + 1 < (l : Int) + 1) := by omega
                      clear hb2 b20 d10 d11 d12 e11 HC HR Hr1 Hr2 HBR hz1 hz2
                      by_cases hqt : q < t.size
                      · have hqt2 : (q : Int) < (t.size : Int) := by omega
                        go_wp2_with fail
                        clear e20
                        have hch := t[q].toNat_lt
                        have bw : IntKind.i64.wrap (t[q].toNat : Int) = (t[q].toNat : Int) := by rw [IntKind.wrap_i64]; omega
                        have i2 : (0 : Int) ≤ (q : Int) := by omega
                        have i3 : ((q : Int)).toNat = q := by omega
                        have hbq := byteAt_eq t q hqt
                        rw [hbq] at HNX HNC
                        have hbd := (Below.refl WE.heap.size WE).drew
                        have hCd := hCe.kept hbd
                        have hRd := hRe.kept hbd
                        have hId := hRd.ints
                        have HBd := HBe.drew
                        have rD1 : WE.drew.heap[B1]? = some (.cells #[.string s, .int .i64 K, .bool f] 48 (0, 0)) := rE1
                        have rD2 : WE.drew.heap[B2]? = some (.cells #[.slice aR (l + 1) capR, .int .i64 (l : Int)] 79 (0, 0)) := rE2
                        have hloD : lo ≤ WE.drew.heap.size := hloE
                        obtain ⟨d10, d11, d12⟩ := box3_ofC rD1
                        have d20 : WE.drew.cell? ⟨B2, 0, none⟩ = some (.slice aR (l + 1) capR) := by rw [cell_of_row _ _ 0 _ _ _ rD2]; rfl
                        have d21 : WE.drew.cell? ⟨B2, 1, none⟩ = some (.int .i64 (l : Int)) := by rw [cell_of_row _ _ 1 _ _ _ rD2]; rfl
                        clear hbd hbq rE1 rE2 hCe hRe HBe hloE
                        refine wp_region_still_tail 6 (by kernel_rfl) (by kernel_rfl) ?_
                        change wpStill _ _ WE.drew (fun a' => wpList _ _ _ _ a' WE.drew) _ _
                        generalize WE.drew = wd at *
                        simp only [List.take_succ_cons, List.take_zero, List.drop_succ_cons, List.drop_zero]
                        repeat still_step
                        refine wpStill_nil ?_
                        clear bw
                        go_wp2_with fail
                        refine (impl_cutStep s K f (cutL CQ (K : Int) (s.size + 1)) (l : Int) aR (l + 1) capR (t[q].toNat : Int) _ hs1 HRL.out hId (by omega) hl64.out).mono ?_
                        rintro e w9 ⟨aX, nX, capX, rfl, hX, hb9⟩
                        rw [HNX.out.2]
                        rw [HNX.out.1] at hX
                        obtain ⟨l2, hl2⟩ : ∃ l2, lastLe (colQ s t f (q + 1)) (K : Int) (s.size + 1) = l2 := ⟨_, rfl⟩
                        rw [hl2]
                        have Hl2 := Lib.hid hl2
                        obtain rfl : nX = l2 + 1 := by have h1 := hX.len; rw [cutL_len, hl2] at h1; exact h1.symm
                        clear hl2
                        have rF1 := (hb9.block B1 (by omega)).trans rD1
                        have rF2 := (hb9.block B2 (by omega)).trans rD2
                        have p0 : w9.cell? ⟨B2, 0, none⟩ = some (.slice aR (l + 1) capR) := by rw [cell_of_row _ _ 0 _ _ _ rF2]; rfl
                        have p1 : w9.cell? ⟨B2, 1, none⟩ = some (.int .i64 (l : Int)) := by rw [cell_of_row _ _ 1 _ _ _ rF2]; rfl
                        have g0 := frozen_of_row _ _ 0 _ _ rF2
                        have g1 := frozen_of_row _ _ 1 _ _ rF2
                        have HX1 := Lib.hid ((Below.heap_setCell (w9.setCell ⟨B2, 0, none⟩ (.slice aX (l2 + 1) capX)) ⟨B2, 1, none⟩ (.int .i64 (l2 : Int)) B1 (by show B1 ≠ B2; omega)).trans ((Below.heap_setCell w9 ⟨B2, 0, none⟩ (.slice aX (l2 + 1) capX) B1 (by show B1 ≠ B2; omega)).trans rF1))
                        have HX2 := Lib.hid (heap_setCell_mark (w9.setCell ⟨B2, 0, none⟩ (.slice aX (l2 + 1) capX)) B2 1 _ _ _ (.int .i64 (l2 : Int)) (heap_setCell_mark w9 B2 0 _ _ _ (.slice aX (l2 + 1) capX) rF2))
                        have HXE := Lib.hid (show ∀ r, (Value.slice aX (l2 + 1) capX).ownBlock = some r → r ≠ B2 from fun r hr => by have := (hX.2.lt r hr).1; omega)
                        have hfar : ∀ r, r ≠ B2 → ((w9.setCell ⟨B2, 0, none⟩ (.slice aX (l2 + 1) capX)).setCell ⟨B2, 1, none⟩ (.int .i64 (l2 : Int))).heap[r]? = w9.heap[r]? := fun r hr => (Below.heap_setCell _ ⟨B2, 1, none⟩ _ r hr).trans (Below.heap_setCell w9 ⟨B2, 0, none⟩ _ r hr)
                        have HXO := Lib.hid ((hX.on (w1 := ((w9.setCell ⟨B2, 0, none⟩ (.slice aX (l2 + 1) capX)).setCell ⟨B2, 1, none⟩ (.int .i64 (l2 : Int)))) (fun r hr => hfar r (HXE.out r hr))).mono (C := 0) (by omega))
                        have HXC := Lib.hid ((hCd.kept hb9).on (w1 := ((w9.setCell ⟨B2, 0, none⟩ (.slice aX (l2 + 1) capX)).setCell ⟨B2, 1, none⟩ (.int .i64 (l2 : Int)))) (fun r hr => hfar r (by have := ((hCd.kept hb9).2.lt r hr).1; omega)))
                        have HXB := Lib.hid (((HBd.trans (hb9.mono HBd.size)).setCell (p := ⟨B2, 0, none⟩) (by show w.heap.size ≤ B2; omega) (.slice aX (l2 + 1) capX)).setCell (p := ⟨B2, 1, none⟩) (by show w.heap.size ≤ B2; omega) (.int .i64 (l2 : Int)))
                        have HXl := Lib.hid (show lo ≤ ((w9.setCell ⟨B2, 0, none⟩ (.slice aX (l2 + 1) capX)).setCell ⟨B2, 1, none⟩ (.int .i64 (l2 : Int))).heap.size by have := hb9.size; simp [World.setCell]; omega)
                        clear rF1 rF2 hX hRd hId hCd HBd rD1 rD2 hloD d10 d11 d12 d20 d21 hb9 hfar
                        go_wp2_with fail
                        have rG1 : ((w9.setCell ⟨B2, 0, none⟩ (.slice aX (l2 + 1) capX)).setCell ⟨B2, 1, none⟩ (.int .i64 (l2 : Int))).drew.heap[B1]? = some (.cells #[.string s, .int .i64 K, .bool f] 48 (0, 0)) := HX1.out
                        have rG2 : ((w9.setCell ⟨B2, 0, none⟩ (.slice aX (l2 + 1) capX)).setCell ⟨B2, 1, none⟩ (.int .i64 (l2 : Int))).drew.heap[B2]? = some (.cells #[.slice aX (l2 + 1) capX, .int .i64 (l2 : Int)] 79 (0, 0)) := HX2.out
                        have hbd := (Below.refl ((w9.setCell ⟨B2, 0, none⟩ (.slice aX (l2 + 1) capX)).setCell ⟨B2, 1, none⟩ (.int .i64 (l2 : Int))).heap.size ((w9.setCell ⟨B2, 0, none⟩ (.slice aX (l2 + 1) capX)).setCell ⟨B2, 1, none⟩ (.int .i64 (l2 : Int)))).drew
                        have hCg := HXC.out.kept hbd
                        have hRg := HXO.out.kept hbd
                        have HBg := HXB.out.drew
                        have hloG : lo ≤ ((w9.setCell ⟨B2, 0, none⟩ (.slice aX (l2 + 1) capX)).setCell ⟨B2, 1, none⟩ (.int .i64 (l2 : Int))).drew.heap.size := HXl.out
                        have bw : IntKind.i64.wrap (t[q].toNat : Int) = (t[q].toNat : Int) := by rw [IntKind.wrap_i64]; omega
                        clear hbd p0 p1 g0 g1 HX1 HX2 HXO HXC HXB HXl
                        generalize ((w9.setCell ⟨B2, 0, none⟩ (.slice aX (l2 + 1) capX)).setCell ⟨B2, 1, none⟩ (.int .i64 (l2 : Int))) = WD at *
                        obtain ⟨d10, d11, d12⟩ := box3_ofC rG1
                        have hIg := hCg.ints
                        refine wp_region_still_tail 6 (by kernel_rfl) (by kernel_rfl) ?_
                        change wpStill _ _ WD.drew (fun a' => wpList _ _ _ _ a' WD.drew) _ _
                        generalize WD.drew = wd at *
                        simp only [List.take_succ_cons, List.take_zero, List.drop_succ_cons, List.drop_zero]
                        repeat still_step
                        refine wpStill_nil ?_
                        clear bw
                        go_wp2_with fail
                        refine (impl_nextCol s K f (tab CQ (s.size + 1)) _ (s.size + 1) capC (t[q].toNat : Int) _ hs1 HCL.out hIg (by omega)).mono ?_
                        rintro e w12 ⟨aY, nY, capY, rfl, hY, hb12⟩
                        rw [HNC.out] at hY
                        obtain rfl : nY = s.size + 1 := by have h1 := hY.len; rw [tab_length] at h1; exact h1.symm
                        have HYO := Lib.hid (hY.mono (C := lo) hloG)
                        have HY1 := Lib.hid ((hb12.block B1 (by omega)).trans rG1)
                        have HY2 := Lib.hid ((hb12.block B2 (by omega)).trans rG2)
                        have HYR := Lib.hid (hRg.kept hb12)
                        have HYB := Lib.hid (HBg.trans (hb12.mono HBg.size))
                        have hYl : lo ≤ w12.heap.size := Nat.le_trans hloG hb12.size
                        clear rG1 rG2 hCg hRg HBg hloG d10 d11 d12 hIg hb12 hY
                        go_wp2_with fail
                        go_roundw
                        case rel => exact ⟨q + 1, l2, _, _, _, _, by omega, rfl, by go_num, by rw [show min (q + 1) t.size = q + 1 by omega]; exact Hl2.out, by rw [show min (q + 1) t.size = q + 1 by omega]; exact HYO.out, by rw [show min (q + 1) t.size = q + 1 by omega]; exact HYR.out, HXE.out, HY2.out, HY1.out, HYB.out, hYl⟩
                        case measure => simp [intOf]; omega
                      · have hql : ¬ (q : Int) < (t.size : Int) := by omega
                        have hqe : q = t.size := by omega
                        have HCe := Lib.hid (show OwnN WE lo _ (s.size + 1) capC (tab (colQ s t f (min (q + 1) t.size)) (s.size + 1)) by rw [show min (q + 1) t.size = q by omega, HCQ.out]; exact hCe)
                        have HRe := Lib.hid (show OwnN WE 0 aR (l + 1) capR (cutL (colQ s t f (min (q + 1) t.size)) (K : Int) (s.size + 1)) by rw [show min (q + 1) t.size = q by omega, HCQ.out]; exact hRe)
                        have HLe := Lib.hid (show lastLe (colQ s t f (min (q + 1) t.size)) (K : Int) (s.size + 1) = l by rw [show min (q + 1) t.size = q by omega, HCQ.out]; exact HLL.out)
                        have H1e := Lib.hid rE1; have H2e := Lib.hid rE2
                        clear hCe hRe rE1 rE2
                        go_wp2_with fail
                        go_roundw
                        case rel => exact ⟨q + 1, l, _, _, _, _, by omega, rfl, by go_num, HLe.out, HCe.out, HRe.out, HE.out, H2e.out, H1e.out, HBe, hloE⟩
                        case measure => simp [intOf]; omega
          · obtain rfl : q = t.size + 1 := by omega
            go_wp2
            go_ret
            exact ⟨rfl, HBr⟩
  · have hbig : decide (1048576 < (len : Int)) = true := by simp; omega
    go_enter Try.func14, Try.ntmps14
    go_wp2_with (go_at_call 15; go_in)
    go_ret
    exact ⟨rfl, Below.refl _ _⟩
end Go.Proofs.Ytglldmfhjipacaa

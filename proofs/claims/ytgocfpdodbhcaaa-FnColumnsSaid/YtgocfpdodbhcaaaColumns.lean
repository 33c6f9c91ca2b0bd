/-
  FnColumns: the walk.
-/
import Derived.Test.YtgocfpdodbhcaaaColDraw2
import Derived.Deep.RegionLaw
import Derived.Deep.Cut
namespace Go.Proofs.Ytgocfpdodbhcaaa
open Go.RowKit
set_option linter.unusedVariables false
set_option maxRecDepth 100000
theorem keep9 {W W1 : World} {B1 B2 B3 : Nat} {s s2 s3 : ByteArray} {k k2 k3 : Int} {f f2 f3 : Bool} (hb : Below W.heap.size W W1)
    (h : W.cell? ⟨B1, 0, none⟩ = some (.string s) ∧ W.cell? ⟨B1, 1, none⟩ = some (.int .i64 k) ∧ W.cell? ⟨B1, 2, none⟩ = some (.bool f) ∧ W.cell? ⟨B2, 0, none⟩ = some (.string s2) ∧ W.cell? ⟨B2, 1, none⟩ = some (.int .i64 k2) ∧ W.cell? ⟨B2, 2, none⟩ = some (.bool f2) ∧ W.cell? ⟨B3, 0, none⟩ = some (.string s3) ∧ W.cell? ⟨B3, 1, none⟩ = some (.int .i64 k3) ∧ W.cell? ⟨B3, 2, none⟩ = some (.bool f3)) (h1 : B1 < W.heap.size) (h2 : B2 < W.heap.size) (h3 : B3 < W.heap.size) : W1.cell? ⟨B1, 0, none⟩ = some (.string s) ∧ W1.cell? ⟨B1, 1, none⟩ = some (.int .i64 k) ∧ W1.cell? ⟨B1, 2, none⟩ = some (.bool f) ∧ W1.cell? ⟨B2, 0, none⟩ = some (.string s2) ∧ W1.cell? ⟨B2, 1, none⟩ = some (.int .i64 k2) ∧ W1.cell? ⟨B2, 2, none⟩ = some (.bool f2) ∧ W1.cell? ⟨B3, 0, none⟩ = some (.string s3) ∧ W1.cell? ⟨B3, 1, none⟩ = some (.int .i64 k3) ∧ W1.cell? ⟨B3, 2, none⟩ = some (.bool f3) := by
  obtain ⟨a0, a1, a2, b0, b1, b2, c0, c1, c2⟩ := h
  exact ⟨(hb.cell (p := ⟨B1, 0, none⟩) h1).trans a0, (hb.cell (p := ⟨B1, 1, none⟩) h1).trans a1, (hb.cell (p := ⟨B1, 2, none⟩) h1).trans a2, (hb.cell (p := ⟨B2, 0, none⟩) h2).trans b0, (hb.cell (p := ⟨B2, 1, none⟩) h2).trans b1, (hb.cell (p := ⟨B2, 2, none⟩) h2).trans b2, (hb.cell (p := ⟨B3, 0, none⟩) h3).trans c0, (hb.cell (p := ⟨B3, 1, none⟩) h3).trans c1, (hb.cell (p := ⟨B3, 2, none⟩) h3).trans c2⟩
theorem box_new (w : World) (s : ByteArray) (k : Int) (f : Bool) (t : TypeId) : (w.alloc (.cells #[.string s, .int .i64 k, .bool f] t)).cell? ⟨w.heap.size, 0, none⟩ = some (.string s) ∧ (w.alloc (.cells #[.string s, .int .i64 k, .bool f] t)).cell? ⟨w.heap.size, 1, none⟩ = some (.int .i64 k) ∧ (w.alloc (.cells #[.string s, .int .i64 k, .bool f] t)).cell? ⟨w.heap.size, 2, none⟩ = some (.bool f) :=
  ⟨by rw [World.cell?_alloc_new]; rfl, by rw [World.cell?_alloc_new]; rfl, by rw [World.cell?_alloc_new]; rfl⟩
theorem box_kept {W W1 : World} {B : Nat} {s : ByteArray} {k : Int} {f : Bool} (hb : Below W.heap.size W W1) (h : W.cell? ⟨B, 0, none⟩ = some (.string s) ∧ W.cell? ⟨B, 1, none⟩ = some (.int .i64 k) ∧ W.cell? ⟨B, 2, none⟩ = some (.bool f)) (h1 : B < W.heap.size) : W1.cell? ⟨B, 0, none⟩ = some (.string s) ∧ W1.cell? ⟨B, 1, none⟩ = some (.int .i64 k) ∧ W1.cell? ⟨B, 2, none⟩ = some (.bool f) :=
  ⟨(hb.cell (p := ⟨B, 0, none⟩) h1).trans h.1, (hb.cell (p := ⟨B, 1, none⟩) h1).trans h.2.1, (hb.cell (p := ⟨B, 2, none⟩) h1).trans h.2.2⟩
theorem firstColL_right {s : ByteArray} {k : Int} (h : patOk s k = true) : colOkB (patOk s k) s.size (firstColL s k) = true := by
  unfold firstColL
  rw [h]
  exact colOkB_near_tab (near_id s.size)
theorem patternOk_is {s : ByteArray} {k : Int} {f v : Bool} (hs : s.size ≤ 9223372036854775807) (h : patOk s k = v) (w : World) :
    Calls Try.prog 38 #[.agg #[.string s, .int .i64 k, .bool f]] w fun e w' => e = .returned (.bool v) ∧ Below w.heap.size w w' :=
  (spec_patternOk s k f w hs).mono fun _ _ h2 => ⟨by rw [h2.1, h], h2.2⟩
theorem colOk_is {s : ByteArray} {k : Int} {f v : Bool} {L : List Int} {a : Option Addr} {n cap : Nat} {w : World} (hs : s.size ≤ 1048576) (hn : L.length = n) (h : Ints w a L) (hlen : n ≤ 1048577) (hv : colOkB (patOk s k) s.size L = v) :
    Calls Try.prog 34 #[.agg #[.string s, .int .i64 k, .bool f], .slice a n cap] w fun e w' => e = .returned (.bool v) ∧ Below w.heap.size w w' :=
  (impl_colOk s k f L a n cap w hs hn h hlen).mono fun _ _ h2 => ⟨by rw [h2.1, hv], h2.2⟩
theorem next_near {s : ByteArray} {k : Int} {f : Bool} {b : Int} {L : List Int} (h : 0 < (nextColL s k f b L).length) :
    L.length = s.size + 1 ∧ (nextColL s k f b L).length = s.size + 1 ∧ colOkB (patOk s k) s.size (nextColL s k f b L) = true ∧ ∀ i, i < s.size + 1 → 0 ≤ intAt L i ∧ intAt L i ≤ i ∧ intAt L i - 1 ≤ intAt (nextColL s k f b L) i ∧ intAt (nextColL s k f b L) i ≤ intAt L i + 1 := by
  cases hc : nextColB s k b L
  · have e : nextColL s k f b L = [] := by unfold nextColL; rw [hc]; rfl
    rw [e] at h; simp at h
  · have e : nextColL s k f b L = tab (nextAt (maskG s f b) (intAt L) 0) (s.size + 1) := by unfold nextColL; rw [hc]; rfl
    unfold nextColB at hc
    simp only [Bool.and_eq_true] at hc
    have h1 := (colOkB_iff _ _ _).1 hc.1
    have hn : Near (intAt L) s.size := by have := h1.2.2; rw [h1.2.1] at this; exact near_of_steps this
    obtain ⟨q1, q2⟩ := near_next (eq := maskG s f b) hn
    rw [e]
    refine ⟨h1.2.1, tab_length _ _, by rw [h1.1]; exact colOkB_near_tab q1, fun i hi => ?_⟩
    rw [intAt_tab _ _ _ hi]
    exact ⟨hn.2.1 i (by omega), near_le hn i (by omega), q2 i (by omega)⟩
set_option maxHeartbeats 4000000 in
theorem law_FnColumns (a : Option Addr) (len cap : Nat) (z : List Int) (w : World) (hr : IsRow .u8 w a len cap z) :
    Calls Try.prog 5 #[.slice a len cap] w fun e w' => e = .returned (.bool true) ∧ Below w.heap.size w w' := by
  by_cases hl : len ≤ 1048576
  · have hbig : decide (1048576 < (len : Int)) = false := by simp; omega
    go_enter Try.func5, Try.ntmps5
    go_wp2_with (go_at_call 21; refine (laws_big _ _ _ _ (by omega)).mono ?_; rintro e w' ⟨rfl, rfl⟩)
    refine (drawNextCol _ _ _ _ _ hr hl).mono ?_
    rintro e w1 ⟨s, k, f, a1, n1, cap1, b, rfl, hs, hk, hb, ⟨L, hL, hF⟩, hb1⟩
    go_wp2_with fail
    have x1 := box_new w1 s k f 31
    have HB := hb1.alloc hb1.size (.cells #[.string s, .int .i64 k, .bool f] 31)
    replace hL := hL.kept ((Below.refl w1.heap.size w1).alloc (Nat.le_refl _) (.cells #[.string s, .int .i64 k, .bool f] 31))
    have hB1 : w1.heap.size < (w1.alloc (.cells #[.string s, .int .i64 k, .bool f] 31)).heap.size := by simp
    generalize (w1.alloc (.cells #[.string s, .int .i64 k, .bool f] 31)) = V1 at *
    generalize w1.heap.size = B1 at *
    have hLl := hL.len
    have hn21 : n1 ≤ 21 := by have := hF.len (by omega); omega
    have HN := Lib.hid hL.len
    have HW := Lib.hid (fun i (hi : i < n1) => show -9223372036854775808 ≤ intAt L i ∧ intAt L i ≤ 9223372036854775807 by have := hF.bnd i (by omega); omega)
    have HF := Lib.hid hF
    clear hF hLl hb1
    refine (impl_nextCol s k f L a1 n1 cap1 b _ (by omega) HN.out hL.ints (by omega)).mono ?_
    rintro e w2 ⟨aN, nN, capN, rfl, hN, hb2⟩
    replace x1 := box_kept hb2 x1 hB1
    replace hL := hL.kept hb2
    replace HB := HB.trans (hb2.mono HB.size)
    replace hB1 : B1 < w2.heap.size := by have := hb2.size; omega
    clear hb2
    go_wp2_with fail
    refine (drawColOk _ _ _ _ _ (isRow_below hr HB) hl).mono ?_
    rintro e w3 ⟨s2, k2, f2, a2, n2, cap2, rfl, hs2, hk2, ⟨M, hM, hn2, hMw⟩, hb3⟩
    replace x1 := box_kept hb3 x1 hB1
    replace hL := hL.kept hb3
    replace hN := hN.kept hb3
    replace HB := HB.trans (hb3.mono HB.size)
    replace hB1 : B1 < w3.heap.size := by have := hb3.size; omega
    have HMN := Lib.hid hM.len
    have HMW := Lib.hid (fun i (hi : i < n2) => show -9223372036854775808 ≤ intAt M i ∧ intAt M i ≤ 9223372036854775807 from hMw i hi)
    clear hb3 hMw
    go_wp2_with fail
    have x2 := box_new w3 s2 k2 f2 31
    have hb4 := (Below.refl w3.heap.size w3).alloc (Nat.le_refl _) (.cells #[.string s2, .int .i64 k2, .bool f2] 31)
    have hB2 : w3.heap.size < (w3.alloc (.cells #[.string s2, .int .i64 k2, .bool f2] 31)).heap.size := by simp
    generalize (w3.alloc (.cells #[.string s2, .int .i64 k2, .bool f2] 31)) = V2 at *
    replace x1 := box_kept hb4 x1 hB1
    replace hL := hL.kept hb4
    replace hN := hN.kept hb4
    replace hM := hM.kept hb4
    replace HB := HB.trans (hb4.mono HB.size)
    replace hB1 : B1 < V2.heap.size := by omega
    clear hb4
    generalize w3.heap.size = B2 at *
    refine (drawFirstCol _ _ _ _ _ (isRow_below hr HB) hl).mono ?_
    rintro e w5 ⟨s3, k3, f3, rfl, hs3, hk3, hb5⟩
    replace x1 := box_kept hb5 x1 hB1
    replace x2 := box_kept hb5 x2 hB2
    replace hL := hL.kept hb5
    replace hN := hN.kept hb5
    replace hM := hM.kept hb5
    replace HB := HB.trans (hb5.mono HB.size)
    replace hB1 : B1 < w5.heap.size := by have := hb5.size; omega
    replace hB2 : B2 < w5.heap.size := by have := hb5.size; omega
    clear hb5
    go_wp2_with fail
    have x3 := box_new w5 s3 k3 f3 31
    have hb6 := (Below.refl w5.heap.size w5).alloc (Nat.le_refl _) (.cells #[.string s3, .int .i64 k3, .bool f3] 31)
    have hB3 : w5.heap.size < (w5.alloc (.cells #[.string s3, .int .i64 k3, .bool f3] 31)).heap.size := by simp
    generalize (w5.alloc (.cells #[.string s3, .int .i64 k3, .bool f3] 31)) = V3 at *
    replace x1 := box_kept hb6 x1 hB1
    replace x2 := box_kept hb6 x2 hB2
    replace hL := hL.kept hb6
    replace hN := hN.kept hb6
    replace hM := hM.kept hb6
    replace HB := HB.trans (hb6.mono HB.size)
    replace hB1 : B1 < V3.heap.size := by omega
    replace hB2 : B2 < V3.heap.size := by omega
    clear hb6
    generalize w5.heap.size = B3 at *
    have hS0 : V3.drew.cell? ⟨B1, 0, none⟩ = some (.string s) ∧ V3.drew.cell? ⟨B1, 1, none⟩ = some (.int .i64 k) ∧ V3.drew.cell? ⟨B1, 2, none⟩ = some (.bool f) ∧ V3.drew.cell? ⟨B2, 0, none⟩ = some (.string s2) ∧ V3.drew.cell? ⟨B2, 1, none⟩ = some (.int .i64 k2) ∧ V3.drew.cell? ⟨B2, 2, none⟩ = some (.bool f2) ∧ V3.drew.cell? ⟨B3, 0, none⟩ = some (.string s3) ∧ V3.drew.cell? ⟨B3, 1, none⟩ = some (.int .i64 k3) ∧ V3.drew.cell? ⟨B3, 2, none⟩ = some (.bool f3) := ⟨x1.1, x1.2.1, x1.2.2, x2.1, x2.2.1, x2.2.2, x3.1, x3.2.1, x3.2.2⟩
    have hbd := (Below.refl V3.heap.size V3).drew
    replace hL := hL.kept hbd
    replace hN := hN.kept hbd
    replace hM := hM.kept hbd
    replace HB := HB.drew
    replace hB1 : B1 < V3.drew.heap.size := hB1
    replace hB2 : B2 < V3.drew.heap.size := hB2
    replace hB3 : B3 < V3.drew.heap.size := hB3
    clear hbd x1 x2 x3
    obtain ⟨N, hNV⟩ : ∃ N, nextColL s k f b L = N := ⟨_, rfl⟩
    have hNF := fine_next f b HF.out
    rw [hNV] at hN hNF
    have hNlen := hNF.len (by omega)
    have hN21 : nN ≤ 21 := by have := hN.len; omega
    have HNV := Lib.hid hNV
    have HNL := Lib.hid hN.len
    have HNF := Lib.hid hNF
    obtain ⟨cb, hcb⟩ : ∃ cb, colOkB (patOk s2 k2) s2.size M = cb := ⟨_, rfl⟩
    have HCB := Lib.hid hcb
    have ecb : (cb != cb) = false := by simp
    obtain ⟨F, hFV⟩ : ∃ F, firstColL s3 k3 = F := ⟨_, rfl⟩
    have hFF := fine_first s3 k3
    rw [hFV] at hFF
    have HF21 := Lib.hid (hFF.len (by omega))
    have HFV := Lib.hid hFV
    have hs1 : s.size ≤ 1048576 := by omega
    have hs21 : s2.size ≤ 1048576 := by omega
    have hs31 : s3.size ≤ 1048576 := by omega
    have hs32 : s3.size ≤ 9223372036854775807 := by omega
    have hn1 : n1 ≤ 1048577 := by omega
    have hnN : nN ≤ 1048577 := by omega
    have hn21b : n2 ≤ 1048577 := by omega
    clear hNV hNF hNlen hcb hFF
    go_wp2_with fail
    go_cut [64] from 30 (fun x wr => x = .bool false ∧ Below V3.drew.heap.size V3.drew wr)
    case first =>
      have hB0 := Below.refl V3.drew.heap.size V3.drew
      cases hp : patOk s3 k3
      · have HP := Lib.hid hp; clear hp hFV
        have hq9 := hS0
        obtain ⟨qa0, qa1, qa2, qb0, qb1, qb2, qc0, qc1, qc2⟩ := hq9
        go_region_law ((go_simp; first
            | (go_at_call 33; (with_reducible refine (spec_nextCol s k f L a1 n1 cap1 b _ hs1 HN.out hL.ints hn1 HW.out).mono ?_); rintro e w11 ⟨a11, n11, cap11, rfl, hO11, hb11⟩; rw [HNV.out] at hO11; have hn11 : n11 = nN := hO11.len.symm.trans HNL.out; subst hn11; have hS1 := keep9 hb11 hS0 hB1 hB2 hB3; have hq9 := hS1; obtain ⟨qa0, qa1, qa2, qb0, qb1, qb2, qc0, qc1, qc2⟩ := hq9; replace hL := hL.kept hb11; replace hN := hN.kept hb11; replace hM := hM.kept hb11; replace hB0 := hB0.trans (hb11.mono hB0.size); have hzz := hb11.size; replace hB1 : B1 < w11.heap.size := Nat.lt_of_lt_of_le hB1 hzz; replace hB2 : B2 < w11.heap.size := Nat.lt_of_lt_of_le hB2 hzz; replace hB3 : B3 < w11.heap.size := Nat.lt_of_lt_of_le hB3 hzz; clear hzz)
            | (go_at_call 32; first | ((with_reducible refine (laws_sameInts F _ _ n16 _ _ _ HFL.out hO15.ints hO16.ints hn15).mono ?_); rintro e w17 ⟨rfl, hb17⟩; have hS7 := keep9 hb17 hS6 hB1 hB2 hB3; have hq9 := hS7; obtain ⟨qa0, qa1, qa2, qb0, qb1, qb2, qc0, qc1, qc2⟩ := hq9; replace hL := hL.kept hb17; replace hN := hN.kept hb17; replace hM := hM.kept hb17; replace hB0 := hB0.trans (hb17.mono hB0.size); have hzz := hb17.size; replace hB1 : B1 < w17.heap.size := Nat.lt_of_lt_of_le hB1 hzz; replace hB2 : B2 < w17.heap.size := Nat.lt_of_lt_of_le hB2 hzz; replace hB3 : B3 < w17.heap.size := Nat.lt_of_lt_of_le hB3 hzz; clear hzz) | ((with_reducible refine (laws_sameInts N _ _ n11 _ _ _ HNL.out hN.ints hO11.ints hnN).mono ?_); rintro e w12 ⟨rfl, hb12⟩; have hS2 := keep9 hb12 hS1 hB1 hB2 hB3; have hq9 := hS2; obtain ⟨qa0, qa1, qa2, qb0, qb1, qb2, qc0, qc1, qc2⟩ := hq9; replace hL := hL.kept hb12; replace hN := hN.kept hb12; replace hM := hM.kept hb12; replace hB0 := hB0.trans (hb12.mono hB0.size); have hzz := hb12.size; replace hB1 : B1 < w12.heap.size := Nat.lt_of_lt_of_le hB1 hzz; replace hB2 : B2 < w12.heap.size := Nat.lt_of_lt_of_le hB2 hzz; replace hB3 : B3 < w12.heap.size := Nat.lt_of_lt_of_le hB3 hzz; clear hzz))
            | (go_at_call 34; first | ((with_reducible refine (colOk_is hs31 HFL3.out hO19.ints hn19 HRI.out).mono ?_); rintro e w20 ⟨rfl, hb20⟩; have hS10 := keep9 hb20 hS9 hB1 hB2 hB3; have hq9 := hS10; obtain ⟨qa0, qa1, qa2, qb0, qb1, qb2, qc0, qc1, qc2⟩ := hq9; replace hL := hL.kept hb20; replace hN := hN.kept hb20; replace hM := hM.kept hb20; replace hB0 := hB0.trans (hb20.mono hB0.size); have hzz := hb20.size; replace hB1 : B1 < w20.heap.size := Nat.lt_of_lt_of_le hB1 hzz; replace hB2 : B2 < w20.heap.size := Nat.lt_of_lt_of_le hB2 hzz; replace hB3 : B3 < w20.heap.size := Nat.lt_of_lt_of_le hB3 hzz; clear hzz) | ((with_reducible refine (colOk_is hs21 HMN.out hM.ints hn21b HCB.out).mono ?_); rintro e w13 ⟨rfl, hb13⟩; have hS3 := keep9 hb13 hS2 hB1 hB2 hB3; have hq9 := hS3; obtain ⟨qa0, qa1, qa2, qb0, qb1, qb2, qc0, qc1, qc2⟩ := hq9; replace hL := hL.kept hb13; replace hN := hN.kept hb13; replace hM := hM.kept hb13; replace hB0 := hB0.trans (hb13.mono hB0.size); have hzz := hb13.size; replace hB1 : B1 < w13.heap.size := Nat.lt_of_lt_of_le hB1 hzz; replace hB2 : B2 < w13.heap.size := Nat.lt_of_lt_of_le hB2 hzz; replace hB3 : B3 < w13.heap.size := Nat.lt_of_lt_of_le hB3 hzz; clear hzz))
            | (go_at_call 35; (with_reducible refine (spec_colOk s2 k2 f2 M a2 n2 cap2 _ hs21 HMN.out hM.ints hn21b HMW.out).mono ?_); rintro e w14 ⟨rfl, hb14⟩; rw [HCB.out]; have hS4 := keep9 hb14 hS3 hB1 hB2 hB3; have hq9 := hS4; obtain ⟨qa0, qa1, qa2, qb0, qb1, qb2, qc0, qc1, qc2⟩ := hq9; replace hL := hL.kept hb14; replace hN := hN.kept hb14; replace hM := hM.kept hb14; replace hB0 := hB0.trans (hb14.mono hB0.size); have hzz := hb14.size; replace hB1 : B1 < w14.heap.size := Nat.lt_of_lt_of_le hB1 hzz; replace hB2 : B2 < w14.heap.size := Nat.lt_of_lt_of_le hB2 hzz; replace hB3 : B3 < w14.heap.size := Nat.lt_of_lt_of_le hB3 hzz; clear hzz)
            | (go_at_call 36; (with_reducible refine (impl_firstCol s3 k3 f3 _ hs31).mono ?_); first | (rintro e w19 ⟨a19, n19, cap19, rfl, hO19, hb19⟩; rw [HFV.out] at hO19; have HFL3 := Lib.hid hO19.len; have hn19 : n19 ≤ 1048577 := (by have h1 := hO19.len; have h2 := HF21.out; omega); have hS9 := keep9 hb19 hS8 hB1 hB2 hB3; have hq9 := hS9; obtain ⟨qa0, qa1, qa2, qb0, qb1, qb2, qc0, qc1, qc2⟩ := hq9; replace hL := hL.kept hb19; replace hN := hN.kept hb19; replace hM := hM.kept hb19; replace hB0 := hB0.trans (hb19.mono hB0.size); have hzz := hb19.size; replace hB1 : B1 < w19.heap.size := Nat.lt_of_lt_of_le hB1 hzz; replace hB2 : B2 < w19.heap.size := Nat.lt_of_lt_of_le hB2 hzz; replace hB3 : B3 < w19.heap.size := Nat.lt_of_lt_of_le hB3 hzz; clear hzz) | (rintro e w15 ⟨a15, n15, cap15, rfl, hO15, hb15⟩; rw [HFV.out] at hO15; have HFL := Lib.hid hO15.len; have hn15 : n15 ≤ 1048577 := (by have h1 := hO15.len; have h2 := HF21.out; omega); have hS5 := keep9 hb15 hS4 hB1 hB2 hB3; have hq9 := hS5; obtain ⟨qa0, qa1, qa2, qb0, qb1, qb2, qc0, qc1, qc2⟩ := hq9; replace hL := hL.kept hb15; replace hN := hN.kept hb15; replace hM := hM.kept hb15; replace hB0 := hB0.trans (hb15.mono hB0.size); have hzz := hb15.size; replace hB1 : B1 < w15.heap.size := Nat.lt_of_lt_of_le hB1 hzz; replace hB2 : B2 < w15.heap.size := Nat.lt_of_lt_of_le hB2 hzz; replace hB3 : B3 < w15.heap.size := Nat.lt_of_lt_of_le hB3 hzz; clear hzz))
            | (go_at_call 37; (with_reducible refine (spec_firstCol s3 k3 f3 _ hs31).mono ?_); rintro e w16 ⟨a16, n16, cap16, rfl, hO16, hb16⟩; rw [HFV.out] at hO16; have hn16 : n16 = n15 := hO16.len.symm.trans HFL.out; subst hn16; replace hO15 := hO15.kept hb16; have hS6 := keep9 hb16 hS5 hB1 hB2 hB3; have hq9 := hS6; obtain ⟨qa0, qa1, qa2, qb0, qb1, qb2, qc0, qc1, qc2⟩ := hq9; replace hL := hL.kept hb16; replace hN := hN.kept hb16; replace hM := hM.kept hb16; replace hB0 := hB0.trans (hb16.mono hB0.size); have hzz := hb16.size; replace hB1 : B1 < w16.heap.size := Nat.lt_of_lt_of_le hB1 hzz; replace hB2 : B2 < w16.heap.size := Nat.lt_of_lt_of_le hB2 hzz; replace hB3 : B3 < w16.heap.size := Nat.lt_of_lt_of_le hB3 hzz; clear hzz)
            | (go_at_call 38; (with_reducible refine (patternOk_is hs32 HP.out _).mono ?_); rintro e w18 ⟨rfl, hb18⟩; have hS8 := keep9 hb18 hS7 hB1 hB2 hB3; have hq9 := hS8; obtain ⟨qa0, qa1, qa2, qb0, qb1, qb2, qc0, qc1, qc2⟩ := hq9; replace hL := hL.kept hb18; replace hN := hN.kept hb18; replace hM := hM.kept hb18; replace hB0 := hB0.trans (hb18.mono hB0.size); have hzz := hb18.size; replace hB1 : B1 < w18.heap.size := Nat.lt_of_lt_of_le hB1 hzz; replace hB2 : B2 < w18.heap.size := Nat.lt_of_lt_of_le hB2 hzz; replace hB3 : B3 < w18.heap.size := Nat.lt_of_lt_of_le hB3 hzz; clear hzz)))
        all_goals
          go_wp2_with fail
          go_meet
          case rel => exact ⟨rfl, hB0⟩
      · have HP := Lib.hid hp
        have HRI := Lib.hid (show colOkB (patOk s3 k3) s3.size F = true by rw [← hFV]; exact firstColL_right hp)
        clear hp hFV
        go_region_held3 (fun W => W.cell? ⟨B1, 0, none⟩ = some (.string s) ∧ W.cell? ⟨B1, 1, none⟩ = some (.int .i64 k) ∧ W.cell? ⟨B1, 2, none⟩ = some (.bool f) ∧ W.cell? ⟨B2, 0, none⟩ = some (.string s2) ∧ W.cell? ⟨B2, 1, none⟩ = some (.int .i64 k2) ∧ W.cell? ⟨B2, 2, none⟩ = some (.bool f2) ∧ W.cell? ⟨B3, 0, none⟩ = some (.string s3) ∧ W.cell? ⟨B3, 1, none⟩ = some (.int .i64 k3) ∧ W.cell? ⟨B3, 2, none⟩ = some (.bool f3)) (first | with_reducible exact hS0 | with_reducible exact hS1 | with_reducible exact hS2 | with_reducible exact hS3 | with_reducible exact hS4 | with_reducible exact hS5 | with_reducible exact hS6 | with_reducible exact hS7 | with_reducible exact hS8 | with_reducible exact hS9 | with_reducible exact hS10 | go_keep)
          (first
            | (go_at_call 33; (with_reducible refine (spec_nextCol s k f L a1 n1 cap1 b _ hs1 HN.out hL.ints hn1 HW.out).mono ?_); rintro e w11 ⟨a11, n11, cap11, rfl, hO11, hb11⟩; rw [HNV.out] at hO11; have hn11 : n11 = nN := hO11.len.symm.trans HNL.out; subst hn11; have hS1 := keep9 hb11 hS0 hB1 hB2 hB3; replace hL := hL.kept hb11; replace hN := hN.kept hb11; replace hM := hM.kept hb11; replace hB0 := hB0.trans (hb11.mono hB0.size); have hzz := hb11.size; replace hB1 : B1 < w11.heap.size := Nat.lt_of_lt_of_le hB1 hzz; replace hB2 : B2 < w11.heap.size := Nat.lt_of_lt_of_le hB2 hzz; replace hB3 : B3 < w11.heap.size := Nat.lt_of_lt_of_le hB3 hzz; clear hzz)
            | (go_at_call 32; first | ((with_reducible refine (laws_sameInts F _ _ n16 _ _ _ HFL.out hO15.ints hO16.ints hn15).mono ?_); rintro e w17 ⟨rfl, hb17⟩; have hS7 := keep9 hb17 hS6 hB1 hB2 hB3; replace hL := hL.kept hb17; replace hN := hN.kept hb17; replace hM := hM.kept hb17; replace hB0 := hB0.trans (hb17.mono hB0.size); have hzz := hb17.size; replace hB1 : B1 < w17.heap.size := Nat.lt_of_lt_of_le hB1 hzz; replace hB2 : B2 < w17.heap.size := Nat.lt_of_lt_of_le hB2 hzz; replace hB3 : B3 < w17.heap.size := Nat.lt_of_lt_of_le hB3 hzz; clear hzz) | ((with_reducible refine (laws_sameInts N _ _ n11 _ _ _ HNL.out hN.ints hO11.ints hnN).mono ?_); rintro e w12 ⟨rfl, hb12⟩; have hS2 := keep9 hb12 hS1 hB1 hB2 hB3; replace hL := hL.kept hb12; replace hN := hN.kept hb12; replace hM := hM.kept hb12; replace hB0 := hB0.trans (hb12.mono hB0.size); have hzz := hb12.size; replace hB1 : B1 < w12.heap.size := Nat.lt_of_lt_of_le hB1 hzz; replace hB2 : B2 < w12.heap.size := Nat.lt_of_lt_of_le hB2 hzz; replace hB3 : B3 < w12.heap.size := Nat.lt_of_lt_of_le hB3 hzz; clear hzz))
            | (go_at_call 34; first | ((with_reducible refine (colOk_is hs31 HFL3.out hO19.ints hn19 HRI.out).mono ?_); rintro e w20 ⟨rfl, hb20⟩; have hS10 := keep9 hb20 hS9 hB1 hB2 hB3; replace hL := hL.kept hb20; replace hN := hN.kept hb20; replace hM := hM.kept hb20; replace hB0 := hB0.trans (hb20.mono hB0.size); have hzz := hb20.size; replace hB1 : B1 < w20.heap.size := Nat.lt_of_lt_of_le hB1 hzz; replace hB2 : B2 < w20.heap.size := Nat.lt_of_lt_of_le hB2 hzz; replace hB3 : B3 < w20.heap.size := Nat.lt_of_lt_of_le hB3 hzz; clear hzz) | ((with_reducible refine (colOk_is hs21 HMN.out hM.ints hn21b HCB.out).mono ?_); rintro e w13 ⟨rfl, hb13⟩; have hS3 := keep9 hb13 hS2 hB1 hB2 hB3; replace hL := hL.kept hb13; replace hN := hN.kept hb13; replace hM := hM.kept hb13; replace hB0 := hB0.trans (hb13.mono hB0.size); have hzz := hb13.size; replace hB1 : B1 < w13.heap.size := Nat.lt_of_lt_of_le hB1 hzz; replace hB2 : B2 < w13.heap.size := Nat.lt_of_lt_of_le hB2 hzz; replace hB3 : B3 < w13.heap.size := Nat.lt_of_lt_of_le hB3 hzz; clear hzz))
            | (go_at_call 35; (with_reducible refine (spec_colOk s2 k2 f2 M a2 n2 cap2 _ hs21 HMN.out hM.ints hn21b HMW.out).mono ?_); rintro e w14 ⟨rfl, hb14⟩; rw [HCB.out]; have hS4 := keep9 hb14 hS3 hB1 hB2 hB3; replace hL := hL.kept hb14; replace hN := hN.kept hb14; replace hM := hM.kept hb14; replace hB0 := hB0.trans (hb14.mono hB0.size); have hzz := hb14.size; replace hB1 : B1 < w14.heap.size := Nat.lt_of_lt_of_le hB1 hzz; replace hB2 : B2 < w14.heap.size := Nat.lt_of_lt_of_le hB2 hzz; replace hB3 : B3 < w14.heap.size := Nat.lt_of_lt_of_le hB3 hzz; clear hzz)
            | (go_at_call 36; (with_reducible refine (impl_firstCol s3 k3 f3 _ hs31).mono ?_); first | (rintro e w19 ⟨a19, n19, cap19, rfl, hO19, hb19⟩; rw [HFV.out] at hO19; have HFL3 := Lib.hid hO19.len; have hn19 : n19 ≤ 1048577 := (by have h1 := hO19.len; have h2 := HF21.out; omega); have hS9 := keep9 hb19 hS8 hB1 hB2 hB3; replace hL := hL.kept hb19; replace hN := hN.kept hb19; replace hM := hM.kept hb19; replace hB0 := hB0.trans (hb19.mono hB0.size); have hzz := hb19.size; replace hB1 : B1 < w19.heap.size := Nat.lt_of_lt_of_le hB1 hzz; replace hB2 : B2 < w19.heap.size := Nat.lt_of_lt_of_le hB2 hzz; replace hB3 : B3 < w19.heap.size := Nat.lt_of_lt_of_le hB3 hzz; clear hzz) | (rintro e w15 ⟨a15, n15, cap15, rfl, hO15, hb15⟩; rw [HFV.out] at hO15; have HFL := Lib.hid hO15.len; have hn15 : n15 ≤ 1048577 := (by have h1 := hO15.len; have h2 := HF21.out; omega); have hS5 := keep9 hb15 hS4 hB1 hB2 hB3; replace hL := hL.kept hb15; replace hN := hN.kept hb15; replace hM := hM.kept hb15; replace hB0 := hB0.trans (hb15.mono hB0.size); have hzz := hb15.size; replace hB1 : B1 < w15.heap.size := Nat.lt_of_lt_of_le hB1 hzz; replace hB2 : B2 < w15.heap.size := Nat.lt_of_lt_of_le hB2 hzz; replace hB3 : B3 < w15.heap.size := Nat.lt_of_lt_of_le hB3 hzz; clear hzz))
            | (go_at_call 37; (with_reducible refine (spec_firstCol s3 k3 f3 _ hs31).mono ?_); rintro e w16 ⟨a16, n16, cap16, rfl, hO16, hb16⟩; rw [HFV.out] at hO16; have hn16 : n16 = n15 := hO16.len.symm.trans HFL.out; subst hn16; replace hO15 := hO15.kept hb16; have hS6 := keep9 hb16 hS5 hB1 hB2 hB3; replace hL := hL.kept hb16; replace hN := hN.kept hb16; replace hM := hM.kept hb16; replace hB0 := hB0.trans (hb16.mono hB0.size); have hzz := hb16.size; replace hB1 : B1 < w16.heap.size := Nat.lt_of_lt_of_le hB1 hzz; replace hB2 : B2 < w16.heap.size := Nat.lt_of_lt_of_le hB2 hzz; replace hB3 : B3 < w16.heap.size := Nat.lt_of_lt_of_le hB3 hzz; clear hzz)
            | (go_at_call 38; (with_reducible refine (patternOk_is hs32 HP.out _).mono ?_); rintro e w18 ⟨rfl, hb18⟩; have hS8 := keep9 hb18 hS7 hB1 hB2 hB3; replace hL := hL.kept hb18; replace hN := hN.kept hb18; replace hM := hM.kept hb18; replace hB0 := hB0.trans (hb18.mono hB0.size); have hzz := hb18.size; replace hB1 : B1 < w18.heap.size := Nat.lt_of_lt_of_le hB1 hzz; replace hB2 : B2 < w18.heap.size := Nat.lt_of_lt_of_le hB2 hzz; replace hB3 : B3 < w18.heap.size := Nat.lt_of_lt_of_le hB3 hzz; clear hzz))
        go_wp2_with fail
        go_meet
        case rel => exact ⟨rfl, hB0⟩
    case rest =>
      obtain ⟨rfl, hB7⟩ := hcut
      replace hN := hN.kept hB7
      replace hL := hL.kept hB7
      replace HB := HB.trans (hB7.mono HB.size)
      have q0 := (hB7.cell (p := ⟨B1, 0, none⟩) hB1).trans hS0.1
      have q1 := (hB7.cell (p := ⟨B1, 1, none⟩) hB1).trans hS0.2.1
      have q2 := (hB7.cell (p := ⟨B1, 2, none⟩) hB1).trans hS0.2.2.1
      have hB1w : B1 < wc.heap.size := Nat.lt_of_lt_of_le hB1 hB7.size
      clear hS0 hM hB7 ecb
      by_cases hz : nN = 0
      · subst hz
        go_wp2_with fail
        go_ret
        exact ⟨rfl, HB⟩
      · have hnl := HNL.out
        have hnn := next_near (s := s) (k := k) (f := f) (b := b) (L := L) (by rw [HNV.out]; omega)
        rw [HNV.out] at hnn
        obtain ⟨l1, l2, l3, l4⟩ := hnn
        have e1 : n1 = s.size + 1 := by have := HN.out; omega
        have e2 : nN = s.size + 1 := by omega
        have HQ := fun i => Lib.hid (l4 i)
        have H3 := Lib.hid l3
        have H2 := Lib.hid l1
        have hzb : ((nN : Int) == 0) = false := by simp; omega
        have hzn : ¬ (nN : Int) = 0 := by omega
        have E1 := Lib.hid e1; have E2 := Lib.hid e2
        clear l1 l2 l3 l4 hnl e1 e2
        go_wp2
        go_loopw [10] (fun i wr => ∃ j : Nat, j ≤ nN ∧ i = .int .i64 j ∧ Below wc.heap.size wc wr)
          (fun i _ => nN - (intOf i).toNat)
        case atStart => exact ⟨0, by omega, rfl, Below.refl _ _⟩
        case round =>
          obtain ⟨j, hj, rfl, hb⟩ := hrel
          by_cases hlt : j < nN
          · have hj2 : j < s.size + 1 := by have := E2.out; omega
            have hj3 : j < n1 := by have := E1.out; omega
            obtain ⟨b1, off1, rfl, hp1⟩ := (hN.ints.kept hb).at j (by have := HNL.out; omega)
            obtain ⟨b2, off2, rfl, hp2⟩ := (hL.ints.kept hb).at j (by have := HN.out; omega)
            have c1 := hp1 j (by have := HNL.out; omega)
            have c2 := hp2 j (by have := HN.out; omega)
            obtain ⟨y0, y1, y2, y3⟩ := (HQ j).out hj2
            generalize intAt N j = x at c1 y2 y3
            generalize intAt L j = y at c2 y0 y1 y2 y3
            have d1 : decide (1 < x - y) = false := by simp; omega
            have d2 : decide (1 < y - x) = false := by simp; omega
            have w1' : IntKind.i64.wrap (x - y) = x - y := by rw [IntKind.wrap_i64]; omega
            have w2' : IntKind.i64.wrap (y - x) = y - x := by rw [IntKind.wrap_i64]; omega
            have i1 : (j : Int) < (nN : Int) := by omega
            have i2 : (j : Int) < (n1 : Int) := by omega
            clear hN hL hp1 hp2
            go_wp2_with fail
            go_quiet (fail)
            clear w1' w2'
            go_wp2
            go_roundw
            case rel => exact ⟨j + 1, by omega, by go_num, below_drewN hb _⟩
            case measure => simp [intOf]; omega
          · obtain rfl : j = nN := by omega
            have r0 := (hb.cell (p := ⟨B1, 0, none⟩) hB1w).trans q0
            have r1 := (hb.cell (p := ⟨B1, 1, none⟩) hB1w).trans q1
            have r2 := (hb.cell (p := ⟨B1, 2, none⟩) hB1w).trans q2
            go_wp2_with fail
            refine (colOk_is hs1 HNL.out (hN.ints.kept hb) hnN H3.out).mono ?_
            rintro e w9 ⟨rfl, hb9⟩
            go_wp2_with fail
            go_ret
            exact ⟨rfl, (HB.trans (hb.mono HB.size)).trans (hb9.mono (HB.trans (hb.mono HB.size)).size)⟩
  · have hbig : decide (1048576 < (len : Int)) = true := by simp; omega
    go_enter Try.func5, Try.ntmps5
    go_wp2_with (go_at_call 21; go_in)
    go_ret
    exact ⟨rfl, Below.refl _ _⟩
end Go.Proofs.Ytgocfpdodbhcaaa

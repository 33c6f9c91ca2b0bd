/-
  FnCuts: the walk.
-/
import Derived.Test.YtglldmfhjipacaaL6Draw2
import Derived.Test.YtglldmfhjipacaaCutFacts
import Derived.Test.YtglldmfhjipacaaColDraw
import Derived.Test.YtglldmfhjipacaaL6StepB
import Derived.Test.YtglldmfhjipacaaL6OkL
import Derived.Deep.RegionHeld3
import Derived.Deep.Cut
namespace Go.Proofs.Ytglldmfhjipacaa
open Go.RowKit
set_option linter.unusedVariables false
set_option maxRecDepth 100000
theorem keepC {W W1 : World} {B1 B2 B3 B4 B5 B6 : Nat} {s s3 s5 : ByteArray} {k k3 k5 x1 x2 xN : Int} {f f3 f5 : Bool} {a1 a2 aN : Option Addr} {n1 n2 nN cap1 cap2 capN : Nat} (hb : Below W.heap.size W W1)
    (h : W.cell? ⟨B1, 0, none⟩ = some (.string s) ∧ W.cell? ⟨B1, 1, none⟩ = some (.int .i64 k) ∧ W.cell? ⟨B1, 2, none⟩ = some (.bool f) ∧ W.cell? ⟨B2, 0, none⟩ = some (.slice a1 n1 cap1) ∧ W.cell? ⟨B2, 1, none⟩ = some (.int .i64 x1) ∧ W.cell? ⟨B3, 0, none⟩ = some (.slice aN nN capN) ∧ W.cell? ⟨B3, 1, none⟩ = some (.int .i64 xN) ∧ W.cell? ⟨B4, 0, none⟩ = some (.string s3) ∧ W.cell? ⟨B4, 1, none⟩ = some (.int .i64 k3) ∧ W.cell? ⟨B4, 2, none⟩ = some (.bool f3) ∧ W.cell? ⟨B5, 0, none⟩ = some (.string s5) ∧ W.cell? ⟨B5, 1, none⟩ = some (.int .i64 k5) ∧ W.cell? ⟨B5, 2, none⟩ = some (.bool f5) ∧ W.cell? ⟨B6, 0, none⟩ = some (.slice a2 n2 cap2) ∧ W.cell? ⟨B6, 1, none⟩ = some (.int .i64 x2)) (h1 : B1 < W.heap.size) (h2 : B2 < W.heap.size) (h3 : B3 < W.heap.size) (h4 : B4 < W.heap.size) (h5 : B5 < W.heap.size) (h6 : B6 < W.heap.size) : W1.cell? ⟨B1, 0, none⟩ = some (.string s) ∧ W1.cell? ⟨B1, 1, none⟩ = some (.int .i64 k) ∧ W1.cell? ⟨B1, 2, none⟩ = some (.bool f) ∧ W1.cell? ⟨B2, 0, none⟩ = some (.slice a1 n1 cap1) ∧ W1.cell? ⟨B2, 1, none⟩ = some (.int .i64 x1) ∧ W1.cell? ⟨B3, 0, none⟩ = some (.slice aN nN capN) ∧ W1.cell? ⟨B3, 1, none⟩ = some (.int .i64 xN) ∧ W1.cell? ⟨B4, 0, none⟩ = some (.string s3) ∧ W1.cell? ⟨B4, 1, none⟩ = some (.int .i64 k3) ∧ W1.cell? ⟨B4, 2, none⟩ = some (.bool f3) ∧ W1.cell? ⟨B5, 0, none⟩ = some (.string s5) ∧ W1.cell? ⟨B5, 1, none⟩ = some (.int .i64 k5) ∧ W1.cell? ⟨B5, 2, none⟩ = some (.bool f5) ∧ W1.cell? ⟨B6, 0, none⟩ = some (.slice a2 n2 cap2) ∧ W1.cell? ⟨B6, 1, none⟩ = some (.int .i64 x2) := by
  obtain ⟨c10, c11, c12, c20, c21, c30, c31, c40, c41, c42, c50, c51, c52, c60, c61⟩ := h
  exact ⟨(hb.cell (p := ⟨B1, 0, none⟩) h1).trans c10, (hb.cell (p := ⟨B1, 1, none⟩) h1).trans c11, (hb.cell (p := ⟨B1, 2, none⟩) h1).trans c12, (hb.cell (p := ⟨B2, 0, none⟩) h2).trans c20, (hb.cell (p := ⟨B2, 1, none⟩) h2).trans c21, (hb.cell (p := ⟨B3, 0, none⟩) h3).trans c30, (hb.cell (p := ⟨B3, 1, none⟩) h3).trans c31, (hb.cell (p := ⟨B4, 0, none⟩) h4).trans c40, (hb.cell (p := ⟨B4, 1, none⟩) h4).trans c41, (hb.cell (p := ⟨B4, 2, none⟩) h4).trans c42, (hb.cell (p := ⟨B5, 0, none⟩) h5).trans c50, (hb.cell (p := ⟨B5, 1, none⟩) h5).trans c51, (hb.cell (p := ⟨B5, 2, none⟩) h5).trans c52, (hb.cell (p := ⟨B6, 0, none⟩) h6).trans c60, (hb.cell (p := ⟨B6, 1, none⟩) h6).trans c61⟩
theorem laws_sameCut (L : List Int) (x : Int) (a1 a2 : Option Addr) (n cap1 cap2 : Nat) (w : World) (hn : L.length = n) (h1 : Ints w a1 L) (h2 : Ints w a2 L) (hlen : n ≤ 1048577) :
    Calls Try.prog 63 #[.agg #[.slice a1 n cap1, .int .i64 x], .agg #[.slice a2 n cap2, .int .i64 x]] w fun e w' => e = .returned (.bool true) ∧ Below w.heap.size w w' := by
  have HN := Lib.hid hn; clear hn
  have hb0 : Below w.heap.size w ((w.alloc (.cells #[.slice a1 n cap1, .int .i64 x] 79)).alloc (.cells #[.slice a2 n cap2, .int .i64 x] 79)) := (by repeat (first | exact Below.refl _ _ | assumption | (refine Below.drew ?_) | (refine below_drewN ?_ _) | (refine Below.alloc ?_ (by first | omega | (simp; done) | (simp; omega)) _) | (refine Below.setCell ?_ (by first | omega | (simp; done) | (simp; omega)) _)))
  have H1 := Lib.hid (h1.kept hb0); have H2 := Lib.hid (h2.kept hb0)
  clear h1 h2
  go_enter Try.func63, Try.ntmps63
  go_wp2_with fail
  refine (laws_sameInts L _ _ n _ _ _ HN.out H1.out H2.out hlen).mono ?_
  rintro e w1 ⟨rfl, hb1⟩
  go_wp2_with fail
  go_ret
  exact ⟨rfl, below_step hb0 hb1⟩
theorem cutOkI_is {s : ByteArray} {k : Int} {f : Bool} {L : List Int} {x : Int} {a : Option Addr} {n cap : Nat} {w : World} {v : Bool} (hs : s.size ≤ 1048576) (hn : L.length = n) (h : Ints w a L) (hlen : n ≤ 1048577) (hx : -9223372036854775808 ≤ x ∧ x ≤ 9223372036854775807) (hv : cutOkB s k L x = v) :
    Calls Try.prog 67 #[.agg #[.string s, .int .i64 k, .bool f], .agg #[.slice a n cap, .int .i64 x]] w fun e w' => e = .returned (.bool v) ∧ Below w.heap.size w w' :=
  (impl_cutOk s k f L x a n cap w hs hn h hlen hx).mono fun _ _ h2 => ⟨by rw [h2.1, hv], h2.2⟩
theorem cutOkS_is {s : ByteArray} {k : Int} {f : Bool} {L : List Int} {x : Int} {a : Option Addr} {n cap : Nat} {w : World} {v : Bool} (hs : s.size ≤ 1048576) (hn : L.length = n) (h : Ints w a L) (hlen : n ≤ 1048577) (hx : -9223372036854775808 ≤ x ∧ x ≤ 9223372036854775807) (hv : cutOkB s k L x = v) :
    Calls Try.prog 68 #[.agg #[.string s, .int .i64 k, .bool f], .agg #[.slice a n cap, .int .i64 x]] w fun e w' => e = .returned (.bool v) ∧ Below w.heap.size w w' :=
  (spec_cutOk s k f L x a n cap w hs hn h hlen hx).mono fun _ _ h2 => ⟨by rw [h2.1, hv], h2.2⟩
set_option maxHeartbeats 4000000 in
theorem law_FnCuts (a : Option Addr) (len cap : Nat) (z : List Int) (w : World) (hr : IsRow .u8 w a len cap z) :
    Calls Try.prog 13 #[.slice a len cap] w fun e w' => e = .returned (.bool true) ∧ Below w.heap.size w w' := by
  by_cases hl : len ≤ 1048576
  · have hbig : decide (1048576 < (len : Int)) = false := by simp; omega
    go_enter Try.func13, Try.ntmps13
    go_wp2_with (go_at_call 15; refine (laws_big _ _ _ _ (by omega)).mono ?_; rintro e w' ⟨rfl, rfl⟩)
    refine (drawCutStep _ _ _ _ _ hr hl).mono ?_
    rintro e w1 ⟨s, k, f, a1, n1, cap1, x1, b, rfl, hs, hk, ⟨L, hL, hF⟩, hb, HB⟩
    have HF := Lib.hid hF; have HN := Lib.hid hL.len; clear hF
    have hn21 : n1 ≤ 21 := by have := HF.out.1; have := HN.out; omega
    go_wp2_with fail
    have r1 := heap_alloc2_old w1 (.cells #[.string s, .int .i64 k, .bool f] 48) (.cells #[.slice a1 n1 cap1, .int .i64 x1] 79)
    have r2 := heap_alloc2_new w1 (.cells #[.string s, .int .i64 k, .bool f] 48) (.cells #[.slice a1 n1 cap1, .int .i64 x1] 79)
    have hbx : Below w1.heap.size w1 ((w1.alloc (.cells #[.string s, .int .i64 k, .bool f] 48)).alloc (.cells #[.slice a1 n1 cap1, .int .i64 x1] 79)) := ((Below.refl _ _).alloc (Nat.le_refl _) _).alloc (by simp) _
    have z1 : w1.heap.size < ((w1.alloc (.cells #[.string s, .int .i64 k, .bool f] 48)).alloc (.cells #[.slice a1 n1 cap1, .int .i64 x1] 79)).heap.size := by simp; omega
    have z2 : w1.heap.size + 1 < ((w1.alloc (.cells #[.string s, .int .i64 k, .bool f] 48)).alloc (.cells #[.slice a1 n1 cap1, .int .i64 x1] 79)).heap.size := by simp
    generalize ((w1.alloc (.cells #[.string s, .int .i64 k, .bool f] 48)).alloc (.cells #[.slice a1 n1 cap1, .int .i64 x1] 79)) = V1 at *
    replace hL := hL.kept hbx
    replace HB := HB.trans (hbx.mono HB.size)
    clear hbx
    obtain ⟨B2, hB2⟩ : ∃ G, w1.heap.size + 1 = G := ⟨_, rfl⟩
    rw [hB2] at r2 z2 ⊢
    clear hB2
    generalize w1.heap.size = B1 at *
    have hs1 : s.size ≤ 1048576 := by omega
    have hn1 : n1 ≤ 1048577 := by omega
    have HW := Lib.hid HF.out.2.2
    have hLd := hL.ints
    refine (impl_cutStep s k f L x1 a1 n1 cap1 b _ hs1 HN.out hLd hn1 HW.out).mono ?_
    rintro e w2 ⟨aN, nN, capN, rfl, hN, hb2⟩
    obtain ⟨N, hNV⟩ : ∃ N, cutStepL s k f b L x1 = N := ⟨_, rfl⟩
    obtain ⟨xN, hXV⟩ : ∃ x, cutStepI s k f b L x1 = x := ⟨_, rfl⟩
    have hNF := fine_cutStep (s := s) (k := k) f b hs HF.out
    rw [hNV, hXV] at hNF
    rw [hNV] at hN
    rw [hXV]
    have HXV := Lib.hid hXV; clear hXV
    have hnN21 : nN ≤ 21 := by have := hNF.1; have := hN.len; omega
    have HNV := Lib.hid hNV; have HNL := Lib.hid hN.len; have HNF := Lib.hid hNF
    clear hNV hNF hLd
    replace r1 := (hb2.block B1 z1).trans r1
    replace r2 := (hb2.block B2 z2).trans r2
    replace hL := hL.kept hb2
    replace z1 := Nat.lt_of_lt_of_le z1 hb2.size
    replace z2 := Nat.lt_of_lt_of_le z2 hb2.size
    replace HB := HB.trans (hb2.mono HB.size)
    clear hb2
    go_wp2_with fail
    have r3 := heap_alloc_new w2 (.cells #[.slice aN nN capN, .int .i64 xN] 79)
    have hbx : Below w2.heap.size w2 (w2.alloc (.cells #[.slice aN nN capN, .int .i64 xN] 79)) := (Below.refl _ _).alloc (Nat.le_refl _) _
    have z3 : w2.heap.size < (w2.alloc (.cells #[.slice aN nN capN, .int .i64 xN] 79)).heap.size := by simp
    generalize (w2.alloc (.cells #[.slice aN nN capN, .int .i64 xN] 79)) = V2 at *
    replace r1 := (hbx.block B1 z1).trans r1
    replace r2 := (hbx.block B2 z2).trans r2
    replace hL := hL.kept hbx
    replace hN := hN.kept hbx
    replace z1 := Nat.lt_of_lt_of_le z1 hbx.size
    replace z2 := Nat.lt_of_lt_of_le z2 hbx.size
    replace HB := HB.trans (hbx.mono HB.size)
    clear hbx
    generalize w2.heap.size = B3 at *
    refine (drawCutNew _ _ _ _ _ (isRow_below hr HB) hl).mono ?_
    rintro e w3 ⟨s3, k3, f3, rfl, hs3, hk3, hb3⟩
    replace r1 := (hb3.block B1 z1).trans r1
    replace r2 := (hb3.block B2 z2).trans r2
    replace r3 := (hb3.block B3 z3).trans r3
    replace hL := hL.kept hb3
    replace hN := hN.kept hb3
    replace z1 := Nat.lt_of_lt_of_le z1 hb3.size
    replace z2 := Nat.lt_of_lt_of_le z2 hb3.size
    replace z3 := Nat.lt_of_lt_of_le z3 hb3.size
    replace HB := HB.trans (hb3.mono HB.size)
    clear hb3
    go_wp2_with fail
    have r4 := heap_alloc_new w3 (.cells #[.string s3, .int .i64 k3, .bool f3] 48)
    have hbx : Below w3.heap.size w3 (w3.alloc (.cells #[.string s3, .int .i64 k3, .bool f3] 48)) := (Below.refl _ _).alloc (Nat.le_refl _) _
    have z4 : w3.heap.size < (w3.alloc (.cells #[.string s3, .int .i64 k3, .bool f3] 48)).heap.size := by simp
    generalize (w3.alloc (.cells #[.string s3, .int .i64 k3, .bool f3] 48)) = V3 at *
    replace r1 := (hbx.block B1 z1).trans r1
    replace r2 := (hbx.block B2 z2).trans r2
    replace r3 := (hbx.block B3 z3).trans r3
    replace hL := hL.kept hbx
    replace hN := hN.kept hbx
    replace z1 := Nat.lt_of_lt_of_le z1 hbx.size
    replace z2 := Nat.lt_of_lt_of_le z2 hbx.size
    replace z3 := Nat.lt_of_lt_of_le z3 hbx.size
    replace HB := HB.trans (hbx.mono HB.size)
    clear hbx
    generalize w3.heap.size = B4 at *
    refine (drawCutOk _ _ _ _ _ (isRow_below hr HB) hl).mono ?_
    rintro e w4 ⟨s5, k5, f5, a2, n2, cap2, x2, rfl, hs5, hk5, ⟨M, hM, hMF⟩, hb4⟩
    have HMF := Lib.hid hMF; have HMN := Lib.hid hM.len; clear hMF
    have hn2 : n2 ≤ 21 := by have := HMF.out.1; have := HMN.out; omega
    replace r1 := (hb4.block B1 z1).trans r1
    replace r2 := (hb4.block B2 z2).trans r2
    replace r3 := (hb4.block B3 z3).trans r3
    replace r4 := (hb4.block B4 z4).trans r4
    replace hL := hL.kept hb4
    replace hN := hN.kept hb4
    replace z1 := Nat.lt_of_lt_of_le z1 hb4.size
    replace z2 := Nat.lt_of_lt_of_le z2 hb4.size
    replace z3 := Nat.lt_of_lt_of_le z3 hb4.size
    replace z4 := Nat.lt_of_lt_of_le z4 hb4.size
    replace HB := HB.trans (hb4.mono HB.size)
    clear hb4
    go_wp2_with fail
    have r5 := heap_alloc2_old w4 (.cells #[.string s5, .int .i64 k5, .bool f5] 48) (.cells #[.slice a2 n2 cap2, .int .i64 x2] 79)
    have r6 := heap_alloc2_new w4 (.cells #[.string s5, .int .i64 k5, .bool f5] 48) (.cells #[.slice a2 n2 cap2, .int .i64 x2] 79)
    have hbx : Below w4.heap.size w4 ((w4.alloc (.cells #[.string s5, .int .i64 k5, .bool f5] 48)).alloc (.cells #[.slice a2 n2 cap2, .int .i64 x2] 79)) := ((Below.refl _ _).alloc (Nat.le_refl _) _).alloc (by simp) _
    have z5 : w4.heap.size < ((w4.alloc (.cells #[.string s5, .int .i64 k5, .bool f5] 48)).alloc (.cells #[.slice a2 n2 cap2, .int .i64 x2] 79)).heap.size := by simp; omega
    have z6 : w4.heap.size + 1 < ((w4.alloc (.cells #[.string s5, .int .i64 k5, .bool f5] 48)).alloc (.cells #[.slice a2 n2 cap2, .int .i64 x2] 79)).heap.size := by simp
    generalize ((w4.alloc (.cells #[.string s5, .int .i64 k5, .bool f5] 48)).alloc (.cells #[.slice a2 n2 cap2, .int .i64 x2] 79)) = V4 at *
    replace r1 := (hbx.block B1 z1).trans r1
    replace r2 := (hbx.block B2 z2).trans r2
    replace r3 := (hbx.block B3 z3).trans r3
    replace r4 := (hbx.block B4 z4).trans r4
    replace hL := hL.kept hbx
    replace hN := hN.kept hbx
    replace hM := hM.kept hbx
    replace z1 := Nat.lt_of_lt_of_le z1 hbx.size
    replace z2 := Nat.lt_of_lt_of_le z2 hbx.size
    replace z3 := Nat.lt_of_lt_of_le z3 hbx.size
    replace z4 := Nat.lt_of_lt_of_le z4 hbx.size
    replace HB := HB.trans (hbx.mono HB.size)
    clear hbx
    obtain ⟨B6, hB6⟩ : ∃ G, w4.heap.size + 1 = G := ⟨_, rfl⟩
    rw [hB6] at r6 z6 ⊢
    clear hB6
    generalize w4.heap.size = B5 at *
    clear hr
    have hS0 : V4.drew.cell? ⟨B1, 0, none⟩ = some (.string s) ∧ V4.drew.cell? ⟨B1, 1, none⟩ = some (.int .i64 k) ∧ V4.drew.cell? ⟨B1, 2, none⟩ = some (.bool f) ∧ V4.drew.cell? ⟨B2, 0, none⟩ = some (.slice a1 n1 cap1) ∧ V4.drew.cell? ⟨B2, 1, none⟩ = some (.int .i64 x1) ∧ V4.drew.cell? ⟨B3, 0, none⟩ = some (.slice aN nN capN) ∧ V4.drew.cell? ⟨B3, 1, none⟩ = some (.int .i64 xN) ∧ V4.drew.cell? ⟨B4, 0, none⟩ = some (.string s3) ∧ V4.drew.cell? ⟨B4, 1, none⟩ = some (.int .i64 k3) ∧ V4.drew.cell? ⟨B4, 2, none⟩ = some (.bool f3) ∧ V4.drew.cell? ⟨B5, 0, none⟩ = some (.string s5) ∧ V4.drew.cell? ⟨B5, 1, none⟩ = some (.int .i64 k5) ∧ V4.drew.cell? ⟨B5, 2, none⟩ = some (.bool f5) ∧ V4.drew.cell? ⟨B6, 0, none⟩ = some (.slice a2 n2 cap2) ∧ V4.drew.cell? ⟨B6, 1, none⟩ = some (.int .i64 x2) := ⟨by rw [cell_of_row _ _ 0 _ _ _ (show V4.drew.heap[B1]? = _ from r1)]; rfl, by rw [cell_of_row _ _ 1 _ _ _ (show V4.drew.heap[B1]? = _ from r1)]; rfl, by rw [cell_of_row _ _ 2 _ _ _ (show V4.drew.heap[B1]? = _ from r1)]; rfl, by rw [cell_of_row _ _ 0 _ _ _ (show V4.drew.heap[B2]? = _ from r2)]; rfl, by rw [cell_of_row _ _ 1 _ _ _ (show V4.drew.heap[B2]? = _ from r2)]; rfl, by rw [cell_of_row _ _ 0 _ _ _ (show V4.drew.heap[B3]? = _ from r3)]; rfl, by rw [cell_of_row _ _ 1 _ _ _ (show V4.drew.heap[B3]? = _ from r3)]; rfl, by rw [cell_of_row _ _ 0 _ _ _ (show V4.drew.heap[B4]? = _ from r4)]; rfl, by rw [cell_of_row _ _ 1 _ _ _ (show V4.drew.heap[B4]? = _ from r4)]; rfl, by rw [cell_of_row _ _ 2 _ _ _ (show V4.drew.heap[B4]? = _ from r4)]; rfl, by rw [cell_of_row _ _ 0 _ _ _ (show V4.drew.heap[B5]? = _ from r5)]; rfl, by rw [cell_of_row _ _ 1 _ _ _ (show V4.drew.heap[B5]? = _ from r5)]; rfl, by rw [cell_of_row _ _ 2 _ _ _ (show V4.drew.heap[B5]? = _ from r5)]; rfl, by rw [cell_of_row _ _ 0 _ _ _ (show V4.drew.heap[B6]? = _ from r6)]; rfl, by rw [cell_of_row _ _ 1 _ _ _ (show V4.drew.heap[B6]? = _ from r6)]; rfl⟩
    have hbd := (Below.refl V4.heap.size V4).drew
    replace hL := hL.kept hbd
    replace hN := hN.kept hbd
    replace hM := hM.kept hbd
    replace HB := HB.drew
    replace z1 : B1 < V4.drew.heap.size := z1
    replace z2 : B2 < V4.drew.heap.size := z2
    replace z3 : B3 < V4.drew.heap.size := z3
    replace z4 : B4 < V4.drew.heap.size := z4
    replace z5 : B5 < V4.drew.heap.size := z5
    replace z6 : B6 < V4.drew.heap.size := z6
    clear hbd r1 r2 r3 r4 r5 r6
    have hs31 : s3.size ≤ 1048576 := by omega
    have hs51 : s5.size ≤ 1048576 := by omega
    have hnN : nN ≤ 1048577 := by omega
    have hn2b : n2 ≤ 1048577 := by omega
    obtain ⟨cb, hcb⟩ : ∃ cb, cutOkB s5 k5 M x2 = cb := ⟨_, rfl⟩
    obtain ⟨F, hFV⟩ : ∃ F, cutNewL s3 k3 = F := ⟨_, rfl⟩
    obtain ⟨xF, hXF⟩ : ∃ F, cutNewI s3 k3 = F := ⟨_, rfl⟩
    have hFF := fine_cutNew s3 k3 hs3
    have HMW := Lib.hid HMF.out.2.2
    have HXF := Lib.hid hXF; clear hXF
    rw [hFV] at hFF
    have HF21 := Lib.hid hFF.1
    have HFV := Lib.hid hFV; have HCB := Lib.hid hcb
    have ecb : (cb != cb) = false := by simp
    clear hcb hFV hFF
    go_wp2_with fail
    go_cut [52] from 29 (fun x wr => x = .bool false ∧ Below V4.drew.heap.size V4.drew wr)
    case first =>
      have hB0 := Below.refl V4.drew.heap.size V4.drew
      go_region_held3 (fun W => W.cell? ⟨B1, 0, none⟩ = some (.string s) ∧ W.cell? ⟨B1, 1, none⟩ = some (.int .i64 k) ∧ W.cell? ⟨B1, 2, none⟩ = some (.bool f) ∧ W.cell? ⟨B2, 0, none⟩ = some (.slice a1 n1 cap1) ∧ W.cell? ⟨B2, 1, none⟩ = some (.int .i64 x1) ∧ W.cell? ⟨B3, 0, none⟩ = some (.slice aN nN capN) ∧ W.cell? ⟨B3, 1, none⟩ = some (.int .i64 xN) ∧ W.cell? ⟨B4, 0, none⟩ = some (.string s3) ∧ W.cell? ⟨B4, 1, none⟩ = some (.int .i64 k3) ∧ W.cell? ⟨B4, 2, none⟩ = some (.bool f3) ∧ W.cell? ⟨B5, 0, none⟩ = some (.string s5) ∧ W.cell? ⟨B5, 1, none⟩ = some (.int .i64 k5) ∧ W.cell? ⟨B5, 2, none⟩ = some (.bool f5) ∧ W.cell? ⟨B6, 0, none⟩ = some (.slice a2 n2 cap2) ∧ W.cell? ⟨B6, 1, none⟩ = some (.int .i64 x2)) (first | with_reducible exact hS0 | with_reducible exact hS1 | with_reducible exact hS2 | with_reducible exact hS3 | with_reducible exact hS4 | with_reducible exact hS5 | with_reducible exact hS6 | with_reducible exact hS7 | go_keep)
        (first
          | (go_at_call 64; (with_reducible refine (spec_cutStep s k f L x1 a1 n1 cap1 b _ hs1 HN.out hL.ints hn1 HW.out).mono ?_); rintro e w11 ⟨a11, n11, cap11, rfl, hO11, hb11⟩; rw [HNV.out] at hO11; rw [HXV.out]; have hn11 : n11 = nN := hO11.len.symm.trans HNL.out; subst hn11; have hS1 := keepC hb11 hS0 z1 z2 z3 z4 z5 z6; replace hL := hL.kept hb11; replace hN := hN.kept hb11; replace hM := hM.kept hb11; replace hB0 := hB0.trans (hb11.mono hB0.size); have hzz := hb11.size; replace z1 : B1 < w11.heap.size := Nat.lt_of_lt_of_le z1 hzz; replace z2 : B2 < w11.heap.size := Nat.lt_of_lt_of_le z2 hzz; replace z3 : B3 < w11.heap.size := Nat.lt_of_lt_of_le z3 hzz; replace z4 : B4 < w11.heap.size := Nat.lt_of_lt_of_le z4 hzz; replace z5 : B5 < w11.heap.size := Nat.lt_of_lt_of_le z5 hzz; replace z6 : B6 < w11.heap.size := Nat.lt_of_lt_of_le z6 hzz; clear hzz)
          | (go_at_call 63; first | ((with_reducible refine (laws_sameCut F xF _ _ n16 _ _ _ HFL.out hO15.ints hO16.ints hn15).mono ?_); rintro e w17 ⟨rfl, hb17⟩; have hS5 := keepC hb17 hS4 z1 z2 z3 z4 z5 z6; replace hL := hL.kept hb17; replace hN := hN.kept hb17; replace hM := hM.kept hb17; replace hB0 := hB0.trans (hb17.mono hB0.size); have hzz := hb17.size; replace z1 : B1 < w17.heap.size := Nat.lt_of_lt_of_le z1 hzz; replace z2 : B2 < w17.heap.size := Nat.lt_of_lt_of_le z2 hzz; replace z3 : B3 < w17.heap.size := Nat.lt_of_lt_of_le z3 hzz; replace z4 : B4 < w17.heap.size := Nat.lt_of_lt_of_le z4 hzz; replace z5 : B5 < w17.heap.size := Nat.lt_of_lt_of_le z5 hzz; replace z6 : B6 < w17.heap.size := Nat.lt_of_lt_of_le z6 hzz; clear hzz) | ((with_reducible refine (laws_sameCut N xN _ _ n11 _ _ _ HNL.out hN.ints hO11.ints hnN).mono ?_); rintro e w12 ⟨rfl, hb12⟩; have hS2 := keepC hb12 hS1 z1 z2 z3 z4 z5 z6; replace hL := hL.kept hb12; replace hN := hN.kept hb12; replace hM := hM.kept hb12; replace hB0 := hB0.trans (hb12.mono hB0.size); have hzz := hb12.size; replace z1 : B1 < w12.heap.size := Nat.lt_of_lt_of_le z1 hzz; replace z2 : B2 < w12.heap.size := Nat.lt_of_lt_of_le z2 hzz; replace z3 : B3 < w12.heap.size := Nat.lt_of_lt_of_le z3 hzz; replace z4 : B4 < w12.heap.size := Nat.lt_of_lt_of_le z4 hzz; replace z5 : B5 < w12.heap.size := Nat.lt_of_lt_of_le z5 hzz; replace z6 : B6 < w12.heap.size := Nat.lt_of_lt_of_le z6 hzz; clear hzz))
          | (go_at_call 65; (with_reducible refine (impl_cutNew s3 k3 f3 _ hs31).mono ?_); rintro e w15 ⟨a15, n15, cap15, rfl, hO15, hb15⟩; rw [HXF.out]; rw [HFV.out] at hO15; have HFL := Lib.hid hO15.len; have hn15 : n15 ≤ 1048577 := (by have h1 := hO15.len; have h2 := HF21.out; omega); have hS3 := keepC hb15 hS2 z1 z2 z3 z4 z5 z6; replace hL := hL.kept hb15; replace hN := hN.kept hb15; replace hM := hM.kept hb15; replace hB0 := hB0.trans (hb15.mono hB0.size); have hzz := hb15.size; replace z1 : B1 < w15.heap.size := Nat.lt_of_lt_of_le z1 hzz; replace z2 : B2 < w15.heap.size := Nat.lt_of_lt_of_le z2 hzz; replace z3 : B3 < w15.heap.size := Nat.lt_of_lt_of_le z3 hzz; replace z4 : B4 < w15.heap.size := Nat.lt_of_lt_of_le z4 hzz; replace z5 : B5 < w15.heap.size := Nat.lt_of_lt_of_le z5 hzz; replace z6 : B6 < w15.heap.size := Nat.lt_of_lt_of_le z6 hzz; clear hzz)
          | (go_at_call 66; (with_reducible refine (spec_cutNew s3 k3 f3 _ hs31).mono ?_); rintro e w16 ⟨a16, n16, cap16, rfl, hO16, hb16⟩; rw [HXF.out]; rw [HFV.out] at hO16; have hn16 : n16 = n15 := hO16.len.symm.trans HFL.out; subst hn16; replace hO15 := hO15.kept hb16; have hS4 := keepC hb16 hS3 z1 z2 z3 z4 z5 z6; replace hL := hL.kept hb16; replace hN := hN.kept hb16; replace hM := hM.kept hb16; replace hB0 := hB0.trans (hb16.mono hB0.size); have hzz := hb16.size; replace z1 : B1 < w16.heap.size := Nat.lt_of_lt_of_le z1 hzz; replace z2 : B2 < w16.heap.size := Nat.lt_of_lt_of_le z2 hzz; replace z3 : B3 < w16.heap.size := Nat.lt_of_lt_of_le z3 hzz; replace z4 : B4 < w16.heap.size := Nat.lt_of_lt_of_le z4 hzz; replace z5 : B5 < w16.heap.size := Nat.lt_of_lt_of_le z5 hzz; replace z6 : B6 < w16.heap.size := Nat.lt_of_lt_of_le z6 hzz; clear hzz)
          | (go_at_call 67; (with_reducible refine (cutOkI_is hs51 HMN.out hM.ints hn2b HMW.out HCB.out).mono ?_); rintro e w18 ⟨rfl, hb18⟩; have hS6 := keepC hb18 hS5 z1 z2 z3 z4 z5 z6; replace hL := hL.kept hb18; replace hN := hN.kept hb18; replace hM := hM.kept hb18; replace hB0 := hB0.trans (hb18.mono hB0.size); have hzz := hb18.size; replace z1 : B1 < w18.heap.size := Nat.lt_of_lt_of_le z1 hzz; replace z2 : B2 < w18.heap.size := Nat.lt_of_lt_of_le z2 hzz; replace z3 : B3 < w18.heap.size := Nat.lt_of_lt_of_le z3 hzz; replace z4 : B4 < w18.heap.size := Nat.lt_of_lt_of_le z4 hzz; replace z5 : B5 < w18.heap.size := Nat.lt_of_lt_of_le z5 hzz; replace z6 : B6 < w18.heap.size := Nat.lt_of_lt_of_le z6 hzz; clear hzz)
          | (go_at_call 68; (with_reducible refine (cutOkS_is hs51 HMN.out hM.ints hn2b HMW.out HCB.out).mono ?_); rintro e w19 ⟨rfl, hb19⟩; have hS7 := keepC hb19 hS6 z1 z2 z3 z4 z5 z6; replace hL := hL.kept hb19; replace hN := hN.kept hb19; replace hM := hM.kept hb19; replace hB0 := hB0.trans (hb19.mono hB0.size); have hzz := hb19.size; replace z1 : B1 < w19.heap.size := Nat.lt_of_lt_of_le z1 hzz; replace z2 : B2 < w19.heap.size := Nat.lt_of_lt_of_le z2 hzz; replace z3 : B3 < w19.heap.size := Nat.lt_of_lt_of_le z3 hzz; replace z4 : B4 < w19.heap.size := Nat.lt_of_lt_of_le z4 hzz; replace z5 : B5 < w19.heap.size := Nat.lt_of_lt_of_le z5 hzz; replace z6 : B6 < w19.heap.size := Nat.lt_of_lt_of_le z6 hzz; clear hzz))
      go_wp2_with fail
      go_meet
      case rel => exact ⟨rfl, hB0⟩
    case rest =>
      obtain ⟨rfl, hB7⟩ := hcut
      have hS := keepC hB7 hS0 z1 z2 z3 z4 z5 z6
      replace hL := hL.kept hB7
      replace hN := hN.kept hB7
      replace HB := HB.trans (hB7.mono HB.size)
      replace z1 := Nat.lt_of_lt_of_le z1 hB7.size
      replace z2 := Nat.lt_of_lt_of_le z2 hB7.size
      replace z3 := Nat.lt_of_lt_of_le z3 hB7.size
      obtain ⟨c10, c11, c12, c20, c21, c30, c31, c40, c41, c42, c50, c51, c52, c60, c61⟩ := hS
      clear hS0 hM hB7 ecb z4 z5 z6 c40 c41 c42 c50 c51 c52 c60 c61
      generalize wc = W5 at *
      cases hro : cutOkB s k L x1
      · have hn0 : nN = 0 := by
          have h1 := HNL.out; have h2 := HNV.out
          unfold cutStepL cutStepB at h2; rw [hro] at h2; simp at h2; rw [h2] at h1; simpa using h1.symm
        subst hn0
        have HRO := Lib.hid hro; clear hro
        go_wp2_with fail
        refine (cutOkS_is hs1 HN.out hL.ints hn1 HW.out HRO.out).mono ?_
        rintro e w9 ⟨rfl, hb9⟩
        replace c10 := (hb9.cell (p := ⟨B1, 0, none⟩) z1).trans c10
        replace c11 := (hb9.cell (p := ⟨B1, 1, none⟩) z1).trans c11
        replace c12 := (hb9.cell (p := ⟨B1, 2, none⟩) z1).trans c12
        replace c20 := (hb9.cell (p := ⟨B2, 0, none⟩) z2).trans c20
        replace c21 := (hb9.cell (p := ⟨B2, 1, none⟩) z2).trans c21
        replace c30 := (hb9.cell (p := ⟨B3, 0, none⟩) z3).trans c30
        replace c31 := (hb9.cell (p := ⟨B3, 1, none⟩) z3).trans c31
        replace HB := HB.trans (hb9.mono HB.size)
        replace hN := hN.kept hb9
        replace z1 := Nat.lt_of_lt_of_le z1 hb9.size
        replace z2 := Nat.lt_of_lt_of_le z2 hb9.size
        replace z3 := Nat.lt_of_lt_of_le z3 hb9.size
        clear hb9
        go_wp2_with fail
        go_ret
        exact ⟨rfl, HB⟩
      · cases hib : inB b 0 255
        · have hn0 : nN = 0 := by
            have h1 := HNL.out; have h2 := HNV.out
            unfold cutStepL cutStepB at h2; rw [hro, hib] at h2; simp at h2; rw [h2] at h1; simpa using h1.symm
          subst hn0
          have hbo : b < 0 ∨ (¬ b < 0 ∧ 255 < b) := by
            by_cases h0 : b < 0
            · exact .inl h0
            · refine .inr ⟨h0, ?_⟩
              by_cases h1 : b ≤ 255
              · rw [inB_yes ⟨by omega, h1⟩] at hib; cases hib
              · omega
          have HRO := Lib.hid hro; clear hro hib
          go_wp2_with fail
          refine (cutOkS_is hs1 HN.out hL.ints hn1 HW.out HRO.out).mono ?_
          rintro e w9 ⟨rfl, hb9⟩
          replace c10 := (hb9.cell (p := ⟨B1, 0, none⟩) z1).trans c10
          replace c11 := (hb9.cell (p := ⟨B1, 1, none⟩) z1).trans c11
          replace c12 := (hb9.cell (p := ⟨B1, 2, none⟩) z1).trans c12
          replace c20 := (hb9.cell (p := ⟨B2, 0, none⟩) z2).trans c20
          replace c21 := (hb9.cell (p := ⟨B2, 1, none⟩) z2).trans c21
          replace c30 := (hb9.cell (p := ⟨B3, 0, none⟩) z3).trans c30
          replace c31 := (hb9.cell (p := ⟨B3, 1, none⟩) z3).trans c31
          replace HB := HB.trans (hb9.mono HB.size)
          replace hN := hN.kept hb9
          replace z1 := Nat.lt_of_lt_of_le z1 hb9.size
          replace z2 := Nat.lt_of_lt_of_le z2 hb9.size
          replace z3 := Nat.lt_of_lt_of_le z3 hb9.size
          clear hb9
          rcases hbo with h | ⟨h, h2⟩
          all_goals
            go_wp2_with fail
            go_ret
            exact ⟨rfl, HB⟩
        · have hb2 : 0 ≤ b ∧ b ≤ 255 := by simpa [inB] using hib
          obtain ⟨q1, hq1⟩ : ∃ q : Nat, x1 = (q : Int) := by
            obtain ⟨_, h0, _⟩ := cutOkB_iff.1 hro
            exact ⟨x1.toNat, by omega⟩
          obtain ⟨hNok, hlast⟩ : cutOkB s k N xN = true ∧ xN ≤ x1 + 1 + k := by
            rw [hq1] at hro
            have h := cut_step_ok (f := f) hro hib
            rw [← hq1, HNV.out, HXV.out] at h
            exact h
          have HNK := Lib.hid hNok; clear hNok hq1
          have HRO := Lib.hid hro; clear hro hib
          go_wp2_with fail
          refine (cutOkS_is hs1 HN.out hL.ints hn1 HW.out HRO.out).mono ?_
          rintro e w9 ⟨rfl, hb9⟩
          replace c10 := (hb9.cell (p := ⟨B1, 0, none⟩) z1).trans c10
          replace c11 := (hb9.cell (p := ⟨B1, 1, none⟩) z1).trans c11
          replace c12 := (hb9.cell (p := ⟨B1, 2, none⟩) z1).trans c12
          replace c20 := (hb9.cell (p := ⟨B2, 0, none⟩) z2).trans c20
          replace c21 := (hb9.cell (p := ⟨B2, 1, none⟩) z2).trans c21
          replace c30 := (hb9.cell (p := ⟨B3, 0, none⟩) z3).trans c30
          replace c31 := (hb9.cell (p := ⟨B3, 1, none⟩) z3).trans c31
          replace HB := HB.trans (hb9.mono HB.size)
          replace hN := hN.kept hb9
          replace z1 := Nat.lt_of_lt_of_le z1 hb9.size
          replace z2 := Nat.lt_of_lt_of_le z2 hb9.size
          replace z3 := Nat.lt_of_lt_of_le z3 hb9.size
          clear hb9
          obtain ⟨hb0, hb255⟩ := hb2
          obtain ⟨hx0, hx8, hk0, hk4⟩ : 0 ≤ x1 ∧ x1 ≤ 8 ∧ 0 ≤ k ∧ k ≤ 4 := by
            obtain ⟨h1, h2, h3, _⟩ := cutOkB_iff.1 HRO.out
            obtain ⟨_, _, h4, h5⟩ := (patOk_iff s k).1 h1
            exact ⟨h2, by omega, h4, h5⟩
          have w1' : IntKind.i64.wrap (x1 + 1) = x1 + 1 := by rw [IntKind.wrap_i64]; omega
          have w2' : IntKind.i64.wrap (x1 + 1 + k) = x1 + 1 + k := by rw [IntKind.wrap_i64]; omega
          go_wp2_with fail
          refine (cutOkI_is hs1 HNL.out hN.ints hnN HNF.out.2.2 HNK.out).mono ?_
          rintro e w12 ⟨rfl, hb12⟩
          replace c11 := (hb12.cell (p := ⟨B1, 1, none⟩) z1).trans c11
          replace c21 := (hb12.cell (p := ⟨B2, 1, none⟩) z2).trans c21
          replace c31 := (hb12.cell (p := ⟨B3, 1, none⟩) z3).trans c31
          replace HB := HB.trans (hb12.mono HB.size)
          clear hb12 c10 c12 c20 c30
          go_wp2_with fail
          go_ret
          exact ⟨rfl, HB⟩
  · have hbig : decide (1048576 < (len : Int)) = true := by simp; omega
    go_enter Try.func13, Try.ntmps13
    go_wp2_with (go_at_call 15; go_in)
    go_ret
    exact ⟨rfl, Below.refl _ _⟩
end Go.Proofs.Ytglldmfhjipacaa

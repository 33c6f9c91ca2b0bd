/-
  FnRings: the walk.
-/
import Derived.Test.YtglldmfhjipacaaRingFacts
import Derived.Deep.RegionLaw
import Derived.Deep.Cut
namespace Go.Proofs.Ytglldmfhjipacaa
open Go.RowKit
set_option linter.unusedVariables false
set_option maxRecDepth 100000
theorem ringOkI_is {y e : Int} {d : ByteArray} {v : Bool} (hd : d.size ≤ 1048576) (h : ringB y e d.size = v) (w : World) :
    Calls Try.prog 23 #[.agg #[.int .i64 y, .int .i64 e, .string d]] w fun r w' => r = .returned (.bool v) ∧ Below w.heap.size w w' :=
  (impl_ringOk y e d w (by omega)).mono fun _ _ h2 => ⟨by rw [h2.1, h], h2.2⟩
theorem ringOkS_is {y e : Int} {d : ByteArray} {v : Bool} (hd : d.size ≤ 1048576) (h : ringB y e d.size = v) (w : World) :
    Calls Try.prog 24 #[.agg #[.int .i64 y, .int .i64 e, .string d]] w fun r w' => r = .returned (.bool v) ∧ Below w.heap.size w w' :=
  (spec_ringOk y e d w (by omega)).mono fun _ _ h2 => ⟨by rw [h2.1, h], h2.2⟩
theorem putI_is {y e y' e' : Int} {d s d' : ByteArray} {v : Bool} (hd : d.size ≤ 1048576) (hs : s.size ≤ 1048576) (he : (Lit.int .i64 e).wf = true) (h1 : rpZ y e d s = y') (h2 : rpE y e d s = e') (h3 : rpD y e d s = d') (h4 : putB y e d s = v) (w : World) :
    Calls Try.prog 17 #[.agg #[.int .i64 y, .int .i64 e, .string d], .string s] w fun r w' => r = .returned (.tuple #[.agg #[.int .i64 y', .int .i64 e', .string d'], .bool v]) ∧ Below w.heap.size w w' :=
  (impl_ringPut y e d s w hd hs he).mono fun _ _ h => ⟨by rw [h.1, h1, h2, h3, h4], h.2⟩
theorem putS_is {y e y' e' : Int} {d s d' : ByteArray} {v : Bool} (hd : d.size ≤ 1048576) (hs : s.size ≤ 1048576) (he : (Lit.int .i64 e).wf = true) (h1 : rpZ y e d s = y') (h2 : rpE y e d s = e') (h3 : rpD y e d s = d') (h4 : putB y e d s = v) (w : World) :
    Calls Try.prog 18 #[.agg #[.int .i64 y, .int .i64 e, .string d], .string s] w fun r w' => r = .returned (.tuple #[.agg #[.int .i64 y', .int .i64 e', .string d'], .bool v]) ∧ Below w.heap.size w w' :=
  (spec_ringPut y e d s w hd hs he).mono fun _ _ h => ⟨by rw [h.1, h1, h2, h3, h4], h.2⟩
theorem cutI_is {y e x1 x2 : Int} {d d' : ByteArray} {v : Bool} (hd : d.size ≤ 1048576) (h1 : rcD y e d x1 x2 = d') (h2 : rcB y e d x1 x2 = v) (w : World) :
    Calls Try.prog 25 #[.agg #[.int .i64 y, .int .i64 e, .string d], .int .i64 x1, .int .i64 x2] w fun r w' => r = .returned (.tuple #[.string d', .bool v]) ∧ Below w.heap.size w w' :=
  (impl_ringCut y e x1 x2 d w hd).mono fun _ _ h => ⟨by rw [h.1, h1, h2], h.2⟩
theorem wf_small {e : Int} (h0 : 0 ≤ e) (h1 : e ≤ 1000000) : (Lit.int .i64 e).wf = true := wf_i64 (by unfold i64B; omega)
set_option maxHeartbeats 4000000 in
theorem law_FnRings (a : Option Addr) (len cap : Nat) (z : List Int) (w : World) (hr : IsRow .u8 w a len cap z) :
    Calls Try.prog 3 #[.slice a len cap] w fun e w' => e = .returned (.bool true) ∧ Below w.heap.size w w' := by
  by_cases hl : len ≤ 1048576
  · have hbig : decide (1048576 < (len : Int)) = false := by simp; omega
    go_enter Try.func3, Try.ntmps3
    go_wp2_with (go_at_call 15; refine (laws_big _ _ _ _ (by omega)).mono ?_; rintro e w' ⟨rfl, rfl⟩)
    refine (drawRingPut _ _ _ _ _ hr hl).mono ?_
    rintro r w1 ⟨y, e, d, s, rfl, hF, hs, HB⟩
    have hd : d.size ≤ 1048576 := by have := hF.2.2; omega
    have hs1 : s.size ≤ 1048576 := by omega
    have he := Lib.hid (wf_i64 hF.2.1)
    have hd200 : d.size ≤ 200 := hF.2.2
    obtain ⟨Z, hZ⟩ : ∃ Z, rpZ y e d s = Z := ⟨_, rfl⟩
    obtain ⟨E, hE⟩ : ∃ E, rpE y e d s = E := ⟨_, rfl⟩
    obtain ⟨T, hT⟩ : ∃ T, rpD y e d s = T := ⟨_, rfl⟩
    obtain ⟨V, hV⟩ : ∃ V, putB y e d s = V := ⟨_, rfl⟩
    have HI := Lib.hid (putI_is hd hs1 he.out hZ hE hT hV)
    have HS := Lib.hid (putS_is hd hs1 he.out hZ hE hT hV)
    have HZ := Lib.hid hZ; have HE := Lib.hid hE; have HT := Lib.hid hT; have HV := Lib.hid hV
    clear hZ hE hT hV hF
    go_wp2_with fail
    have r1 := heap_alloc_new w1 (.cells #[.int .i64 y, .int .i64 e, .string d] 25)
    replace HB := HB.alloc HB.size (.cells #[.int .i64 y, .int .i64 e, .string d] 25)
    have z1 : w1.heap.size < (w1.alloc (.cells #[.int .i64 y, .int .i64 e, .string d] 25)).heap.size := by simp
    generalize w1.alloc (.cells #[.int .i64 y, .int .i64 e, .string d] 25) = V1 at *
    obtain ⟨B1, hB1⟩ : ∃ B, w1.heap.size = B := ⟨_, rfl⟩
    rw [hB1] at r1 z1 ⊢
    clear hB1
    refine (HI.out _).mono ?_
    rintro r w2 ⟨rfl, hb2⟩
    replace r1 := (hb2.block B1 z1).trans r1
    replace z1 := Nat.lt_of_lt_of_le z1 hb2.size
    replace HB := HB.trans (hb2.mono HB.size)
    have hs_hb2 := hb2.size
    clear hb2
    obtain ⟨c10, c11, c12⟩ := box3r r1
    have n1_2 : ¬ B1 = w2.heap.size := by omega
    go_wp2_with fail
    have r2 := heap_alloc_new w2 (.cells #[.int .i64 Z, .int .i64 E, .string T] 25)
    replace r1 := (Below.heap_alloc w2 (.cells #[.int .i64 Z, .int .i64 E, .string T] 25) B1 (by omega)).trans r1
    replace HB := HB.alloc HB.size (.cells #[.int .i64 Z, .int .i64 E, .string T] 25)
    have z2 : w2.heap.size < (w2.alloc (.cells #[.int .i64 Z, .int .i64 E, .string T] 25)).heap.size := by simp
    replace z1 : B1 < (w2.alloc (.cells #[.int .i64 Z, .int .i64 E, .string T] 25)).heap.size := by omega
    generalize w2.alloc (.cells #[.int .i64 Z, .int .i64 E, .string T] 25) = V2 at *
    obtain ⟨B2, hB2⟩ : ∃ B, w2.heap.size = B := ⟨_, rfl⟩
    rw [hB2] at r2 z2 n1_2 ⊢
    clear hB2
    refine (HS.out _).mono ?_
    rintro r w3 ⟨rfl, hb3⟩
    clear c10 c11 c12
    replace r1 := (hb3.block B1 z1).trans r1
    replace r2 := (hb3.block B2 z2).trans r2
    replace z1 := Nat.lt_of_lt_of_le z1 hb3.size
    replace z2 := Nat.lt_of_lt_of_le z2 hb3.size
    replace HB := HB.trans (hb3.mono HB.size)
    have hs_hb3 := hb3.size
    clear hb3
    have n1_3 : ¬ B1 = w3.heap.size := by omega
    have n2_3 : ¬ B2 = w3.heap.size := by omega
    go_wp2_with fail
    have r3 := heap_alloc_new w3 (.cells #[.int .i64 Z, .int .i64 E, .string T] 25)
    replace r1 := (Below.heap_alloc w3 (.cells #[.int .i64 Z, .int .i64 E, .string T] 25) B1 (by omega)).trans r1
    replace r2 := (Below.heap_alloc w3 (.cells #[.int .i64 Z, .int .i64 E, .string T] 25) B2 (by omega)).trans r2
    replace HB := HB.alloc HB.size (.cells #[.int .i64 Z, .int .i64 E, .string T] 25)
    have z3 : w3.heap.size < (w3.alloc (.cells #[.int .i64 Z, .int .i64 E, .string T] 25)).heap.size := by simp
    replace z1 : B1 < (w3.alloc (.cells #[.int .i64 Z, .int .i64 E, .string T] 25)).heap.size := by omega
    replace z2 : B2 < (w3.alloc (.cells #[.int .i64 Z, .int .i64 E, .string T] 25)).heap.size := by omega
    generalize w3.alloc (.cells #[.int .i64 Z, .int .i64 E, .string T] 25) = V3 at *
    obtain ⟨B3, hB3⟩ : ∃ B, w3.heap.size = B := ⟨_, rfl⟩
    rw [hB3] at r3 z3 n1_3 n2_3 ⊢
    clear hB3
    refine (drawRingOk _ _ _ _ _ (isRow_below hr HB) hl).mono ?_
    rintro r w4 ⟨y4, e4, d4, rfl, hF4, hb4⟩
    have hd4 : d4.size ≤ 1048576 := by have := hF4.2.2; omega
    clear hF4
    replace r1 := (hb4.block B1 z1).trans r1
    replace r2 := (hb4.block B2 z2).trans r2
    replace r3 := (hb4.block B3 z3).trans r3
    replace z1 := Nat.lt_of_lt_of_le z1 hb4.size
    replace z2 := Nat.lt_of_lt_of_le z2 hb4.size
    replace z3 := Nat.lt_of_lt_of_le z3 hb4.size
    replace HB := HB.trans (hb4.mono HB.size)
    have hs_hb4 := hb4.size
    clear hb4
    have n1_4 : ¬ B1 = w4.heap.size := by omega
    have n2_4 : ¬ B2 = w4.heap.size := by omega
    have n3_4 : ¬ B3 = w4.heap.size := by omega
    go_wp2_with fail
    have r4 := heap_alloc_new w4 (.cells #[.int .i64 y4, .int .i64 e4, .string d4] 25)
    replace r1 := (Below.heap_alloc w4 (.cells #[.int .i64 y4, .int .i64 e4, .string d4] 25) B1 (by omega)).trans r1
    replace r2 := (Below.heap_alloc w4 (.cells #[.int .i64 y4, .int .i64 e4, .string d4] 25) B2 (by omega)).trans r2
    replace r3 := (Below.heap_alloc w4 (.cells #[.int .i64 y4, .int .i64 e4, .string d4] 25) B3 (by omega)).trans r3
    replace HB := HB.alloc HB.size (.cells #[.int .i64 y4, .int .i64 e4, .string d4] 25)
    have z4 : w4.heap.size < (w4.alloc (.cells #[.int .i64 y4, .int .i64 e4, .string d4] 25)).heap.size := by simp
    replace z1 : B1 < (w4.alloc (.cells #[.int .i64 y4, .int .i64 e4, .string d4] 25)).heap.size := by omega
    replace z2 : B2 < (w4.alloc (.cells #[.int .i64 y4, .int .i64 e4, .string d4] 25)).heap.size := by omega
    replace z3 : B3 < (w4.alloc (.cells #[.int .i64 y4, .int .i64 e4, .string d4] 25)).heap.size := by omega
    generalize w4.alloc (.cells #[.int .i64 y4, .int .i64 e4, .string d4] 25) = V4 at *
    obtain ⟨B4, hB4⟩ : ∃ B, w4.heap.size = B := ⟨_, rfl⟩
    rw [hB4] at r4 z4 n1_4 n2_4 n3_4 ⊢
    clear hB4
    refine (drawRingNew _ _ _ _ _ (isRow_below hr HB) hl).mono ?_
    rintro r w5 ⟨y5, e5, rfl, hy5, he5, hb5⟩
    clear hy5 he5
    replace r1 := (hb5.block B1 z1).trans r1
    replace r2 := (hb5.block B2 z2).trans r2
    replace r3 := (hb5.block B3 z3).trans r3
    replace r4 := (hb5.block B4 z4).trans r4
    replace z1 := Nat.lt_of_lt_of_le z1 hb5.size
    replace z2 := Nat.lt_of_lt_of_le z2 hb5.size
    replace z3 := Nat.lt_of_lt_of_le z3 hb5.size
    replace z4 := Nat.lt_of_lt_of_le z4 hb5.size
    replace HB := HB.trans (hb5.mono HB.size)
    have hs_hb5 := hb5.size
    clear hb5
    go_wp2_with fail
    refine (impl_ringNew _ _ _).mono ?_
    rintro r w6 ⟨rfl, hb6⟩
    obtain ⟨Y5, hY5⟩ : ∃ Y, rnZ y5 e5 = Y := ⟨_, rfl⟩
    obtain ⟨E5, hE5⟩ : ∃ Y, rnE y5 e5 = Y := ⟨_, rfl⟩
    obtain ⟨V5, hV5⟩ : ∃ Y, ringB y5 e5 0 = Y := ⟨_, rfl⟩
    have HN := Lib.hid (fun w => spec_ringNew y5 e5 w)
    rw [hY5, hE5, hV5] at HN ⊢
    clear hY5 hE5 hV5
    replace r1 := (hb6.block B1 z1).trans r1
    replace r2 := (hb6.block B2 z2).trans r2
    replace r3 := (hb6.block B3 z3).trans r3
    replace r4 := (hb6.block B4 z4).trans r4
    replace z1 := Nat.lt_of_lt_of_le z1 hb6.size
    replace z2 := Nat.lt_of_lt_of_le z2 hb6.size
    replace z3 := Nat.lt_of_lt_of_le z3 hb6.size
    replace z4 := Nat.lt_of_lt_of_le z4 hb6.size
    replace HB := HB.trans (hb6.mono HB.size)
    have hs_hb6 := hb6.size
    clear hb6
    have n1_5 : ¬ B1 = w6.heap.size := by omega
    have n2_5 : ¬ B2 = w6.heap.size := by omega
    have n3_5 : ¬ B3 = w6.heap.size := by omega
    have n4_5 : ¬ B4 = w6.heap.size := by omega
    go_wp2_with fail
    have r5 := heap_alloc_new w6 (.cells #[.int .i64 Y5, .int .i64 E5, .string ⟨#[]⟩] 25)
    replace r1 := (Below.heap_alloc w6 (.cells #[.int .i64 Y5, .int .i64 E5, .string ⟨#[]⟩] 25) B1 (by omega)).trans r1
    replace r2 := (Below.heap_alloc w6 (.cells #[.int .i64 Y5, .int .i64 E5, .string ⟨#[]⟩] 25) B2 (by omega)).trans r2
    replace r3 := (Below.heap_alloc w6 (.cells #[.int .i64 Y5, .int .i64 E5, .string ⟨#[]⟩] 25) B3 (by omega)).trans r3
    replace r4 := (Below.heap_alloc w6 (.cells #[.int .i64 Y5, .int .i64 E5, .string ⟨#[]⟩] 25) B4 (by omega)).trans r4
    replace HB := HB.alloc HB.size (.cells #[.int .i64 Y5, .int .i64 E5, .string ⟨#[]⟩] 25)
    have z5 : w6.heap.size < (w6.alloc (.cells #[.int .i64 Y5, .int .i64 E5, .string ⟨#[]⟩] 25)).heap.size := by simp
    replace z1 : B1 < (w6.alloc (.cells #[.int .i64 Y5, .int .i64 E5, .string ⟨#[]⟩] 25)).heap.size := by omega
    replace z2 : B2 < (w6.alloc (.cells #[.int .i64 Y5, .int .i64 E5, .string ⟨#[]⟩] 25)).heap.size := by omega
    replace z3 : B3 < (w6.alloc (.cells #[.int .i64 Y5, .int .i64 E5, .string ⟨#[]⟩] 25)).heap.size := by omega
    replace z4 : B4 < (w6.alloc (.cells #[.int .i64 Y5, .int .i64 E5, .string ⟨#[]⟩] 25)).heap.size := by omega
    generalize w6.alloc (.cells #[.int .i64 Y5, .int .i64 E5, .string ⟨#[]⟩] 25) = V5w at *
    obtain ⟨B5, hB5⟩ : ∃ B, w6.heap.size = B := ⟨_, rfl⟩
    rw [hB5] at r5 z5 n1_5 n2_5 n3_5 n4_5 ⊢
    clear hB5
    refine (HN.out _).mono ?_
    rintro r w7 ⟨rfl, hb7⟩
    replace r1 := (hb7.block B1 z1).trans r1
    replace r2 := (hb7.block B2 z2).trans r2
    replace r3 := (hb7.block B3 z3).trans r3
    replace r4 := (hb7.block B4 z4).trans r4
    replace r5 := (hb7.block B5 z5).trans r5
    replace z1 := Nat.lt_of_lt_of_le z1 hb7.size
    replace z2 := Nat.lt_of_lt_of_le z2 hb7.size
    replace z3 := Nat.lt_of_lt_of_le z3 hb7.size
    replace z4 := Nat.lt_of_lt_of_le z4 hb7.size
    replace z5 := Nat.lt_of_lt_of_le z5 hb7.size
    replace HB := HB.trans (hb7.mono HB.size)
    have hs_hb7 := hb7.size
    clear hb7
    have n1_6 : ¬ B1 = w7.heap.size := by omega
    have n2_6 : ¬ B2 = w7.heap.size := by omega
    have n3_6 : ¬ B3 = w7.heap.size := by omega
    have n4_6 : ¬ B4 = w7.heap.size := by omega
    have n5_6 : ¬ B5 = w7.heap.size := by omega
    go_wp2_with fail
    have r6 := heap_alloc_new w7 (.cells #[.int .i64 Y5, .int .i64 E5, .string ⟨#[]⟩] 25)
    replace r1 := (Below.heap_alloc w7 (.cells #[.int .i64 Y5, .int .i64 E5, .string ⟨#[]⟩] 25) B1 (by omega)).trans r1
    replace r2 := (Below.heap_alloc w7 (.cells #[.int .i64 Y5, .int .i64 E5, .string ⟨#[]⟩] 25) B2 (by omega)).trans r2
    replace r3 := (Below.heap_alloc w7 (.cells #[.int .i64 Y5, .int .i64 E5, .string ⟨#[]⟩] 25) B3 (by omega)).trans r3
    replace r4 := (Below.heap_alloc w7 (.cells #[.int .i64 Y5, .int .i64 E5, .string ⟨#[]⟩] 25) B4 (by omega)).trans r4
    replace r5 := (Below.heap_alloc w7 (.cells #[.int .i64 Y5, .int .i64 E5, .string ⟨#[]⟩] 25) B5 (by omega)).trans r5
    replace HB := HB.alloc HB.size (.cells #[.int .i64 Y5, .int .i64 E5, .string ⟨#[]⟩] 25)
    have z6 : w7.heap.size < (w7.alloc (.cells #[.int .i64 Y5, .int .i64 E5, .string ⟨#[]⟩] 25)).heap.size := by simp
    replace z1 : B1 < (w7.alloc (.cells #[.int .i64 Y5, .int .i64 E5, .string ⟨#[]⟩] 25)).heap.size := by omega
    replace z2 : B2 < (w7.alloc (.cells #[.int .i64 Y5, .int .i64 E5, .string ⟨#[]⟩] 25)).heap.size := by omega
    replace z3 : B3 < (w7.alloc (.cells #[.int .i64 Y5, .int .i64 E5, .string ⟨#[]⟩] 25)).heap.size := by omega
    replace z4 : B4 < (w7.alloc (.cells #[.int .i64 Y5, .int .i64 E5, .string ⟨#[]⟩] 25)).heap.size := by omega
    replace z5 : B5 < (w7.alloc (.cells #[.int .i64 Y5, .int .i64 E5, .string ⟨#[]⟩] 25)).heap.size := by omega
    generalize w7.alloc (.cells #[.int .i64 Y5, .int .i64 E5, .string ⟨#[]⟩] 25) = V6 at *
    obtain ⟨B6, hB6⟩ : ∃ B, w7.heap.size = B := ⟨_, rfl⟩
    rw [hB6] at r6 z6 n1_6 n2_6 n3_6 n4_6 n5_6 ⊢
    clear hB6
    clear hr
    have R1 := Lib.hid r1
    have R2 := Lib.hid r2
    have R3 := Lib.hid r3
    have R4 := Lib.hid r4
    have R5 := Lib.hid r5
    have R6 := Lib.hid r6
    obtain ⟨c20, c21, c22⟩ := box3r r2
    obtain ⟨c30, c31, c32⟩ := box3r r3
    obtain ⟨c40, c41, c42⟩ := box3r r4
    obtain ⟨c50, c51, c52⟩ := box3r r5
    obtain ⟨c60, c61, c62⟩ := box3r r6
    have g20 := cell_regrown c20
    have g21 := cell_regrown c21
    have g22 := cell_regrown c22
    have g30 := cell_regrown c30
    have g31 := cell_regrown c31
    have g32 := cell_regrown c32
    have g40 := cell_regrown c40
    have g41 := cell_regrown c41
    have g42 := cell_regrown c42
    have g50 := cell_regrown c50
    have g51 := cell_regrown c51
    have g52 := cell_regrown c52
    have g60 := cell_regrown c60
    have g61 := cell_regrown c61
    have g62 := cell_regrown c62
    clear c20 c21 c22 c30 c31 c32 c40 c41 c42 c50 c51 c52 c60 c61 c62
    obtain ⟨cb, hcb⟩ : ∃ cb, ringB y4 e4 d4.size = cb := ⟨_, rfl⟩
    have C1 := Lib.hid (ringOkI_is hd4 hcb)
    have C2 := Lib.hid (ringOkS_is hd4 hcb)
    have ecb : (cb != cb) = false := by simp
    have ev5 : (V5 != V5) = false := by simp
    clear hcb r1 r2 r3 r4 r5 r6
    cases V
    · skip
      refine wp_region_quiet_below (by kernel_rfl) (by kernel_rfl) ?_
      repeat (go_big_quiet_step (first | (go_at_call 23; with_reducible exact Calls.regrown_of (C1.out _)) | (go_at_call 24; with_reducible exact Calls.regrown_of (C2.out _))))
      refine wpQuiet_nil ?_
      intro _ hw'
      obtain ⟨⟨dq, osq⟩, hw''⟩ := hw'
      subst hw''
      have hX := below_regrown V6 dq osq
      replace HB := HB.trans (hX.mono HB.size)
      have r2 := (hX.block B2 z2).trans R2.out
      have r3 := (hX.block B3 z3).trans R3.out
      have r4 := (hX.block B4 z4).trans R4.out
      have r5 := (hX.block B5 z5).trans R5.out
      have r6 := (hX.block B6 z6).trans R6.out
      clear g20 g21 g22 g30 g31 g32 g40 g41 g42 g50 g51 g52 g60 g61 g62
      clear hX R1 R2 R3 R4 R5 R6 z1 z2 z3 z4 z5 z6
      generalize Sort.grow (redrawn V6 dq) osq = W5 at *
      obtain ⟨c20, c21, c22⟩ := box3r r2
      obtain ⟨c30, c31, c32⟩ := box3r r3
      obtain ⟨c40, c41, c42⟩ := box3r r4
      obtain ⟨c50, c51, c52⟩ := box3r r5
      obtain ⟨c60, c61, c62⟩ := box3r r6
      have g20 := cell_regrown c20
      have g21 := cell_regrown c21
      have g22 := cell_regrown c22
      have g30 := cell_regrown c30
      have g31 := cell_regrown c31
      have g32 := cell_regrown c32
      have g40 := cell_regrown c40
      have g41 := cell_regrown c41
      have g42 := cell_regrown c42
      have g50 := cell_regrown c50
      have g51 := cell_regrown c51
      have g52 := cell_regrown c52
      have g60 := cell_regrown c60
      have g61 := cell_regrown c61
      have g62 := cell_regrown c62
      clear c20 c21 c22 r2 c30 c31 c32 r3 c40 c41 c42 r4 c50 c51 c52 r5 c60 c61 c62 r6
      go_wp2_with fail
      refine wp_region_quiet_below (by kernel_rfl) (by kernel_rfl) ?_
      repeat (go_big_quiet_step (first | (go_at_call 23; with_reducible exact Calls.regrown_of (C1.out _)) | (go_at_call 24; with_reducible exact Calls.regrown_of (C2.out _))))
      refine wpQuiet_nil ?_
      intro _ hw'
      obtain ⟨⟨dq, osq⟩, hw''⟩ := hw'
      subst hw''
      go_wp2
      go_ret
      exact ⟨rfl, HB.trans ((below_regrown W5 _ _).mono HB.size)⟩
    · skip
      refine wp_region_quiet_below (by kernel_rfl) (by kernel_rfl) ?_
      repeat (go_big_quiet_step (first | (go_at_call 23; with_reducible exact Calls.regrown_of (C1.out _)) | (go_at_call 24; with_reducible exact Calls.regrown_of (C2.out _))))
      refine wpQuiet_nil ?_
      intro _ hw'
      obtain ⟨⟨dq, osq⟩, hw''⟩ := hw'
      subst hw''
      have hX := below_regrown V6 dq osq
      replace HB := HB.trans (hX.mono HB.size)
      have r1 := (hX.block B1 z1).trans R1.out
      have r2 := (hX.block B2 z2).trans R2.out
      replace z1 := Nat.lt_of_lt_of_le z1 hX.size
      replace z2 := Nat.lt_of_lt_of_le z2 hX.size
      clear g20 g21 g22 g30 g31 g32 g40 g41 g42 g50 g51 g52 g60 g61 g62
      clear hX C1 C2 R1 R2 R3 R4 R5 R6 z3 z4 z5 z6
      generalize Sort.grow (redrawn V6 dq) osq = W5 at *
      obtain ⟨q, n, hq, hqn, hn, y0, y1, e0, e1, p1, a1, a2, a3, p2, b1, b2, b3, f1, f2, f3, hT200, hrT, hT1, hc1, hc2⟩ := put_facts HV.out len
      obtain rfl := HZ.out.symm.trans f1
      have hE2 := HE.out.symm.trans f2
      have hT2 := HT.out.symm.trans f3
      rw [← hT2] at b3 hT200 hrT hc1 hc2
      rw [← hE2] at b2 hrT hc1 hc2
      obtain ⟨p, hp⟩ : ∃ p, s.size - n = p := ⟨_, rfl⟩
      rw [hp] at hc2
      have hns : n ≤ s.size := by omega
      have hwE : IntKind.i64.wrap (E - (n : Int)) = E - (n : Int) := by rw [IntKind.wrap_i64]; omega
      have hwp : IntKind.i64.wrap ((s.size : Int) - (n : Int)) = (p : Int) := by rw [IntKind.wrap_i64]; omega
      have hps : p ≤ s.size := by omega
      have hpn : p + n = s.size := by omega
      have hEw : IntKind.i64.wrap (e + (s.size : Int)) = E := by rw [IntKind.wrap_i64]; omega
      obtain ⟨T1, hT1'⟩ : ∃ t, tailB Z (d ++ s.extract 0 q) = t := ⟨_, rfl⟩
      have hsz1 : (s.extract 0 q).size ≤ 1048576 := by rw [ByteArray.size_extract]; omega
      have hsz2 : (s.extract q s.size).size ≤ 1048576 := by rw [ByteArray.size_extract]; omega
      rw [hT1'] at a3 p2 b1 b2 b3 hT1
      have K1 := Lib.hid (putI_is hd hsz1 he.out a1 a2 a3 p1)
      have K2 := Lib.hid (putI_is (show T1.size ≤ 1048576 by omega) hsz2 (wf_small (show 0 ≤ e + (q : Int) by omega) (by omega)) b1 b2 b3 p2)
      have K3 := Lib.hid (cutI_is (show T.size ≤ 1048576 by omega) hc2 hc1)
      have K4 := Lib.hid (ringOkI_is (show T.size ≤ 1048576 by omega) hrT)
      have hmod : ((len : Int)).tmod ((s.size : Int) + 1) = (q : Int) := by rw [Int.tmod_eq_emod_of_nonneg (by omega), ← hq]; simp
      have hnz : ¬ ((s.size : Int) + 1 = 0) := by omega
      have hmin : ((s.size : Int) ≤ Z ∧ n = s.size) ∨ (¬ (s.size : Int) ≤ Z ∧ (n : Int) = Z) := by omega
      clear a1 a2 a3 p1 b1 b2 b3 p2 f1 f2 f3 hc1 hc2 hrT hT2 hE2 hT1' hq hp HV HZ HE HT HI HS HN hn hsz1 hsz2 ecb ev5
      obtain ⟨c10, c11, c12⟩ := box3r r1
      go_wp2_with fail
      go_cut [17, 18] from 122 (fun x1 x2 wr => ∃ g, x1 = .pointer (some ⟨g, 0, none⟩) ∧ x2 = .bool true ∧ g < wr.heap.size ∧ wr.cell? ⟨g, 0, none⟩ = some (.int .i64 Z) ∧ wr.cell? ⟨g, 1, none⟩ = some (.int .i64 (e + (q : Int))) ∧ wr.cell? ⟨g, 2, none⟩ = some (.string T1) ∧ Below W5.heap.size W5 wr)
      case first =>
        go_region_law ((go_simp; first
          | (go_at_call 17; refine (K1.out _).mono ?_; rintro r w8 ⟨rfl, hbd⟩; (first | (have hbu : Below W5.heap.size W5 w8 := below_undrew hbd) | (have hbu := hbd)); obtain ⟨hc_, hf_⟩ := bcell hbu; have HTx : Below W5.heap.size W5 w8 := (by first | exact hbu | exact below_step (by repeat (first | exact Below.refl _ _ | (refine Below.drew ?_) | (refine Below.alloc ?_ (by first | omega | (simp; done) | (simp; omega)) _))) hbu); have hsx := HTx.size; (try (have hvx : W5.heap.size < w8.heap.size := (by have h1 := hbu.size; (try simp at h1); omega))))))
        all_goals
          go_wp2_with fail
          go_meet
          case rel => exact ⟨_, rfl, rfl, by first | (simp; done) | (simp; omega) | (simp [World.setCell]; done) | (simp [World.setCell]; omega), by go_simp, by go_simp, by go_simp, (by repeat (first | exact Below.refl _ _ | assumption | (refine Below.drew ?_) | (refine below_drewN ?_ _) | (refine Below.alloc ?_ (by first | omega | (simp; done) | (simp; omega)) _) | (refine Below.setCell ?_ (by first | omega | (simp; done) | (simp; omega)) _)))⟩
      case rest =>
        obtain ⟨g7, rfl, rfl, hg7, c70, c71, c72, hB8⟩ := hcut
        generalize wc = W8 at *
        replace HB := HB.trans (hB8.mono HB.size)
        have r1 := (hB8.block B1 z1).trans r1
        replace z1 := Nat.lt_of_lt_of_le z1 hB8.size
        have r2 := (hB8.block B2 z2).trans r2
        replace z2 := Nat.lt_of_lt_of_le z2 hB8.size
        clear hB8 c10 c11 c12
        go_wp2_with fail
        go_cut [19, 20] from 130 (fun x1 x2 wr => ∃ g, x1 = .pointer (some ⟨g, 0, none⟩) ∧ x2 = .bool true ∧ g < wr.heap.size ∧ wr.cell? ⟨g, 0, none⟩ = some (.int .i64 Z) ∧ wr.cell? ⟨g, 1, none⟩ = some (.int .i64 E) ∧ wr.cell? ⟨g, 2, none⟩ = some (.string T) ∧ Below W8.heap.size W8 wr)
        case first =>
          go_region_law ((go_simp; first
            | (go_at_call 17; refine (K2.out _).mono ?_; rintro r w9 ⟨rfl, hbd⟩; (first | (have hbu : Below W8.heap.size W8 w9 := below_undrew hbd) | (have hbu := hbd)); obtain ⟨hc_, hf_⟩ := bcell hbu; have HTx : Below W8.heap.size W8 w9 := (by first | exact hbu | exact below_step (by repeat (first | exact Below.refl _ _ | (refine Below.drew ?_) | (refine Below.alloc ?_ (by first | omega | (simp; done) | (simp; omega)) _))) hbu); have hsx := HTx.size; (try (have hvx : W8.heap.size < w9.heap.size := (by have h1 := hbu.size; (try simp at h1); omega))))))
          all_goals
            go_wp2_with fail
            go_meet
            case rel => exact ⟨_, rfl, rfl, by first | (simp; done) | (simp; omega) | (simp [World.setCell]; done) | (simp [World.setCell]; omega), by go_simp, by go_simp, by go_simp, (by repeat (first | exact Below.refl _ _ | assumption | (refine Below.drew ?_) | (refine below_drewN ?_ _) | (refine Below.alloc ?_ (by first | omega | (simp; done) | (simp; omega)) _) | (refine Below.setCell ?_ (by first | omega | (simp; done) | (simp; omega)) _)))⟩
        case rest =>
          obtain ⟨g9, rfl, rfl, hg9, c90, c91, c92, hB9⟩ := hcut
          generalize wc = W9 at *
          replace HB := HB.trans (hB9.mono HB.size)
          replace r1 := (hB9.block B1 z1).trans r1
          replace r2 := (hB9.block B2 z2).trans r2
          replace z1 := Nat.lt_of_lt_of_le z1 hB9.size
          replace z2 := Nat.lt_of_lt_of_le z2 hB9.size
          clear hB9 c70 c71 c72
          obtain ⟨c10, c11, c12⟩ := box3r r1
          obtain ⟨c20, c21, c22⟩ := box3r r2
          rcases hmin with ⟨h, h2⟩ | ⟨h, h2⟩
          · obtain rfl : p = 0 := by omega
            rw [h2] at K3
            rw [h2] at hwE hwp
            clear h2
            go_wp2_with fail
            refine (K3.out _).mono ?_
            rintro r w10 ⟨rfl, hb10⟩
            have HB10 := HB.trans (hb10.mono HB.size)
            have r1' := (hb10.block B1 z1).trans r1
            have r2' := (hb10.block B2 z2).trans r2
            have d90 := (hb10.cell (p := ⟨g9, 0, none⟩) hg9).trans c90
            have d91 := (hb10.cell (p := ⟨g9, 1, none⟩) hg9).trans c91
            have d92 := (hb10.cell (p := ⟨g9, 2, none⟩) hg9).trans c92
            replace z1 := Nat.lt_of_lt_of_le z1 hb10.size
            replace z2 := Nat.lt_of_lt_of_le z2 hb10.size
            obtain ⟨d10, d11, d12⟩ := box3r r1'
            obtain ⟨d20, d21, d22⟩ := box3r r2'
            clear hb10 c10 c11 c12 c20 c21 c22 c90 c91 c92 r1 r2 HB hwE
            go_wp2_with fail
            refine (K4.out _).mono ?_
            rintro r w11 ⟨rfl, hb11⟩
            have r1 := (hb11.block B1 z1).trans r1'
            have r2 := (hb11.block B2 z2).trans r2'
            have HB := HB10.trans (hb11.mono HB10.size)
            obtain ⟨c10, c11, c12⟩ := box3r r1
            obtain ⟨c20, c21, c22⟩ := box3r r2
            clear d10 d11 d12 d20 d21 d22 d90 d91 d92 r1' r2' HB10 hb11
            go_wp2_with fail
            go_ret
            exact ⟨rfl, HB⟩
          · rw [h2] at K3
            rw [h2] at hwE hwp
            clear h2
            go_wp2_with fail
            refine (K3.out _).mono ?_
            rintro r w10 ⟨rfl, hb10⟩
            have HB10 := HB.trans (hb10.mono HB.size)
            have r1' := (hb10.block B1 z1).trans r1
            have r2' := (hb10.block B2 z2).trans r2
            have d90 := (hb10.cell (p := ⟨g9, 0, none⟩) hg9).trans c90
            have d91 := (hb10.cell (p := ⟨g9, 1, none⟩) hg9).trans c91
            have d92 := (hb10.cell (p := ⟨g9, 2, none⟩) hg9).trans c92
            replace z1 := Nat.lt_of_lt_of_le z1 hb10.size
            replace z2 := Nat.lt_of_lt_of_le z2 hb10.size
            obtain ⟨d10, d11, d12⟩ := box3r r1'
            obtain ⟨d20, d21, d22⟩ := box3r r2'
            clear hb10 c10 c11 c12 c20 c21 c22 c90 c91 c92 r1 r2 HB hwE
            go_wp2_with fail
            refine (K4.out _).mono ?_
            rintro r w11 ⟨rfl, hb11⟩
            have r1 := (hb11.block B1 z1).trans r1'
            have r2 := (hb11.block B2 z2).trans r2'
            have HB := HB10.trans (hb11.mono HB10.size)
            obtain ⟨c10, c11, c12⟩ := box3r r1
            obtain ⟨c20, c21, c22⟩ := box3r r2
            clear d10 d11 d12 d20 d21 d22 d90 d91 d92 r1' r2' HB10 hb11
            go_wp2_with fail
            go_ret
            exact ⟨rfl, HB⟩
  · have hbig : decide (1048576 < (len : Int)) = true := by simp; omega
    go_enter Try.func3, Try.ntmps3
    go_wp2_with (go_at_call 15; go_in)
    go_ret
    exact ⟨rfl, Below.refl _ _⟩
end Go.Proofs.Ytglldmfhjipacaa

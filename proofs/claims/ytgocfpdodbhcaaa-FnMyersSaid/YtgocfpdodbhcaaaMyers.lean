/-
  FnMyers: the walk.
-/
import Derived.Test.YtgocfpdodbhcaaaL4Draw3
import Derived.Test.YtgocfpdodbhcaaaL4StepS
import Derived.Test.YtgocfpdodbhcaaaL4Run
import Derived.Test.YtgocfpdodbhcaaaL4ColL
import Derived.Test.YtgocfpdodbhcaaaL4OkS
import Derived.Deep.RegionHeld3
namespace Go.Proofs.Ytgocfpdodbhcaaa
open Go.RowKit
set_option linter.unusedVariables false
set_option maxRecDepth 100000
theorem specStep_is {s : ByteArray} {k : Int} {f : Bool} {u d t b : Int} {v : Value} (hs : s.size ≤ 1048576) (hu : I64 u) (hd : I64 d) (h : myStepV s k f b u d t = v) (w : World) :
    Calls Try.prog 47 #[.agg #[.string s, .int .i64 k, .bool f], .agg #[.int .i64 u, .int .i64 d, .int .i64 t], .int .i64 b] w fun e w' => e = .returned v ∧ Below w.heap.size w w' :=
  (spec_myersStep s k f u d t b w hs hu hd).mono fun _ _ h2 => ⟨by rw [h2.1, h], h2.2⟩
theorem newI_is {s : ByteArray} {k : Int} {f : Bool} {v : Value} (hs : s.size ≤ 1048576) (h : myersNewV s k = v) (w : World) :
    Calls Try.prog 48 #[.agg #[.string s, .int .i64 k, .bool f]] w fun e w' => e = .returned v ∧ Below w.heap.size w w' :=
  (impl_myersNew s k f w hs).mono fun _ _ h2 => ⟨by rw [h2.1, h], h2.2⟩
theorem newS_is {s : ByteArray} {k : Int} {f : Bool} {v : Value} (hs : s.size ≤ 1048576) (h : myersNewV s k = v) (w : World) :
    Calls Try.prog 49 #[.agg #[.string s, .int .i64 k, .bool f]] w fun e w' => e = .returned v ∧ Below w.heap.size w w' :=
  (spec_myersNew s k f w hs).mono fun _ _ h2 => ⟨by rw [h2.1, h], h2.2⟩
theorem okI_is {s : ByteArray} {k : Int} {f : Bool} {u d t : Int} {v : Bool} (hs : s.size ≤ 1048576) (hu : I64 u) (hd : I64 d) (h : myOkB s k u d t = v) (w : World) :
    Calls Try.prog 50 #[.agg #[.string s, .int .i64 k, .bool f], .agg #[.int .i64 u, .int .i64 d, .int .i64 t]] w fun e w' => e = .returned (.bool v) ∧ Below w.heap.size w w' :=
  (impl_myersOk s k f u d t w hs hu hd).mono fun _ _ h2 => ⟨by rw [h2.1, h], h2.2⟩
theorem okS_is {s : ByteArray} {k : Int} {f : Bool} {u d t : Int} {v : Bool} (hs : s.size ≤ 1048576) (hu : I64 u) (hd : I64 d) (h : myOkB s k u d t = v) (w : World) :
    Calls Try.prog 51 #[.agg #[.string s, .int .i64 k, .bool f], .agg #[.int .i64 u, .int .i64 d, .int .i64 t]] w fun e w' => e = .returned (.bool v) ∧ Below w.heap.size w w' :=
  (spec_myersOk s k f u d t w hs hu hd).mono fun _ _ h2 => ⟨by rw [h2.1, h], h2.2⟩
/-- the state behind a byte is right, and its column is the next one -/
theorem step_fine {s : ByteArray} {k : Int} {f : Bool} {b u d t : Int} (hm : myOkB s k u d t = true) (hb : inB b 0 255 = true) :
    myOkB s k (myStepU s k f b u d t) (myStepD s k f b u d t) (myStepS s k f b u d t) = true ∧ I64 (myStepU s k f b u d t) ∧ I64 (myStepD s k f b u d t) ∧
    myColL s k (myStepU s k f b u d t) (myStepD s k f b u d t) (myStepS s k f b u d t) = tab (mNext s f b u d) (s.size + 1) ∧ myColL s k u d t = tab (colF u d) (s.size + 1) ∧
    nextColL s k f b (tab (colF u d) (s.size + 1)) = tab (mNext s f b u d) (s.size + 1) := by
  obtain ⟨⟨hp0, hp1, hk0, hk1⟩, _, _, _, hC, _⟩ := myOk_parts hm
  have hp : patOk s k = true := patOk_yes ⟨hp0, hp1, hk0, hk1⟩
  have hN : Near (mNext s f b u d) s.size := (near_next (eq := maskG s f b) hC).1
  have eU : myStepU s k f b u d t = mU (mNext s f b u d) s.size := by unfold myStepU; rw [hm, hb]; rfl
  have eD : myStepD s k f b u d t = mD (mNext s f b u d) s.size := by unfold myStepD; rw [hm, hb]; rfl
  have eS : myStepS s k f b u d t = mNext s f b u d s.size := by unfold myStepS; rw [hm, hb]; rfl
  have hok := state_ok hp hN
  obtain ⟨i0, i1⟩ := state_i64 (mNext s f b u d) hp1
  rw [eU, eD, eS]
  refine ⟨hok, i0, i1, ?_, by unfold myColL; rw [hm]; rfl, ?_⟩
  · unfold myColL; rw [hok]
    exact tab_congr fun i hi => state_col hp1 hN i (by omega)
  · have hc : nextColB s k b (tab (colF u d) (s.size + 1)) = true := by unfold nextColB; rw [hp, colOkB_near_tab hC, hb]; rfl
    unfold nextColL; rw [hc]
    exact tab_congr fun i hi => nextAt_congr (n := s.size) (fun _ _ => rfl) (fun j hj => intAt_tab _ _ _ (by omega)) i (by omega)
theorem box3_of {W : World} {B : Nat} {x y v : Value} {t : TypeId} {fr : Nat × Nat} (h : W.heap[B]? = some (.cells #[x, y, v] t fr)) : W.cell? ⟨B, 0, none⟩ = some x ∧ W.cell? ⟨B, 1, none⟩ = some y ∧ W.cell? ⟨B, 2, none⟩ = some v :=
  ⟨by rw [cell_of_row _ _ 0 _ _ _ h]; rfl, by rw [cell_of_row _ _ 1 _ _ _ h]; rfl, by rw [cell_of_row _ _ 2 _ _ _ h]; rfl⟩
theorem keep9m {W W1 : World} {B1 B2 B3 : Nat} {s : ByteArray} {k u d t u2 d2 t2 : Int} {f : Bool} (hb : Below W.heap.size W W1)
    (h : W.cell? ⟨B1, 0, none⟩ = some (.string s) ∧ W.cell? ⟨B1, 1, none⟩ = some (.int .i64 k) ∧ W.cell? ⟨B1, 2, none⟩ = some (.bool f) ∧ W.cell? ⟨B2, 0, none⟩ = some (.int .i64 u) ∧ W.cell? ⟨B2, 1, none⟩ = some (.int .i64 d) ∧ W.cell? ⟨B2, 2, none⟩ = some (.int .i64 t) ∧ W.cell? ⟨B3, 0, none⟩ = some (.int .i64 u2) ∧ W.cell? ⟨B3, 1, none⟩ = some (.int .i64 d2) ∧ W.cell? ⟨B3, 2, none⟩ = some (.int .i64 t2)) (h1 : B1 < W.heap.size) (h2 : B2 < W.heap.size) (h3 : B3 < W.heap.size) : W1.cell? ⟨B1, 0, none⟩ = some (.string s) ∧ W1.cell? ⟨B1, 1, none⟩ = some (.int .i64 k) ∧ W1.cell? ⟨B1, 2, none⟩ = some (.bool f) ∧ W1.cell? ⟨B2, 0, none⟩ = some (.int .i64 u) ∧ W1.cell? ⟨B2, 1, none⟩ = some (.int .i64 d) ∧ W1.cell? ⟨B2, 2, none⟩ = some (.int .i64 t) ∧ W1.cell? ⟨B3, 0, none⟩ = some (.int .i64 u2) ∧ W1.cell? ⟨B3, 1, none⟩ = some (.int .i64 d2) ∧ W1.cell? ⟨B3, 2, none⟩ = some (.int .i64 t2) := by
  obtain ⟨a0, a1, a2, b0, b1, b2, c0, c1, c2⟩ := h
  exact ⟨(hb.cell (p := ⟨B1, 0, none⟩) h1).trans a0, (hb.cell (p := ⟨B1, 1, none⟩) h1).trans a1, (hb.cell (p := ⟨B1, 2, none⟩) h1).trans a2, (hb.cell (p := ⟨B2, 0, none⟩) h2).trans b0, (hb.cell (p := ⟨B2, 1, none⟩) h2).trans b1, (hb.cell (p := ⟨B2, 2, none⟩) h2).trans b2, (hb.cell (p := ⟨B3, 0, none⟩) h3).trans c0, (hb.cell (p := ⟨B3, 1, none⟩) h3).trans c1, (hb.cell (p := ⟨B3, 2, none⟩) h3).trans c2⟩
set_option maxHeartbeats 4000000 in
theorem law_FnMyers (a : Option Addr) (len cap : Nat) (z : List Int) (w : World) (hr : IsRow .u8 w a len cap z) :
    Calls Try.prog 7 #[.slice a len cap] w fun e w' => e = .returned (.bool true) ∧ Below w.heap.size w w' := by
  by_cases hl : len ≤ 1048576
  · have hbig : decide (1048576 < (len : Int)) = false := by simp; omega
    go_enter Try.func7, Try.ntmps7
    go_wp2_with (go_at_call 21; refine (laws_big _ _ _ _ (by omega)).mono ?_; rintro e w' ⟨rfl, rfl⟩)
    refine (drawMyersStep _ _ _ _ _ hr hl).mono ?_
    rintro e w1 ⟨s, k, f, u, d, t, b, rfl, hs, hk, ⟨hu, hd, ht⟩, hb, hb1⟩
    go_wp2_with fail
    have r1 := heap_alloc2_old w1 (.cells #[.string s, .int .i64 k, .bool f] 31) (.cells #[.int .i64 u, .int .i64 d, .int .i64 t] 51)
    have r2 := heap_alloc2_new w1 (.cells #[.string s, .int .i64 k, .bool f] 31) (.cells #[.int .i64 u, .int .i64 d, .int .i64 t] 51)
    have HB := (hb1.alloc hb1.size (.cells #[.string s, .int .i64 k, .bool f] 31)).alloc (by have := hb1.size; simp; omega) (.cells #[.int .i64 u, .int .i64 d, .int .i64 t] 51)
    have hz2 : w1.heap.size + 1 < ((w1.alloc (.cells #[.string s, .int .i64 k, .bool f] 31)).alloc (.cells #[.int .i64 u, .int .i64 d, .int .i64 t] 51)).heap.size := by simp
    generalize ((w1.alloc (.cells #[.string s, .int .i64 k, .bool f] 31)).alloc (.cells #[.int .i64 u, .int .i64 d, .int .i64 t] 51)) = V1 at *
    obtain ⟨B2, hB2⟩ : ∃ G, w1.heap.size + 1 = G := ⟨_, rfl⟩
    rw [hB2] at r2 hz2 ⊢
    generalize w1.heap.size = B1 at *
    have hz1 : B1 < V1.heap.size := by omega
    have hs1 : s.size ≤ 1048576 := by omega
    obtain ⟨U, hU⟩ : ∃ U, myStepU s k f b u d t = U := ⟨_, rfl⟩
    obtain ⟨D, hD⟩ : ∃ D, myStepD s k f b u d t = D := ⟨_, rfl⟩
    obtain ⟨T, hT⟩ : ∃ T, myStepS s k f b u d t = T := ⟨_, rfl⟩
    have hv : myStepV s k f b u d t = .agg #[.int .i64 U, .int .i64 D, .int .i64 T] := by unfold myStepV; rw [hU, hD, hT]
    have HV := Lib.hid hv
    have C1 := Lib.hid (fun W => specStep_is (f := f) hs1 hu hd hv W)
    have HU := Lib.hid hU; have HD := Lib.hid hD; have HT := Lib.hid hT
    clear hb1 hB2 hU hD hT hv
    refine (impl_myersStep s k f u d t b _ hs1 hu hd).mono ?_
    rintro e w2 ⟨rfl, hb2⟩
    rw [HV.out]
    replace r1 := (hb2.block B1 hz1).trans r1
    replace r2 := (hb2.block B2 hz2).trans r2
    replace HB := HB.trans (hb2.mono HB.size)
    have hs2 := hb2.size
    clear hb2
    go_wp2_with fail
    have r3 := heap_alloc_new w2 (.cells #[.int .i64 U, .int .i64 D, .int .i64 T] 51)
    replace r1 := (Below.heap_alloc w2 (.cells #[.int .i64 U, .int .i64 D, .int .i64 T] 51) B1 (by omega)).trans r1
    replace r2 := (Below.heap_alloc w2 (.cells #[.int .i64 U, .int .i64 D, .int .i64 T] 51) B2 (by omega)).trans r2
    replace HB := HB.alloc HB.size (.cells #[.int .i64 U, .int .i64 D, .int .i64 T] 51)
    have hz3 : w2.heap.size < (w2.alloc (.cells #[.int .i64 U, .int .i64 D, .int .i64 T] 51)).heap.size := by simp
    generalize w2.alloc (.cells #[.int .i64 U, .int .i64 D, .int .i64 T] 51) = V2 at *
    generalize w2.heap.size = B3 at *
    replace hz1 : B1 < V2.heap.size := by omega
    replace hz2 : B2 < V2.heap.size := by omega
    refine (drawMyersNew _ _ _ _ _ (isRow_below hr HB) hl).mono ?_
    rintro e w3 ⟨s3, k3, f3, rfl, hs3, hk3, hb3⟩
    replace r1 := (hb3.block B1 hz1).trans r1
    replace r2 := (hb3.block B2 hz2).trans r2
    replace r3 := (hb3.block B3 hz3).trans r3
    replace HB := HB.trans (hb3.mono HB.size)
    have hs3' := hb3.size
    clear hb3
    go_wp2_with fail
    have r4 := heap_alloc_new w3 (.cells #[.string s3, .int .i64 k3, .bool f3] 31)
    replace r1 := (Below.heap_alloc w3 (.cells #[.string s3, .int .i64 k3, .bool f3] 31) B1 (by omega)).trans r1
    replace r2 := (Below.heap_alloc w3 (.cells #[.string s3, .int .i64 k3, .bool f3] 31) B2 (by omega)).trans r2
    replace r3 := (Below.heap_alloc w3 (.cells #[.string s3, .int .i64 k3, .bool f3] 31) B3 (by omega)).trans r3
    replace HB := HB.alloc HB.size (.cells #[.string s3, .int .i64 k3, .bool f3] 31)
    have hz4 : w3.heap.size < (w3.alloc (.cells #[.string s3, .int .i64 k3, .bool f3] 31)).heap.size := by simp
    generalize w3.alloc (.cells #[.string s3, .int .i64 k3, .bool f3] 31) = V3 at *
    generalize w3.heap.size = B4 at *
    replace hz1 : B1 < V3.heap.size := by omega
    replace hz2 : B2 < V3.heap.size := by omega
    replace hz3 : B3 < V3.heap.size := by omega
    refine (drawMyersOk _ _ _ _ _ (isRow_below hr HB) hl).mono ?_
    rintro e w4 ⟨s5, k5, f5, u5, d5, t5, rfl, hs5, hk5, ⟨hu5, hd5, ht5⟩, hb4⟩
    replace r1 := (hb4.block B1 hz1).trans r1
    replace r2 := (hb4.block B2 hz2).trans r2
    replace r3 := (hb4.block B3 hz3).trans r3
    replace r4 := (hb4.block B4 hz4).trans r4
    replace HB := HB.trans (hb4.mono HB.size)
    have hs4' := hb4.size
    clear hb4
    go_wp2_with fail
    have r5 := heap_alloc2_old w4 (.cells #[.string s5, .int .i64 k5, .bool f5] 31) (.cells #[.int .i64 u5, .int .i64 d5, .int .i64 t5] 51)
    have r6 := heap_alloc2_new w4 (.cells #[.string s5, .int .i64 k5, .bool f5] 31) (.cells #[.int .i64 u5, .int .i64 d5, .int .i64 t5] 51)
    have hbx := ((Below.refl w4.heap.size w4).alloc (Nat.le_refl _) (.cells #[.string s5, .int .i64 k5, .bool f5] 31)).alloc (by simp) (.cells #[.int .i64 u5, .int .i64 d5, .int .i64 t5] 51)
    replace r1 := (hbx.block B1 (by omega)).trans r1
    replace r2 := (hbx.block B2 (by omega)).trans r2
    replace r3 := (hbx.block B3 (by omega)).trans r3
    replace r4 := (hbx.block B4 (by omega)).trans r4
    replace HB := HB.trans (hbx.mono HB.size)
    have hz6 : w4.heap.size + 1 < ((w4.alloc (.cells #[.string s5, .int .i64 k5, .bool f5] 31)).alloc (.cells #[.int .i64 u5, .int .i64 d5, .int .i64 t5] 51)).heap.size := by simp
    generalize ((w4.alloc (.cells #[.string s5, .int .i64 k5, .bool f5] 31)).alloc (.cells #[.int .i64 u5, .int .i64 d5, .int .i64 t5] 51)) = V4 at *
    obtain ⟨B6, hB6⟩ : ∃ G, w4.heap.size + 1 = G := ⟨_, rfl⟩
    rw [hB6] at r6 hz6 ⊢
    generalize w4.heap.size = B5 at *
    replace hz1 : B1 < V4.heap.size := by omega
    replace hz2 : B2 < V4.heap.size := by omega
    replace hz3 : B3 < V4.heap.size := by omega
    have R1 := Lib.hid r1; have R2 := Lib.hid r2; have R3 := Lib.hid r3
    clear hbx hB6
    obtain ⟨x10, x11, x12⟩ := box3_of r1
    obtain ⟨x20, x21, x22⟩ := box3_of r2
    obtain ⟨x30, x31, x32⟩ := box3_of r3
    obtain ⟨x40, x41, x42⟩ := box3_of r4
    obtain ⟨x50, x51, x52⟩ := box3_of r5
    obtain ⟨x60, x61, x62⟩ := box3_of r6
    have c10 := cell_regrown x10
    have c11 := cell_regrown x11
    have c12 := cell_regrown x12
    have c20 := cell_regrown x20
    have c21 := cell_regrown x21
    have c22 := cell_regrown x22
    have c30 := cell_regrown x30
    have c31 := cell_regrown x31
    have c32 := cell_regrown x32
    have c40 := cell_regrown x40
    have c41 := cell_regrown x41
    have c42 := cell_regrown x42
    have c50 := cell_regrown x50
    have c51 := cell_regrown x51
    have c52 := cell_regrown x52
    have c60 := cell_regrown x60
    have c61 := cell_regrown x61
    have c62 := cell_regrown x62
    obtain ⟨nu, nd, ny, hnv⟩ : ∃ u d y : Int, myersNewV s3 k3 = .agg #[.int .i64 u, .int .i64 d, .int .i64 y] := by
      unfold myersNewV myV; split
      · exact ⟨_, _, _, rfl⟩
      · exact ⟨_, _, _, rfl⟩
    have C2 := Lib.hid (fun W => newI_is (f := f3) (show s3.size ≤ 1048576 by omega) hnv W)
    have C3 := Lib.hid (fun W => newS_is (f := f3) (show s3.size ≤ 1048576 by omega) hnv W)
    obtain ⟨cb, hcb⟩ : ∃ cb, myOkB s5 k5 u5 d5 t5 = cb := ⟨_, rfl⟩
    have C4 := Lib.hid (fun W => okI_is (f := f5) (show s5.size ≤ 1048576 by omega) hu5 hd5 hcb W)
    have C5 := Lib.hid (fun W => okS_is (f := f5) (show s5.size ≤ 1048576 by omega) hu5 hd5 hcb W)
    have ecb : (cb != cb) = false := by simp
    clear hnv hcb r1 r2 r3 r4 r5 r6 x10 x11 x12 x20 x21 x22 x30 x31 x32 x40 x41 x42 x50 x51 x52 x60 x61 x62
    refine wp_region_quiet_below (by kernel_rfl) (by kernel_rfl) ?_
    repeat (go_big_quiet_step (first | (go_at_call 47; with_reducible exact Calls.regrown_of (C1.out _)) | (go_at_call 48; with_reducible exact Calls.regrown_of (C2.out _)) | (go_at_call 49; with_reducible exact Calls.regrown_of (C3.out _)) | (go_at_call 50; with_reducible exact Calls.regrown_of (C4.out _)) | (go_at_call 51; with_reducible exact Calls.regrown_of (C5.out _))))
    refine wpQuiet_nil ?_
    intro _ hw'
    obtain ⟨⟨dq, osq⟩, hw''⟩ := hw'
    subst hw''
    have hX := below_regrown V4 dq osq
    have r1 := (hX.block B1 hz1).trans R1.out
    have r2 := (hX.block B2 hz2).trans R2.out
    have r3 := (hX.block B3 hz3).trans R3.out
    replace HB := HB.trans (hX.mono HB.size)
    have hsx := hX.size
    clear C1 C2 C3 C4 C5 R1 R2 R3 hX c10 c11 c12 c20 c21 c22 c30 c31 c32 c40 c41 c42 c50 c51 c52 c60 c61 c62
    generalize Sort.grow (redrawn V4 dq) osq = W5 at *
    replace hz1 : B1 < W5.heap.size := by omega
    replace hz2 : B2 < W5.heap.size := by omega
    replace hz3 : B3 < W5.heap.size := by omega
    obtain ⟨x10, x11, x12⟩ := box3_of r1
    obtain ⟨x20, x21, x22⟩ := box3_of r2
    obtain ⟨x30, x31, x32⟩ := box3_of r3
    clear ecb
    cases hm : myOkB s k u d t
    · have e0 : (myOkB s k u d t && inB b 0 255) = false := by rw [hm]; rfl
      have hU0 : U = 0 := by rw [← HU.out]; unfold myStepU; rw [e0]; rfl
      have hD0 : D = 0 := by rw [← HD.out]; unfold myStepD; rw [e0]; rfl
      have hT0 : T = 0 := by rw [← HT.out]; unfold myStepS; rw [e0]; rfl
      subst hU0 hD0 hT0
      have C6 := Lib.hid (okS_is (f := f) hs1 hu hd hm W5)
      clear hm e0 HU HD HT HV
      go_wp2_with fail
      refine C6.out.mono ?_
      rintro e w6 ⟨rfl, hb6⟩
      obtain ⟨y30, y31, y32⟩ := box3_of ((hb6.block B3 hz3).trans r3)
      clear r1 r2 r3
      go_wp2_with fail
      go_ret
      exact ⟨rfl, HB.trans (hb6.mono HB.size)⟩
    · cases hib : inB b 0 255
      · have e0 : (myOkB s k u d t && inB b 0 255) = false := by rw [hm, hib]; rfl
        have hU0 : U = 0 := by rw [← HU.out]; unfold myStepU; rw [e0]; rfl
        have hD0 : D = 0 := by rw [← HD.out]; unfold myStepD; rw [e0]; rfl
        have hT0 : T = 0 := by rw [← HT.out]; unfold myStepS; rw [e0]; rfl
        subst hU0 hD0 hT0
        have C6 := Lib.hid (okS_is (f := f) hs1 hu hd hm W5)
        have hbb : b < 0 ∨ (0 ≤ b ∧ 255 < b) := by
          by_cases h0 : b < 0
          · left; exact h0
          · right
            refine ⟨by omega, ?_⟩
            by_cases h1 : b ≤ 255
            · rw [inB_yes ⟨by omega, h1⟩] at hib; cases hib
            · omega
        clear hm hib e0 HU HD HT HV
        rcases hbb with h0 | ⟨h0, h1⟩
        · have g0 : decide (b < 0) = true := by simpa using h0
          go_wp2_with fail
          refine C6.out.mono ?_
          rintro e w6 ⟨rfl, hb6⟩
          obtain ⟨y30, y31, y32⟩ := box3_of ((hb6.block B3 hz3).trans r3)
          clear r1 r2 r3
          go_wp2_with fail
          go_ret
          exact ⟨rfl, HB.trans (hb6.mono HB.size)⟩
        · have g0 : decide (b < 0) = false := by simp; omega
          have g1 : decide (255 < b) = true := by simpa using h1
          go_wp2_with fail
          refine C6.out.mono ?_
          rintro e w6 ⟨rfl, hb6⟩
          obtain ⟨y30, y31, y32⟩ := box3_of ((hb6.block B3 hz3).trans r3)
          clear r1 r2 r3
          go_wp2_with fail
          go_ret
          exact ⟨rfl, HB.trans (hb6.mono HB.size)⟩
      · have hbb : 0 ≤ b ∧ b ≤ 255 := by simpa [inB] using hib
        have g0 : decide (b < 0) = false := by simp; omega
        have g1 : decide (255 < b) = false := by simp; omega
        obtain ⟨f1, f2, f3', f4, f5', f6⟩ := step_fine (f := f) hm hib
        rw [HU.out, HD.out, HT.out] at f1 f4
        rw [HU.out] at f2
        rw [HD.out] at f3'
        have hp1 : s.size ≤ 20 := (myOk_parts hm).1.2.1
        have C6 := Lib.hid (okS_is (f := f) hs1 hu hd hm W5)
        have F1 := Lib.hid f1; have F4 := Lib.hid f4; have F5 := Lib.hid f5'; have F6 := Lib.hid f6
        obtain ⟨L, hL0⟩ : ∃ L, tab (colF u d) (s.size + 1) = L := ⟨_, rfl⟩
        obtain ⟨M, hM0⟩ : ∃ M, tab (mNext s f b u d) (s.size + 1) = M := ⟨_, rfl⟩
        rw [hL0] at F5 F6
        rw [hM0] at F4 F6
        have HLL := Lib.hid (show L.length = s.size + 1 by rw [← hL0, tab_length])
        have HML := Lib.hid (show M.length = s.size + 1 by rw [← hM0, tab_length])
        have hn1 : s.size + 1 ≤ 1048577 := by omega
        have hu' : I64 u := hu
        have hd' : I64 d := hd
        clear hm hib f1 f4 f5' f6 HU HD HT HV hL0 hM0 hbb
        go_wp2_with fail
        refine C6.out.mono ?_
        rintro e w6 ⟨rfl, hb6⟩
        replace r1 := (hb6.block B1 hz1).trans r1
        replace r2 := (hb6.block B2 hz2).trans r2
        replace r3 := (hb6.block B3 hz3).trans r3
        replace HB := HB.trans (hb6.mono HB.size)
        have hs6 := hb6.size
        replace hz1 : B1 < w6.drew.heap.size := by show B1 < w6.heap.size; omega
        replace hz2 : B2 < w6.drew.heap.size := by show B2 < w6.heap.size; omega
        replace hz3 : B3 < w6.drew.heap.size := by show B3 < w6.heap.size; omega
        obtain ⟨y10, y11, y12⟩ := box3_of (show w6.drew.heap[B1]? = _ from r1)
        obtain ⟨y20, y21, y22⟩ := box3_of (show w6.drew.heap[B2]? = _ from r2)
        obtain ⟨y30, y31, y32⟩ := box3_of (show w6.drew.heap[B3]? = _ from r3)
        have hS10 : w6.drew.cell? ⟨B1, 0, none⟩ = some (.string s) ∧ w6.drew.cell? ⟨B1, 1, none⟩ = some (.int .i64 k) ∧ w6.drew.cell? ⟨B1, 2, none⟩ = some (.bool f) ∧ w6.drew.cell? ⟨B2, 0, none⟩ = some (.int .i64 u) ∧ w6.drew.cell? ⟨B2, 1, none⟩ = some (.int .i64 d) ∧ w6.drew.cell? ⟨B2, 2, none⟩ = some (.int .i64 t) ∧ w6.drew.cell? ⟨B3, 0, none⟩ = some (.int .i64 U) ∧ w6.drew.cell? ⟨B3, 1, none⟩ = some (.int .i64 D) ∧ w6.drew.cell? ⟨B3, 2, none⟩ = some (.int .i64 T) := ⟨y10, y11, y12, y20, y21, y22, y30, y31, y32⟩
        replace HB := HB.drew
        clear C6 hb6 r1 r2 r3 x10 x11 x12 x20 x21 x22 x30 x31 x32 y10 y11 y12 y20 y21 y22 y30 y31 y32
        go_wp2_with fail
        go_region_held3 (fun W => W.cell? ⟨B1, 0, none⟩ = some (.string s) ∧ W.cell? ⟨B1, 1, none⟩ = some (.int .i64 k) ∧ W.cell? ⟨B1, 2, none⟩ = some (.bool f) ∧ W.cell? ⟨B2, 0, none⟩ = some (.int .i64 u) ∧ W.cell? ⟨B2, 1, none⟩ = some (.int .i64 d) ∧ W.cell? ⟨B2, 2, none⟩ = some (.int .i64 t) ∧ W.cell? ⟨B3, 0, none⟩ = some (.int .i64 U) ∧ W.cell? ⟨B3, 1, none⟩ = some (.int .i64 D) ∧ W.cell? ⟨B3, 2, none⟩ = some (.int .i64 T)) (first | with_reducible exact hS10 | with_reducible exact hS11 | with_reducible exact hS12 | with_reducible exact hS13 | with_reducible exact hS14 | with_reducible exact hS15 | go_keep)
          (first
            | (go_at_call 50; (with_reducible refine (okI_is (f := f) hs1 f2 f3' F1.out _).mono ?_); rintro e w11 ⟨rfl, hb11⟩; have hS11 := keep9m hb11 hS10 hz1 hz2 hz3; replace HB := HB.trans (hb11.mono HB.size); have hzz := hb11.size; replace hz1 := Nat.lt_of_lt_of_le hz1 hzz; replace hz2 := Nat.lt_of_lt_of_le hz2 hzz; replace hz3 := Nat.lt_of_lt_of_le hz3 hzz; clear hzz)
            | (go_at_call 52; first | ((with_reducible refine (impl_myersCol s k f U D T _ hs1 f2 f3').mono ?_); rintro e w12 ⟨a12, n12, cap12, rfl, hO12, hb12⟩; rw [F4.out] at hO12; have hn12 : n12 = s.size + 1 := hO12.len.symm.trans HML.out; subst hn12; have hS12 := keep9m hb12 hS11 hz1 hz2 hz3; replace HB := HB.trans (hb12.mono HB.size); have hzz := hb12.size; replace hz1 := Nat.lt_of_lt_of_le hz1 hzz; replace hz2 := Nat.lt_of_lt_of_le hz2 hzz; replace hz3 := Nat.lt_of_lt_of_le hz3 hzz; clear hzz) | ((with_reducible refine (impl_myersCol s k f u d t _ hs1 hu' hd').mono ?_); rintro e w13 ⟨a13, n13, cap13, rfl, hO13, hb13⟩; rw [F5.out] at hO13; have hn13 : n13 = s.size + 1 := hO13.len.symm.trans HLL.out; subst hn13; replace hO12 := hO12.kept hb13; have hS13 := keep9m hb13 hS12 hz1 hz2 hz3; replace HB := HB.trans (hb13.mono HB.size); have hzz := hb13.size; replace hz1 := Nat.lt_of_lt_of_le hz1 hzz; replace hz2 := Nat.lt_of_lt_of_le hz2 hzz; replace hz3 := Nat.lt_of_lt_of_le hz3 hzz; clear hzz))
            | (go_at_call 29; (with_reducible refine (impl_nextCol s k f L a13 (s.size + 1) cap13 b _ hs1 HLL.out hO13.ints hn1).mono ?_); rintro e w14 ⟨a14, n14, cap14, rfl, hO14, hb14⟩; rw [F6.out] at hO14; have hn14 : n14 = s.size + 1 := hO14.len.symm.trans HML.out; subst hn14; replace hO12 := hO12.kept hb14; have hS14 := keep9m hb14 hS13 hz1 hz2 hz3; replace HB := HB.trans (hb14.mono HB.size); have hzz := hb14.size; replace hz1 := Nat.lt_of_lt_of_le hz1 hzz; replace hz2 := Nat.lt_of_lt_of_le hz2 hzz; replace hz3 := Nat.lt_of_lt_of_le hz3 hzz; clear hzz)
            | (go_at_call 32; (with_reducible refine (laws_sameInts M _ _ (s.size + 1) _ _ _ HML.out hO12.ints hO14.ints hn1).mono ?_); rintro e w15 ⟨rfl, hb15⟩; have hS15 := keep9m hb15 hS14 hz1 hz2 hz3; replace HB := HB.trans (hb15.mono HB.size); have hzz := hb15.size; replace hz1 := Nat.lt_of_lt_of_le hz1 hzz; replace hz2 := Nat.lt_of_lt_of_le hz2 hzz; replace hz3 := Nat.lt_of_lt_of_le hz3 hzz; clear hzz))
        go_wp2_with fail
        go_ret
        exact ⟨rfl, HB⟩
  · have hbig : decide (1048576 < (len : Int)) = true := by simp; omega
    go_enter Try.func7, Try.ntmps7
    go_wp2_with (go_at_call 21; go_in)
    go_ret
    exact ⟨rfl, Below.refl _ _⟩
end Go.Proofs.Ytgocfpdodbhcaaa

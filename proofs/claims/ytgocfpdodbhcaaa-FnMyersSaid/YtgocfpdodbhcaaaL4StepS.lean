/-
  Chapter 4: MyersStep's model.
-/
import Derived.Test.YtgocfpdodbhcaaaL4StepB
import Derived.Test.YtgocfpdodbhcaaaL4OkS
namespace Go.Proofs.Ytgocfpdodbhcaaa
open Go.RowKit
set_option linter.unusedVariables false
set_option maxRecDepth 100000
theorem mask_up (N : Nat → Int) (n : Nat) : maskTo (upG (tab N (n + 1))) n = maskTo (riseF N) n :=
  maskTo_congr _ _ _ fun i hi => by unfold upG riseF; rw [intAt_tab _ _ _ (by omega), intAt_tab _ _ _ (by omega)]
theorem mask_dn (N : Nat → Int) (n : Nat) : maskTo (dnG (tab N (n + 1))) n = maskTo (fallF N) n :=
  maskTo_congr _ _ _ fun i hi => by unfold dnG fallF; rw [intAt_tab _ _ _ (by omega), intAt_tab _ _ _ (by omega)]
theorem tab_next (s : ByteArray) (f : Bool) (b u d : Int) : tab (nextAt (maskG s f b) (intAt (tab (colF u d) (s.size + 1))) 0) (s.size + 1) = tab (mNext s f b u d) (s.size + 1) :=
  tab_congr fun i hi => nextAt_congr (n := s.size) (fun _ _ => rfl) (fun j hj => intAt_tab _ _ _ (by omega)) i (by omega)
theorem heap3 (w : World) (A B C : Obj) : (((w.alloc A).alloc B).alloc C).heap.size = w.heap.size + 3 := by simp
theorem keep6 {W W1 : World} {B : Nat} {s : ByteArray} {k u d t : Int} {f : Bool} (hb : Below W.heap.size W W1)
    (h : W.cell? ⟨B, 0, none⟩ = some (.string s) ∧ W.cell? ⟨B, 1, none⟩ = some (.int .i64 k) ∧ W.cell? ⟨B, 2, none⟩ = some (.bool f) ∧ W.cell? ⟨B + 1, 0, none⟩ = some (.int .i64 u) ∧ W.cell? ⟨B + 1, 1, none⟩ = some (.int .i64 d) ∧ W.cell? ⟨B + 1, 2, none⟩ = some (.int .i64 t)) (hz : B + 3 ≤ W.heap.size) : W1.cell? ⟨B, 0, none⟩ = some (.string s) ∧ W1.cell? ⟨B, 1, none⟩ = some (.int .i64 k) ∧ W1.cell? ⟨B, 2, none⟩ = some (.bool f) ∧ W1.cell? ⟨B + 1, 0, none⟩ = some (.int .i64 u) ∧ W1.cell? ⟨B + 1, 1, none⟩ = some (.int .i64 d) ∧ W1.cell? ⟨B + 1, 2, none⟩ = some (.int .i64 t) := by
  obtain ⟨a0, a1, a2, b0, b1, b2⟩ := h
  exact ⟨(hb.cell (p := ⟨B, 0, none⟩) (by show B < _; omega)).trans a0, (hb.cell (p := ⟨B, 1, none⟩) (by show B < _; omega)).trans a1, (hb.cell (p := ⟨B, 2, none⟩) (by show B < _; omega)).trans a2, (hb.cell (p := ⟨B + 1, 0, none⟩) (by show B + 1 < _; omega)).trans b0, (hb.cell (p := ⟨B + 1, 1, none⟩) (by show B + 1 < _; omega)).trans b1, (hb.cell (p := ⟨B + 1, 2, none⟩) (by show B + 1 < _; omega)).trans b2⟩
theorem set3_other {X : World} {b B i : Nat} (h : B ≠ b) (x y v : Value) : (((X.setCell ⟨b, 0, none⟩ x).setCell ⟨b, 1, none⟩ y).setCell ⟨b, 2, none⟩ v).cell? ⟨B, i, none⟩ = X.cell? ⟨B, i, none⟩ :=
  World.cell?_of_block ((Below.heap_setCell _ ⟨b, 2, none⟩ _ B h).trans ((Below.heap_setCell _ ⟨b, 1, none⟩ _ B h).trans (Below.heap_setCell _ ⟨b, 0, none⟩ _ B h)))
theorem keep6s {X : World} {B : Nat} {s : ByteArray} {k u d t : Int} {f : Bool} (x y v : Value)
    (h : X.cell? ⟨B, 0, none⟩ = some (.string s) ∧ X.cell? ⟨B, 1, none⟩ = some (.int .i64 k) ∧ X.cell? ⟨B, 2, none⟩ = some (.bool f) ∧ X.cell? ⟨B + 1, 0, none⟩ = some (.int .i64 u) ∧ X.cell? ⟨B + 1, 1, none⟩ = some (.int .i64 d) ∧ X.cell? ⟨B + 1, 2, none⟩ = some (.int .i64 t)) : (((X.setCell ⟨B + 2, 0, none⟩ x).setCell ⟨B + 2, 1, none⟩ y).setCell ⟨B + 2, 2, none⟩ v).cell? ⟨B, 0, none⟩ = some (.string s) ∧ (((X.setCell ⟨B + 2, 0, none⟩ x).setCell ⟨B + 2, 1, none⟩ y).setCell ⟨B + 2, 2, none⟩ v).cell? ⟨B, 1, none⟩ = some (.int .i64 k) ∧ (((X.setCell ⟨B + 2, 0, none⟩ x).setCell ⟨B + 2, 1, none⟩ y).setCell ⟨B + 2, 2, none⟩ v).cell? ⟨B, 2, none⟩ = some (.bool f) ∧ (((X.setCell ⟨B + 2, 0, none⟩ x).setCell ⟨B + 2, 1, none⟩ y).setCell ⟨B + 2, 2, none⟩ v).cell? ⟨B + 1, 0, none⟩ = some (.int .i64 u) ∧ (((X.setCell ⟨B + 2, 0, none⟩ x).setCell ⟨B + 2, 1, none⟩ y).setCell ⟨B + 2, 2, none⟩ v).cell? ⟨B + 1, 1, none⟩ = some (.int .i64 d) ∧ (((X.setCell ⟨B + 2, 0, none⟩ x).setCell ⟨B + 2, 1, none⟩ y).setCell ⟨B + 2, 2, none⟩ v).cell? ⟨B + 1, 2, none⟩ = some (.int .i64 t) := by
  obtain ⟨a0, a1, a2, b0, b1, b2⟩ := h
  exact ⟨(set3_other (by omega) _ _ _).trans a0, (set3_other (by omega) _ _ _).trans a1, (set3_other (by omega) _ _ _).trans a2, (set3_other (by omega) _ _ _).trans b0, (set3_other (by omega) _ _ _).trans b1, (set3_other (by omega) _ _ _).trans b2⟩
set_option maxHeartbeats 4000000 in
theorem spec_myersStep (s : ByteArray) (k : Int) (f : Bool) (u d t b : Int) (w : World) (hs : s.size ≤ 1048576) (hu : I64 u) (hd : I64 d) :
    Calls Try.prog 47 #[.agg #[.string s, .int .i64 k, .bool f], .agg #[.int .i64 u, .int .i64 d, .int .i64 t], .int .i64 b] w fun e w' => e = .returned (myStepV s k f b u d t) ∧ Below w.heap.size w w' := by
  cases hok : myOkB s k u d t
  · have HR := Lib.hid (myStepV_no (f := f) (b := b) (show (myOkB s k u d t && inB b 0 255) = false by rw [hok]; rfl))
    have HO := Lib.hid hok; clear hok
    go_enter Try.func47, Try.ntmps47
    go_wp2_with fail
    refine (spec_myersOk s k f u d t _ hs hu hd).mono ?_
    rintro e w1 ⟨rfl, hb1⟩
    rw [HO.out]
    obtain ⟨hc_w1, hf_w1⟩ := bcell hb1; have HT_w1 : Below w.heap.size w w1 := below_step (by repeat (first | exact Below.refl _ _ | assumption | (refine Below.drew ?_) | (refine below_drewN ?_ _) | (refine Below.alloc ?_ (by first | omega | (simp; done) | (simp; omega)) _) | (refine Below.setCell ?_ (by first | omega | (simp; done) | (simp; omega)) _))) hb1; have hy0_w1 : w.heap.size < w1.heap.size := (by have h1 := hb1.size; (try simp at h1); omega); have hy1_w1 : w.heap.size + 1 < w1.heap.size := (by have h1 := hb1.size; (try simp at h1); omega); have hy2_w1 : w.heap.size + 2 < w1.heap.size := (by have h1 := hb1.size; (try simp at h1); omega)
    go_wp2_with fail
    exact bodyPost_ret (v := .agg #[.int .i64 0, .int .i64 0, .int .i64 0]) (by simp [results, Try.results47, go_sem, hc_w1]) rfl ⟨by rw [HR.out], (by repeat (first | exact Below.refl _ _ | assumption | (refine Below.drew ?_) | (refine below_drewN ?_ _) | (refine Below.alloc ?_ (by first | omega | (simp; done) | (simp; omega)) _) | (refine Below.setCell ?_ (by first | omega | (simp; done) | (simp; omega)) _)))⟩
  · cases hib : inB b 0 255
    · have HR := Lib.hid (myStepV_no (f := f) (b := b) (show (myOkB s k u d t && inB b 0 255) = false by rw [hok, hib]; rfl))
      have HO := Lib.hid hok; have HI := Lib.hid hib; clear hok hib
      go_enter Try.func47, Try.ntmps47
      go_wp2_with fail
      refine (spec_myersOk s k f u d t _ hs hu hd).mono ?_
      rintro e w1 ⟨rfl, hb1⟩
      rw [HO.out]
      obtain ⟨hc_w1, hf_w1⟩ := bcell hb1; have HT_w1 : Below w.heap.size w w1 := below_step (by repeat (first | exact Below.refl _ _ | assumption | (refine Below.drew ?_) | (refine below_drewN ?_ _) | (refine Below.alloc ?_ (by first | omega | (simp; done) | (simp; omega)) _) | (refine Below.setCell ?_ (by first | omega | (simp; done) | (simp; omega)) _))) hb1; have hy0_w1 : w.heap.size < w1.heap.size := (by have h1 := hb1.size; (try simp at h1); omega); have hy1_w1 : w.heap.size + 1 < w1.heap.size := (by have h1 := hb1.size; (try simp at h1); omega); have hy2_w1 : w.heap.size + 2 < w1.heap.size := (by have h1 := hb1.size; (try simp at h1); omega)
      go_wp2_with (go_at_call 129; refine (spec_l1In _ _ _ _).mono ?_; rintro e w' ⟨rfl, rfl⟩; rw [HI.out])
      exact bodyPost_ret (v := .agg #[.int .i64 0, .int .i64 0, .int .i64 0]) (by simp [results, Try.results47, go_sem, hc_w1]) rfl ⟨by rw [HR.out], (by repeat (first | exact Below.refl _ _ | assumption | (refine Below.drew ?_) | (refine below_drewN ?_ _) | (refine Below.alloc ?_ (by first | omega | (simp; done) | (simp; omega)) _) | (refine Below.setCell ?_ (by first | omega | (simp; done) | (simp; omega)) _)))⟩
    · have HV := Lib.hid (myStepV_yes (f := f) hok hib)
      obtain ⟨⟨hp0, hp1, hk0, hk1⟩, hu1, hd1, hud, hC, ht⟩ := myOk_parts hok
      have hbb : 0 ≤ b ∧ b ≤ 255 := by simpa [inB] using hib
      obtain ⟨hb0, hb255⟩ := hbb
      have HO := Lib.hid hok; have HI := Lib.hid hib; clear hok hib
      have p2 := pow_small s.size hp1
      have HU := Lib.hid (show 0 ≤ u ∧ u ≤ 1048576 by omega)
      have HD := Lib.hid (show 0 ≤ d ∧ d ≤ 1048576 by omega)
      have HBC := Lib.hid (show Bnd (intAt (tab (colF u d) (s.size + 1))) s.size 20 from fun i hi => by
        rw [intAt_tab _ _ _ (by omega)]; have h1 := hC.2.1 i hi; have h2 := near_le hC i hi; omega)
      have hN := (near_next (eq := maskG s f b) hC).1
      have HBN := Lib.hid (show ∀ i, i < s.size + 1 → 0 ≤ intAt (tab (mNext s f b u d) (s.size + 1)) i ∧ intAt (tab (mNext s f b u d) (s.size + 1)) i ≤ 21 from fun i hi => by
        rw [intAt_tab _ _ _ hi]; unfold mNext; have h1 := hN.2.1 i (by omega); have h2 := near_le hN i (by omega); omega)
      have hcw : IntKind.u8.wrap b = b := by have : IntKind.u8.wrap b = b % 256 := by simp [IntKind.wrap, IntKind.bits, IntKind.signed]
                                             omega
      have htl : (tab (colF u d) (s.size + 1)).length = s.size + 1 := tab_length _ _
      have htl2 : (tab (mNext s f b u d) (s.size + 1)).length = s.size + 1 := tab_length _ _
      have HTL := Lib.hid htl; have HTL2 := Lib.hid htl2
      have HTN := Lib.hid (tab_next s f b u d)
      have hm1 := mask_up (mNext s f b u d) s.size
      have hm2 := mask_dn (mNext s f b u d) s.size
      have hm3 : intAt (tab (mNext s f b u d) (s.size + 1)) s.size = mNext s f b u d s.size := intAt_tab _ _ _ (by omega)
      obtain ⟨V0, hV0⟩ : ∃ V0, ((maskTo (riseF (mNext s f b u d)) s.size : Nat) : Int) = V0 := ⟨_, rfl⟩
      obtain ⟨V1, hV1⟩ : ∃ V1, ((maskTo (fallF (mNext s f b u d)) s.size : Nat) : Int) = V1 := ⟨_, rfl⟩
      obtain ⟨V2, hV2⟩ : ∃ V2, mNext s f b u d s.size = V2 := ⟨_, rfl⟩
      rw [hV0, hV1, hV2] at HV
      have HM := Lib.hid (show myV (maskTo (upG (tab (mNext s f b u d) (s.size + 1))) (s.size + 1 - 1) : Nat) (maskTo (dnG (tab (mNext s f b u d) (s.size + 1))) (s.size + 1 - 1) : Nat) (intAt (tab (mNext s f b u d) (s.size + 1)) (s.size + 1 - 1)) = .agg #[.int .i64 V0, .int .i64 V1, .int .i64 V2] by
        rw [Nat.add_sub_cancel, hm1, hm2, hm3, hV0, hV1, hV2]; rfl)
      have hn21 : s.size + 1 ≤ 21 := by omega
      have hn11 : 1 ≤ s.size + 1 := by omega
      have h20 : ((20 : Int)) ≤ 1048577 := by decide
      have h21 : ((21 : Int)) ≤ 1048577 := by decide
      have h0021 : (0 : Int) ≤ 20 + 1 := by decide
      clear hC hN hud hu1 hd1 ht p2 htl htl2 hm1 hm2 hm3 hV0 hV1 hV2 hk0 hk1
      go_enter Try.func47, Try.ntmps47
      go_wp2_with fail
      have hx := heap_alloc3 w (.cells #[.string s, .int .i64 k, .bool f] 31) (.cells #[.int .i64 u, .int .i64 d, .int .i64 t] 51) (.cells #[.int .i64 0, .int .i64 0, .int .i64 0] 51)
      have hz := heap3 w (.cells #[.string s, .int .i64 k, .bool f] 31) (.cells #[.int .i64 u, .int .i64 d, .int .i64 t] 51) (.cells #[.int .i64 0, .int .i64 0, .int .i64 0] 51)
      have hbx : Below w.heap.size w (((w.alloc (.cells #[.string s, .int .i64 k, .bool f] 31)).alloc (.cells #[.int .i64 u, .int .i64 d, .int .i64 t] 51)).alloc (.cells #[.int .i64 0, .int .i64 0, .int .i64 0] 51)) := (by repeat (first | exact Below.refl _ _ | assumption | (refine Below.drew ?_) | (refine below_drewN ?_ _) | (refine Below.alloc ?_ (by first | omega | (simp; done) | (simp; omega)) _) | (refine Below.setCell ?_ (by first | omega | (simp; done) | (simp; omega)) _)))
      generalize (((w.alloc (.cells #[.string s, .int .i64 k, .bool f] 31)).alloc (.cells #[.int .i64 u, .int .i64 d, .int .i64 t] 51)).alloc (.cells #[.int .i64 0, .int .i64 0, .int .i64 0] 51)) = V at *
      obtain ⟨x0, x1, x2⟩ := hx
      refine (spec_myersOk s k f u d t _ hs hu hd).mono ?_
      rintro e w1 ⟨rfl, hb1⟩
      rw [HO.out]
      have y0 := (hb1.block w.heap.size (by omega)).trans x0
      have y1 := (hb1.block (w.heap.size + 1) (by omega)).trans x1
      have y2 := (hb1.block (w.heap.size + 2) (by omega)).trans x2
      have hB1 := hbx.trans (hb1.mono hbx.size)
      have hz1 : w.heap.size + 3 ≤ w1.heap.size := by have := hb1.size; omega
      have hS0 : w1.drew.cell? ⟨w.heap.size, 0, none⟩ = some (.string s) ∧ w1.drew.cell? ⟨w.heap.size, 1, none⟩ = some (.int .i64 k) ∧ w1.drew.cell? ⟨w.heap.size, 2, none⟩ = some (.bool f) ∧ w1.drew.cell? ⟨w.heap.size + 1, 0, none⟩ = some (.int .i64 u) ∧ w1.drew.cell? ⟨w.heap.size + 1, 1, none⟩ = some (.int .i64 d) ∧ w1.drew.cell? ⟨w.heap.size + 1, 2, none⟩ = some (.int .i64 t) :=
        ⟨by rw [cell_of_row _ _ 0 _ _ _ (show w1.drew.heap[w.heap.size]? = _ from y0)]; rfl, by rw [cell_of_row _ _ 1 _ _ _ (show w1.drew.heap[w.heap.size]? = _ from y0)]; rfl, by rw [cell_of_row _ _ 2 _ _ _ (show w1.drew.heap[w.heap.size]? = _ from y0)]; rfl, by rw [cell_of_row _ _ 0 _ _ _ (show w1.drew.heap[w.heap.size + 1]? = _ from y1)]; rfl, by rw [cell_of_row _ _ 1 _ _ _ (show w1.drew.heap[w.heap.size + 1]? = _ from y1)]; rfl, by rw [cell_of_row _ _ 2 _ _ _ (show w1.drew.heap[w.heap.size + 1]? = _ from y1)]; rfl⟩
      have yd : w1.drew.heap[w.heap.size + 2]? = some (.cells #[.int .i64 0, .int .i64 0, .int .i64 0] 51 (0, 0)) := y2
      have hBd := hB1.drew
      have hzd : w.heap.size + 3 ≤ w1.drew.heap.size := hz1
      clear x0 x1 x2 y0 y1 y2 hb1 hbx hB1 hz1 hz
      go_wp2_with (go_at_call 129; refine (spec_l1In _ _ _ _).mono ?_; rintro e w' ⟨rfl, rfl⟩; rw [HI.out])
      go_region_held3 (fun W => W.cell? ⟨w.heap.size, 0, none⟩ = some (.string s) ∧ W.cell? ⟨w.heap.size, 1, none⟩ = some (.int .i64 k) ∧ W.cell? ⟨w.heap.size, 2, none⟩ = some (.bool f) ∧ W.cell? ⟨w.heap.size + 1, 0, none⟩ = some (.int .i64 u) ∧ W.cell? ⟨w.heap.size + 1, 1, none⟩ = some (.int .i64 d) ∧ W.cell? ⟨w.heap.size + 1, 2, none⟩ = some (.int .i64 t)) (first | with_reducible exact hS0 | with_reducible exact hS1 | with_reducible exact hS2 | with_reducible exact hS3 | with_reducible exact hS4 | go_keep)
        (first
          | (go_at_call 138; (with_reducible refine (spec_l4Col s k f u d t _ hp1 HU.out HD.out).mono ?_); rintro e w2 ⟨a2, cap2, rfl, hO2, hb2⟩; have hS1 := keep6 hb2 hS0 hzd; replace yd := (hb2.block (w.heap.size + 2) (Nat.lt_of_lt_of_le (Nat.lt_succ_self _) hzd)).trans yd; replace hBd := hBd.trans (hb2.mono hBd.size); replace hzd := Nat.le_trans hzd hb2.size)
          | (go_at_call 120; (with_reducible refine (spec_l3Next s f (tab (colF u d) (s.size + 1)) a2 (s.size + 1) cap2 0 b 20 _ hs rfl HTL.out hO2.ints HBC.out h20 (by decide) h0021 hb0 hb255).mono ?_); rintro e w3 ⟨a3, cap3, rfl, hO3, hb3⟩; rw [HTN.out] at hO3; have hS2 := keep6 hb3 hS1 hzd; replace yd := (hb3.block (w.heap.size + 2) (Nat.lt_of_lt_of_le (Nat.lt_succ_self _) hzd)).trans yd; replace hBd := hBd.trans (hb3.mono hBd.size); replace hzd := Nat.le_trans hzd hb3.size)
          | (go_at_call 137; (with_reducible refine (spec_l4Of (tab (mNext s f b u d) (s.size + 1)) a3 (s.size + 1) cap3 21 _ HTL2.out hO3.ints hn11 hn21 HBN.out h21).mono ?_); rintro e w4 ⟨rfl, hb4⟩; rw [HM.out]; have hS3 := keep6 hb4 hS2 hzd; replace yd := (hb4.block (w.heap.size + 2) (Nat.lt_of_lt_of_le (Nat.lt_succ_self _) hzd)).trans yd; replace hBd := hBd.trans (hb4.mono hBd.size); replace hzd := Nat.le_trans hzd hb4.size; have hS4 : (((w4.setCell ⟨w.heap.size + 2, 0, none⟩ (.int .i64 V0)).setCell ⟨w.heap.size + 2, 1, none⟩ (.int .i64 V1)).setCell ⟨w.heap.size + 2, 2, none⟩ (.int .i64 V2)).cell? ⟨w.heap.size, 0, none⟩ = some (.string s) ∧ (((w4.setCell ⟨w.heap.size + 2, 0, none⟩ (.int .i64 V0)).setCell ⟨w.heap.size + 2, 1, none⟩ (.int .i64 V1)).setCell ⟨w.heap.size + 2, 2, none⟩ (.int .i64 V2)).cell? ⟨w.heap.size, 1, none⟩ = some (.int .i64 k) ∧ (((w4.setCell ⟨w.heap.size + 2, 0, none⟩ (.int .i64 V0)).setCell ⟨w.heap.size + 2, 1, none⟩ (.int .i64 V1)).setCell ⟨w.heap.size + 2, 2, none⟩ (.int .i64 V2)).cell? ⟨w.heap.size, 2, none⟩ = some (.bool f) ∧ (((w4.setCell ⟨w.heap.size + 2, 0, none⟩ (.int .i64 V0)).setCell ⟨w.heap.size + 2, 1, none⟩ (.int .i64 V1)).setCell ⟨w.heap.size + 2, 2, none⟩ (.int .i64 V2)).cell? ⟨w.heap.size + 1, 0, none⟩ = some (.int .i64 u) ∧ (((w4.setCell ⟨w.heap.size + 2, 0, none⟩ (.int .i64 V0)).setCell ⟨w.heap.size + 2, 1, none⟩ (.int .i64 V1)).setCell ⟨w.heap.size + 2, 2, none⟩ (.int .i64 V2)).cell? ⟨w.heap.size + 1, 1, none⟩ = some (.int .i64 d) ∧ (((w4.setCell ⟨w.heap.size + 2, 0, none⟩ (.int .i64 V0)).setCell ⟨w.heap.size + 2, 1, none⟩ (.int .i64 V1)).setCell ⟨w.heap.size + 2, 2, none⟩ (.int .i64 V2)).cell? ⟨w.heap.size + 1, 2, none⟩ = some (.int .i64 t) := keep6s (.int .i64 V0) (.int .i64 V1) (.int .i64 V2) hS3; have m0 : w4.cell? ⟨w.heap.size + 2, 0, none⟩ = some (.int .i64 0) := (by rw [cell_of_row _ _ 0 _ _ _ yd]; rfl); have m1 : w4.cell? ⟨w.heap.size + 2, 1, none⟩ = some (.int .i64 0) := (by rw [cell_of_row _ _ 1 _ _ _ yd]; rfl); have m2 : w4.cell? ⟨w.heap.size + 2, 2, none⟩ = some (.int .i64 0) := (by rw [cell_of_row _ _ 2 _ _ _ yd]; rfl); have g0 := frozen_of_row _ _ 0 _ _ yd; have g1 := frozen_of_row _ _ 1 _ _ yd; have g2 := frozen_of_row _ _ 2 _ _ yd))
      clear hS0 hS1 hS2 hS3 hS4
      go_wp2_with fail
      exact bodyPost_ret (v := .agg #[.int .i64 V0, .int .i64 V1, .int .i64 V2]) (by simp [results, Try.results47, go_sem, m0, m1, m2]) rfl ⟨by rw [HV.out], ((hBd.setCell (p := ⟨w.heap.size + 2, 0, none⟩) (Nat.le_add_right _ _) _).setCell (p := ⟨w.heap.size + 2, 1, none⟩) (Nat.le_add_right _ _) _).setCell (p := ⟨w.heap.size + 2, 2, none⟩) (Nat.le_add_right _ _) _⟩
end Go.Proofs.Ytgocfpdodbhcaaa

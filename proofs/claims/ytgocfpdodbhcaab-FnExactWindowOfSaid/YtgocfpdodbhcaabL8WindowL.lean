/-
  FnExactWindowOf: the walk.
-/
import Derived.Test.YtgocfpdodbhcaabL8WindowS
import Derived.Deep.RegionLaw
import Derived.Deep.Cut
namespace Go.Proofs.Ytgocfpdodbhcaab
open Go.RowKit
set_option linter.unusedVariables false
set_option maxRecDepth 100000
set_option maxHeartbeats 4000000 in
theorem law_FnExactWindowOf (s : ByteArray) (hs : s.size ≤ maxLen) (k : Int) (_wk : (Lit.int .i64 k).wf = true) (f : Bool) (x : ByteArray) (hx : x.size ≤ maxLen) (at' : Int) (_wat : (Lit.int .i64 at').wf = true) (e : Int) (_we : (Lit.int .i64 e).wf = true) (w : World) :
    Calls Try.prog 12 #[.agg #[.string s, .int .i64 k, .bool f], .agg #[.int .i64 at', .string x], .int .i64 e] w fun r w' => r = .returned (.bool true) ∧ Below w.heap.size w w' := by
  unfold maxLen at hs hx
  by_cases hbig : (s.size : Int) ≤ 1048576
  · have H := Lib.hid (szI_yes hbig)
    have hs2 : s.size ≤ 1048576 := by omega
    by_cases hbx : (x.size : Int) ≤ 1048576 - s.size
    · have H2 := Lib.hid (szI_yes hbx)
      have hx2 : x.size ≤ 1048576 := by omega
      obtain ⟨U, hU⟩ : ∃ U, wFrom s k at' x e = U := ⟨_, rfl⟩
      obtain ⟨D, hD⟩ : ∃ D, wTo s k at' x e = D := ⟨_, rfl⟩
      have HV := Lib.hid (show windowV s k at' x e = .agg #[.int .i64 U, .int .i64 D] by unfold windowV; rw [hU, hD])
      clear hU hD
      go_enter Try.func12, Try.ntmps12
      go_wp2_with fail
      refine (laws_szPattern _ _ _ _ _ (by omega) (by omega) (by omega)).mono ?_
      rintro r w1 ⟨rfl, hb1⟩
      rw [H.out]
      obtain ⟨hc_w1, hf_w1⟩ := bcell hb1; have HT_w1 : Below w.heap.size w w1 := below_step (by repeat (first | exact Below.refl _ _ | assumption | (refine Below.drew ?_) | (refine below_drewN ?_ _) | (refine Below.alloc ?_ (by first | omega | (simp; done) | (simp; omega)) _) | (refine Below.setCell ?_ (by first | omega | (simp; done) | (simp; omega)) _))) hb1; have hy0_w1 : w.heap.size < w1.heap.size := (by have h1 := hb1.size; (try simp at h1); omega); have hy1_w1 : w.heap.size + 1 < w1.heap.size := (by have h1 := hb1.size; (try simp at h1); omega)
      go_wp2_with fail
      refine (laws_szPiece _ _ _ _ (by omega) (by omega) (by omega)).mono ?_
      rintro r w2 ⟨rfl, hb2⟩
      rw [H2.out]
      obtain ⟨hc_w2, hf_w2⟩ := bcell hb2; have HT_w2 : Below w.heap.size w w2 := below_step (by repeat (first | exact Below.refl _ _ | assumption | (refine Below.drew ?_) | (refine below_drewN ?_ _) | (refine Below.alloc ?_ (by first | omega | (simp; done) | (simp; omega)) _) | (refine Below.setCell ?_ (by first | omega | (simp; done) | (simp; omega)) _))) hb2; have hy0_w2 : w.heap.size < w2.heap.size := (by have h1 := hb2.size; (try simp at h1); omega); have hy1_w2 : w.heap.size + 1 < w2.heap.size := (by have h1 := hb2.size; (try simp at h1); omega)
      go_wp2_with fail
      go_cut [8] from 20 (fun xx wr => ∃ g, xx = .pointer (some ⟨g, 0, none⟩) ∧ w.heap.size + 1 < g ∧ g < wr.heap.size ∧ wr.cell? ⟨g, 0, none⟩ = some (.int .i64 U) ∧ wr.cell? ⟨g, 1, none⟩ = some (.int .i64 D) ∧ Below w.heap.size w wr ∧ wr.cell? ⟨w.heap.size, 0, none⟩ = some (.string s) ∧ wr.cell? ⟨w.heap.size, 1, none⟩ = some (.int .i64 k) ∧ wr.cell? ⟨w.heap.size, 2, none⟩ = some (.bool f) ∧ wr.cell? ⟨w.heap.size + 1, 0, none⟩ = some (.int .i64 at') ∧ wr.cell? ⟨w.heap.size + 1, 1, none⟩ = some (.string x))
      case first =>
        go_region_law ((go_simp; first
          | (go_at_call 22; refine (laws_toPattern _ _ _ _).mono ?_; rintro r w3 ⟨rfl, hb3d⟩; (first | (have hb3 : Below w2.heap.size w2 w3 := below_undrew hb3d) | (have hb3 := hb3d)); obtain ⟨hc_w3, hf_w3⟩ := bcell hb3; have HT_w3 : Below w.heap.size w w3 := below_step (by repeat (first | exact Below.refl _ _ | assumption | (refine Below.drew ?_) | (refine below_drewN ?_ _) | (refine Below.alloc ?_ (by first | omega | (simp; done) | (simp; omega)) _) | (refine Below.setCell ?_ (by first | omega | (simp; done) | (simp; omega)) _))) hb3; have hy0_w3 : w.heap.size < w3.heap.size := (by have h1 := hb3.size; (try simp at h1); omega); have hy1_w3 : w.heap.size + 1 < w3.heap.size := (by have h1 := hb3.size; (try simp at h1); omega); (try (have hv_w2_w3 : w2.heap.size < w3.heap.size := (by have h1 := hb3.size; (try simp at h1); omega))))
          | (go_at_call 60; refine (laws_toPiece _ _ _).mono ?_; rintro r w4 ⟨rfl, hb4⟩; obtain ⟨hc_w4, hf_w4⟩ := bcell hb4; have HT_w4 : Below w.heap.size w w4 := below_step (by repeat (first | exact Below.refl _ _ | assumption | (refine Below.drew ?_) | (refine below_drewN ?_ _) | (refine Below.alloc ?_ (by first | omega | (simp; done) | (simp; omega)) _) | (refine Below.setCell ?_ (by first | omega | (simp; done) | (simp; omega)) _))) hb4; have hy0_w4 : w.heap.size < w4.heap.size := (by have h1 := hb4.size; (try simp at h1); omega); have hy1_w4 : w.heap.size + 1 < w4.heap.size := (by have h1 := hb4.size; (try simp at h1); omega); (try (have hv_w2_w4 : w2.heap.size < w4.heap.size := (by have h1 := hb4.size; (try simp at h1); omega))); (try (have hv_w3_w4 : w3.heap.size < w4.heap.size := (by have h1 := hb4.size; (try simp at h1); omega))))
          | (go_at_call 59; refine (spec_windowOf s k f at' x e _ hs2 hx2).mono ?_; rintro r w5 ⟨rfl, hb5⟩; rw [HV.out]; obtain ⟨hc_w5, hf_w5⟩ := bcell hb5; have HT_w5 : Below w.heap.size w w5 := below_step (by repeat (first | exact Below.refl _ _ | assumption | (refine Below.drew ?_) | (refine below_drewN ?_ _) | (refine Below.alloc ?_ (by first | omega | (simp; done) | (simp; omega)) _) | (refine Below.setCell ?_ (by first | omega | (simp; done) | (simp; omega)) _))) hb5; have hy0_w5 : w.heap.size < w5.heap.size := (by have h1 := hb5.size; (try simp at h1); omega); have hy1_w5 : w.heap.size + 1 < w5.heap.size := (by have h1 := hb5.size; (try simp at h1); omega); (try (have hv_w2_w5 : w2.heap.size < w5.heap.size := (by have h1 := hb5.size; (try simp at h1); omega))); (try (have hv_w3_w5 : w3.heap.size < w5.heap.size := (by have h1 := hb5.size; (try simp at h1); omega))); (try (have hv_w4_w5 : w4.heap.size < w5.heap.size := (by have h1 := hb5.size; (try simp at h1); omega))))))
        all_goals
          go_wp2_with fail
          go_meet
          case rel =>
            refine ⟨_, rfl, by first | omega | (simp; omega), by first | (simp; done) | (simp; omega) | (simp [World.setCell]; omega), by go_simp, by go_simp, (by repeat (first | exact Below.refl _ _ | assumption | (refine Below.drew ?_) | (refine below_drewN ?_ _) | (refine Below.alloc ?_ (by first | omega | (simp; done) | (simp; omega)) _) | (refine Below.setCell ?_ (by first | omega | (simp; done) | (simp; omega)) _))), by go_simp, by go_simp, by go_simp, by go_simp, by go_simp⟩
      case rest =>
        obtain ⟨g, rfl, hg0, hg1, c0, c1, hT4, p0, p1, p2, p3, p4⟩ := hcut
        clear hb1 hc_w1 hf_w1 HT_w1 hy0_w1 hy1_w1 hb2 hc_w2 hf_w2 HT_w2 hy0_w2 hy1_w2
        generalize wc = wa at *
        have hwc := hT4.size
        have hz1 : w.heap.size + 1 < wa.heap.size := by omega
        have hz0 : w.heap.size < wa.heap.size := by omega
        go_wp2_with fail
        go_cut [9] from 26 (fun xx wr => ∃ g2, xx = .pointer (some ⟨g2, 0, none⟩) ∧ wr.cell? ⟨g2, 0, none⟩ = some (.int .i64 U) ∧ wr.cell? ⟨g2, 1, none⟩ = some (.int .i64 D) ∧ Below wa.heap.size wa wr)
        case first =>
          go_region_law ((go_simp; first
            | (go_at_call 22; refine (laws_toPattern _ _ _ _).mono ?_; rintro r w7 ⟨rfl, hb7d⟩; (first | (have hb7 : Below wa.heap.size wa w7 := below_undrew hb7d) | (have hb7 := hb7d)); obtain ⟨hc_w7, hf_w7⟩ := bcell hb7; have HT_w7 : Below wa.heap.size wa w7 := (by first | exact hb7 | exact below_step (by repeat (first | exact Below.refl _ _ | (refine Below.drew ?_) | (refine Below.alloc ?_ (by first | omega | (simp; done) | (simp; omega)) _))) hb7); have hs7 := HT_w7.size; have hq7 : w.heap.size + 1 < w7.heap.size := (by omega); have hr7 : w.heap.size < w7.heap.size := (by omega); (try (have hv_wa_w7 : wa.heap.size < w7.heap.size := (by have h1 := hb7.size; (try simp at h1); omega))))
            | (go_at_call 60; refine (laws_toPiece _ _ _).mono ?_; rintro r w8 ⟨rfl, hb8⟩; obtain ⟨hc_w8, hf_w8⟩ := bcell hb8; have HT_w8 : Below wa.heap.size wa w8 := below_step (by repeat (first | exact Below.refl _ _ | assumption | (refine Below.drew ?_) | (refine below_drewN ?_ _) | (refine Below.alloc ?_ (by first | omega | (simp; done) | (simp; omega)) _) | (refine Below.setCell ?_ (by first | omega | (simp; done) | (simp; omega)) _))) hb8; have hs8 := HT_w8.size; have hq8 : w.heap.size + 1 < w8.heap.size := (by omega); have hr8 : w.heap.size < w8.heap.size := (by omega); (try (have hv_wa_w8 : wa.heap.size < w8.heap.size := (by have h1 := hb8.size; (try simp at h1); omega))); (try (have hv_w7_w8 : w7.heap.size < w8.heap.size := (by have h1 := hb8.size; (try simp at h1); omega))))
            | (go_at_call 61; refine (impl_windowOf s k f at' x e _ hs2 hx2).mono ?_; rintro r w9 ⟨rfl, hb9⟩; rw [HV.out]; obtain ⟨hc_w9, hf_w9⟩ := bcell hb9; have HT_w9 : Below wa.heap.size wa w9 := below_step (by repeat (first | exact Below.refl _ _ | assumption | (refine Below.drew ?_) | (refine below_drewN ?_ _) | (refine Below.alloc ?_ (by first | omega | (simp; done) | (simp; omega)) _) | (refine Below.setCell ?_ (by first | omega | (simp; done) | (simp; omega)) _))) hb9; have hs9 := HT_w9.size; have hq9 : w.heap.size + 1 < w9.heap.size := (by omega); have hr9 : w.heap.size < w9.heap.size := (by omega); (try (have hv_wa_w9 : wa.heap.size < w9.heap.size := (by have h1 := hb9.size; (try simp at h1); omega))); (try (have hv_w7_w9 : w7.heap.size < w9.heap.size := (by have h1 := hb9.size; (try simp at h1); omega))); (try (have hv_w8_w9 : w8.heap.size < w9.heap.size := (by have h1 := hb9.size; (try simp at h1); omega))))))
          all_goals
            go_wp2_with fail
            go_meet
            case rel => exact ⟨_, rfl, by go_simp, by go_simp, (by repeat (first | exact Below.refl _ _ | assumption | (refine Below.drew ?_) | (refine below_drewN ?_ _) | (refine Below.alloc ?_ (by first | omega | (simp; done) | (simp; omega)) _) | (refine Below.setCell ?_ (by first | omega | (simp; done) | (simp; omega)) _)))⟩
        case rest =>
          obtain ⟨g2, rfl, e0, e1, hB7⟩ := hcut
          have r0 := (hB7.cell (p := ⟨g, 0, none⟩) hg1).trans c0
          have r1 := (hB7.cell (p := ⟨g, 1, none⟩) hg1).trans c1
          have hTr := hT4.trans (hB7.mono hwc)
          clear hB7 p0 p1 p2 p3 p4 c0 c1 hT4
          go_wp2_with fail
          refine (laws_eqSpan _ _ _).mono ?_
          rintro r w10 ⟨rfl, hb10⟩
          go_wp2_with fail
          go_ret
          exact ⟨rfl, hTr.trans (hb10.mono hTr.size)⟩
    · go_enter Try.func12, Try.ntmps12
      have H2 := Lib.hid (szI_no hbx)
      go_wp2_with fail
      refine (laws_szPattern _ _ _ _ _ (by omega) (by omega) (by omega)).mono ?_
      rintro r w1 ⟨rfl, hb1⟩
      rw [H.out]
      obtain ⟨hc_w1, hf_w1⟩ := bcell hb1; have HT_w1 : Below w.heap.size w w1 := below_step (by repeat (first | exact Below.refl _ _ | assumption | (refine Below.drew ?_) | (refine below_drewN ?_ _) | (refine Below.alloc ?_ (by first | omega | (simp; done) | (simp; omega)) _) | (refine Below.setCell ?_ (by first | omega | (simp; done) | (simp; omega)) _))) hb1; have hy0_w1 : w.heap.size < w1.heap.size := (by have h1 := hb1.size; (try simp at h1); omega); have hy1_w1 : w.heap.size + 1 < w1.heap.size := (by have h1 := hb1.size; (try simp at h1); omega)
      go_wp2_with fail
      refine (laws_szPiece _ _ _ _ (by omega) (by omega) (by omega)).mono ?_
      rintro r w2 ⟨rfl, hb2⟩
      rw [H2.out]
      obtain ⟨hc_w2, hf_w2⟩ := bcell hb2; have HT_w2 : Below w.heap.size w w2 := below_step (by repeat (first | exact Below.refl _ _ | assumption | (refine Below.drew ?_) | (refine below_drewN ?_ _) | (refine Below.alloc ?_ (by first | omega | (simp; done) | (simp; omega)) _) | (refine Below.setCell ?_ (by first | omega | (simp; done) | (simp; omega)) _))) hb2; have hy0_w2 : w.heap.size < w2.heap.size := (by have h1 := hb2.size; (try simp at h1); omega); have hy1_w2 : w.heap.size + 1 < w2.heap.size := (by have h1 := hb2.size; (try simp at h1); omega)
      go_wp2_with fail
      go_ret
      exact ⟨rfl, HT_w2⟩
  · go_enter Try.func12, Try.ntmps12
    have H := Lib.hid (szI_no hbig)
    go_wp2_with fail
    refine (laws_szPattern _ _ _ _ _ (by omega) (by omega) (by omega)).mono ?_
    rintro r w1 ⟨rfl, hb1⟩
    rw [H.out]
    obtain ⟨hc_w1, hf_w1⟩ := bcell hb1; have HT_w1 : Below w.heap.size w w1 := below_step (by repeat (first | exact Below.refl _ _ | assumption | (refine Below.drew ?_) | (refine below_drewN ?_ _) | (refine Below.alloc ?_ (by first | omega | (simp; done) | (simp; omega)) _) | (refine Below.setCell ?_ (by first | omega | (simp; done) | (simp; omega)) _))) hb1; have hy0_w1 : w.heap.size < w1.heap.size := (by have h1 := hb1.size; (try simp at h1); omega); have hy1_w1 : w.heap.size + 1 < w1.heap.size := (by have h1 := hb1.size; (try simp at h1); omega)
    go_wp2_with fail
    go_ret
    exact ⟨rfl, HT_w1⟩
end Go.Proofs.Ytgocfpdodbhcaab

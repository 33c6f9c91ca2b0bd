/-
  FnExactCutStep: the walk.
-/
import Derived.Test.YtflbjjpkloeocabL6StepS
import Derived.Test.YtflbjjpkloeocabL6StepB
import Derived.Deep.RegionLaw
import Derived.Deep.Cut
namespace Go.Proofs.Ytflbjjpkloeocab
open Go.RowKit
set_option linter.unusedVariables false
set_option maxRecDepth 100000
theorem cutStepL_len (s : ByteArray) (k : Int) (f : Bool) (b : Int) (L : List Int) (x : Int) (h : s.size ≤ 1048576) : (cutStepL s k f b L x).length ≤ 1048577 := by
  unfold cutStepL; split
  · have := lastLe_lt (stepN s k f b L) k (s.size + 1) (by omega)
    unfold cutL; rw [tab_length]; omega
  · simp
set_option maxHeartbeats 4000000 in
theorem law_FnExactCutStep (s : ByteArray) (hs : s.size ≤ maxLen) (k : Int) (_wk : (Lit.int .i64 k).wf = true) (f : Bool) (a : Option Addr) (len cap : Nat) (z : List Int) (x : Int) (wx : (Lit.int .i64 x).wf = true) (b : Int) (_wb : (Lit.int .i64 b).wf = true) (w : World) (hr : IsRow .i64 w a len cap z) :
    Calls Try.prog 11 #[.agg #[.string s, .int .i64 k, .bool f], .agg #[.slice a len cap, .int .i64 x], .int .i64 b] w fun e w' => e = .returned (.bool true) ∧ Below w.heap.size w w' := by
  obtain ⟨hI, hln, hlm, hwf⟩ := ints_of_row hr
  clear hr
  have hxx : -9223372036854775808 ≤ x ∧ x ≤ 9223372036854775807 := by simpa [Lit.wf, IntKind.min, IntKind.max, IntKind.signed, IntKind.bits] using wx
  have HX := Lib.hid hxx; clear hxx wx
  generalize z.take len = L at *
  unfold maxLen at hs hlm
  by_cases hbig : (s.size : Int) ≤ 1048576
  · have H := Lib.hid (szI_yes hbig)
    have hs2 : s.size ≤ 1048576 := by omega
    by_cases hbl : (len : Int) ≤ 1048576 - s.size
    · have H2 := Lib.hid (szI_yes hbl)
      have hl2 : len ≤ 1048577 := by omega
      have HW := Lib.hid hwf; clear hwf
      have hrl := cutStepL_len s k f b L x hs2
      have HL := Lib.hid hln; clear hln
      go_enter Try.func11, Try.ntmps11
      go_wp2_with fail
      refine (laws_szPattern _ _ _ _ _ (by omega) (by omega) (by omega)).mono ?_
      rintro e w1 ⟨rfl, hb1⟩
      rw [H.out]
      obtain ⟨hc_w1, hf_w1⟩ := bcell hb1; have HT_w1 : Below w.heap.size w w1 := below_step (by repeat (first | exact Below.refl _ _ | assumption | (refine Below.drew ?_) | (refine below_drewN ?_ _) | (refine Below.alloc ?_ (by first | omega | (simp; done) | (simp; omega)) _) | (refine Below.setCell ?_ (by first | omega | (simp; done) | (simp; omega)) _))) hb1; have hy0_w1 : w.heap.size < w1.heap.size := (by have h1 := hb1.size; (try simp at h1); omega); have hy1_w1 : w.heap.size + 1 < w1.heap.size := (by have h1 := hb1.size; (try simp at h1); omega)
      go_wp2_with fail
      refine (szCut_any _ _ _ _ _ _ (by omega) (by omega) (by omega)).mono ?_
      rintro e w2 ⟨rfl, hb2⟩
      rw [H2.out]
      obtain ⟨hc_w2, hf_w2⟩ := bcell hb2; have HT_w2 : Below w.heap.size w w2 := below_step (by repeat (first | exact Below.refl _ _ | assumption | (refine Below.drew ?_) | (refine below_drewN ?_ _) | (refine Below.alloc ?_ (by first | omega | (simp; done) | (simp; omega)) _) | (refine Below.setCell ?_ (by first | omega | (simp; done) | (simp; omega)) _))) hb2; have hy0_w2 : w.heap.size < w2.heap.size := (by have h1 := hb2.size; (try simp at h1); omega); have hy1_w2 : w.heap.size + 1 < w2.heap.size := (by have h1 := hb2.size; (try simp at h1); omega)
      go_wp2_with fail
      go_cut [8] from 15 (fun yv wr => ∃ g a4 n4 cap4, yv = .pointer (some ⟨g, 0, none⟩) ∧ w.heap.size + 1 < g ∧ g < wr.heap.size ∧ wr.cell? ⟨g, 0, none⟩ = some (.slice a4 n4 cap4) ∧ wr.cell? ⟨g, 1, none⟩ = some (.int .i64 (cutStepI s k f b L x)) ∧ OwnN wr w.heap.size a4 n4 cap4 (cutStepL s k f b L x) ∧ Below w.heap.size w wr ∧ wr.cell? ⟨w.heap.size, 0, none⟩ = some (.string s) ∧ wr.cell? ⟨w.heap.size, 1, none⟩ = some (.int .i64 k) ∧ wr.cell? ⟨w.heap.size, 2, none⟩ = some (.bool f) ∧ wr.cell? ⟨w.heap.size + 1, 0, none⟩ = some (.slice a len cap) ∧ wr.cell? ⟨w.heap.size + 1, 1, none⟩ = some (.int .i64 x))
      case first =>
        go_region_law ((go_simp; first
          | (go_at_call 46; refine (laws_toPattern _ _ _ _).mono ?_; rintro e w3 ⟨rfl, hb3d⟩; (first | (have hb3 : Below w2.heap.size w2 w3 := below_undrew hb3d) | (have hb3 := hb3d)); obtain ⟨hc_w3, hf_w3⟩ := bcell hb3; have HT_w3 : Below w.heap.size w w3 := below_step (by repeat (first | exact Below.refl _ _ | assumption | (refine Below.drew ?_) | (refine below_drewN ?_ _) | (refine Below.alloc ?_ (by first | omega | (simp; done) | (simp; omega)) _) | (refine Below.setCell ?_ (by first | omega | (simp; done) | (simp; omega)) _))) hb3; have hy0_w3 : w.heap.size < w3.heap.size := (by have h1 := hb3.size; (try simp at h1); omega); have hy1_w3 : w.heap.size + 1 < w3.heap.size := (by have h1 := hb3.size; (try simp at h1); omega); (try (have hv_w2_w3 : w2.heap.size < w3.heap.size := (by have h1 := hb3.size; (try simp at h1); omega))))
          | (go_at_call 62; refine (toCut_any L x a _ _ _ HL.out (hI.kept (by repeat (first | exact Below.refl _ _ | assumption | (refine Below.drew ?_) | (refine below_drewN ?_ _) | (refine Below.alloc ?_ (by first | omega | (simp; done) | (simp; omega)) _) | (refine Below.setCell ?_ (by first | omega | (simp; done) | (simp; omega)) _)))) hl2).mono ?_; rintro e w4 ⟨a4, cap4, rfl, hO4, hb4⟩; obtain ⟨hc_w4, hf_w4⟩ := bcell hb4; have HT_w4 : Below w.heap.size w w4 := below_step (by repeat (first | exact Below.refl _ _ | assumption | (refine Below.drew ?_) | (refine below_drewN ?_ _) | (refine Below.alloc ?_ (by first | omega | (simp; done) | (simp; omega)) _) | (refine Below.setCell ?_ (by first | omega | (simp; done) | (simp; omega)) _))) hb4; have hy0_w4 : w.heap.size < w4.heap.size := (by have h1 := hb4.size; (try simp at h1); omega); have hy1_w4 : w.heap.size + 1 < w4.heap.size := (by have h1 := hb4.size; (try simp at h1); omega); (try (have hv_w2_w4 : w2.heap.size < w4.heap.size := (by have h1 := hb4.size; (try simp at h1); omega))); (try (have hv_w3_w4 : w3.heap.size < w4.heap.size := (by have h1 := hb4.size; (try simp at h1); omega))))
          | (go_at_call 29; refine (spec_cutStep s k f L x a4 len cap4 b _ hs2 HL.out (hO4.ints.kept (by repeat (first | exact Below.refl _ _ | assumption | (refine Below.drew ?_) | (refine below_drewN ?_ _) | (refine Below.alloc ?_ (by first | omega | (simp; done) | (simp; omega)) _) | (refine Below.setCell ?_ (by first | omega | (simp; done) | (simp; omega)) _)))) hl2 HX.out).mono ?_; rintro e w5 ⟨a5, n5, cap5, rfl, hO5, hb5⟩; obtain ⟨hc_w5, hf_w5⟩ := bcell hb5; have HT_w5 : Below w.heap.size w w5 := below_step (by repeat (first | exact Below.refl _ _ | assumption | (refine Below.drew ?_) | (refine below_drewN ?_ _) | (refine Below.alloc ?_ (by first | omega | (simp; done) | (simp; omega)) _) | (refine Below.setCell ?_ (by first | omega | (simp; done) | (simp; omega)) _))) hb5; have hy0_w5 : w.heap.size < w5.heap.size := (by have h1 := hb5.size; (try simp at h1); omega); have hy1_w5 : w.heap.size + 1 < w5.heap.size := (by have h1 := hb5.size; (try simp at h1); omega); have hO6 := hO5.mono (C := w.heap.size) (by first | omega | (simp; omega)); (try (have hv_w2_w5 : w2.heap.size < w5.heap.size := (by have h1 := hb5.size; (try simp at h1); omega))); (try (have hv_w3_w5 : w3.heap.size < w5.heap.size := (by have h1 := hb5.size; (try simp at h1); omega))); (try (have hv_w4_w5 : w4.heap.size < w5.heap.size := (by have h1 := hb5.size; (try simp at h1); omega))))))
        all_goals
          go_wp2_with fail
          go_meet
          case rel =>
            refine ⟨_, a5, n5, cap5, rfl, by first | omega | (simp; omega), by first | (simp; done) | (simp; omega) | (simp [World.setCell]; omega), by go_simp, by go_simp, ?_, (by repeat (first | exact Below.refl _ _ | assumption | (refine Below.drew ?_) | (refine below_drewN ?_ _) | (refine Below.alloc ?_ (by first | omega | (simp; done) | (simp; omega)) _) | (refine Below.setCell ?_ (by first | omega | (simp; done) | (simp; omega)) _))), by go_simp, by go_simp, by go_simp, by go_simp, by go_simp⟩
            first | exact hO6.kept ((Below.refl _ _).alloc (Nat.le_refl _) _) | exact (hO5.set2 (by first | omega | (simp; done) | (simp; omega)) _ _).mono (by first | omega | (simp; omega))
      case rest =>
        obtain ⟨g, a4, n4, cap4, rfl, hg0, hg1, hgc, hgci, hO4, hT4, p0, p1, p2, p3, p3i⟩ := hcut
        clear hb1 hb2 hc_w1 hf_w1 hc_w2 hf_w2 HT_w1 HT_w2 hy0_w1 hy1_w1 hy0_w2 hy1_w2
        generalize wc = wa at *
        have hwc := hT4.size
        go_wp2_with fail
        refine (toCut_any L x a _ _ _ HL.out (hI.kept hT4) hl2).mono ?_
        rintro e w5 ⟨a5, cap5, rfl, hX0, hb5⟩
        have hs5 := hb5.size
        go_wp2_with fail
        have hbW := hb5.alloc hs5 (.cells #[.slice a5 len cap5, .int .i64 x] 42)
        have hX := hX0.kept ((Below.refl w5.heap.size w5).alloc (Nat.le_refl _) (.cells #[.slice a5 len cap5, .int .i64 x] 42))
        have hxc : (w5.alloc (.cells #[.slice a5 len cap5, .int .i64 x] 42)).cell? ⟨w5.heap.size, 0, none⟩ = some (.slice a5 len cap5) := by go_simp
        have hxci : (w5.alloc (.cells #[.slice a5 len cap5, .int .i64 x] 42)).cell? ⟨w5.heap.size, 1, none⟩ = some (.int .i64 x) := by go_simp
        have hxs : (w5.alloc (.cells #[.slice a5 len cap5, .int .i64 x] 42)).heap.size = w5.heap.size + 1 := by simp
        have hxn : ∀ q, (Value.slice a5 len cap5).ownBlock = some q → q < w5.heap.size := hX0.turn_lt
        clear hX0 hb5
        generalize w5.alloc (.cells #[.slice a5 len cap5, .int .i64 x] 42) = W5 at *
        generalize w5.heap.size = gx at *
        have HXS := Lib.hid hxs
        have hxs2 : gx < W5.heap.size := by omega
        clear hxs
        have q0 := (hbW.cell (p := ⟨w.heap.size, 0, none⟩) (by show w.heap.size < _; omega)).trans p0
        have q1 := (hbW.cell (p := ⟨w.heap.size, 1, none⟩) (by show w.heap.size < _; omega)).trans p1
        have q2 := (hbW.cell (p := ⟨w.heap.size, 2, none⟩) (by show w.heap.size < _; omega)).trans p2
        have q3 := (hbW.cell (p := ⟨w.heap.size + 1, 0, none⟩) (by show w.heap.size + 1 < _; omega)).trans p3
        have q3i := (hbW.cell (p := ⟨w.heap.size + 1, 1, none⟩) (by show w.heap.size + 1 < _; omega)).trans p3i
        have qg := (hbW.cell (p := ⟨g, 0, none⟩) hg1).trans hgc
        have qgi := (hbW.cell (p := ⟨g, 1, none⟩) hg1).trans hgci
        have hTW := hT4.trans (hbW.mono hwc)
        have hO4W := hO4.kept hbW
        clear p0 p1 p2 p3 p3i hgc hgci
        have HBA := hbW
        have hz0 : w.heap.size < W5.heap.size := by omega
        have hz1 : w.heap.size + 1 < W5.heap.size := by omega
        go_cut [10] from 15 (fun yv wr => ∃ g2 a7 n7 cap7, yv = .pointer (some ⟨g2, 0, none⟩) ∧ W5.heap.size ≤ g2 ∧ g2 < wr.heap.size ∧ wr.cell? ⟨g2, 0, none⟩ = some (.slice a7 n7 cap7) ∧ wr.cell? ⟨g2, 1, none⟩ = some (.int .i64 (cutStepI s k f b L x)) ∧ OwnN wr W5.heap.size a7 n7 cap7 (cutStepL s k f b L x) ∧ (Value.slice a7 n7 cap7).ownBlock ≠ some g2 ∧ Below W5.heap.size W5 wr)
        case first =>
          go_region_law ((go_simp; first
            | (go_at_call 46; refine (laws_toPattern _ _ _ _).mono ?_; rintro e w7 ⟨rfl, hb7d⟩; (first | (have hb7 : Below W5.heap.size W5 w7 := below_undrew hb7d) | (have hb7 := hb7d)); obtain ⟨hc_w7, hf_w7⟩ := bcell hb7; have HT7 : Below W5.heap.size W5 w7 := (by first | exact hb7 | exact below_step (by repeat (first | exact Below.refl _ _ | assumption | (refine Below.drew ?_) | (refine below_drewN ?_ _) | (refine Below.alloc ?_ (by first | omega | (simp; done) | (simp; omega)) _) | (refine Below.setCell ?_ (by first | omega | (simp; done) | (simp; omega)) _))) hb7); have hs7 := HT7.size; have hv0 : gx < w7.heap.size := (by omega); (try (have hv_W5_w7 : W5.heap.size < w7.heap.size := (by have h1 := hb7.size; (try simp at h1); omega))))
            | (go_at_call 25; refine (impl_cutStep s k f L x a5 len cap5 b _ hs2 HL.out (hX.ints.kept (by repeat (first | exact Below.refl _ _ | assumption | (refine Below.drew ?_) | (refine below_drewN ?_ _) | (refine Below.alloc ?_ (by first | omega | (simp; done) | (simp; omega)) _) | (refine Below.setCell ?_ (by first | omega | (simp; done) | (simp; omega)) _)))) hl2 HX.out).mono ?_; rintro e w8 ⟨a8, n8, cap8, rfl, hO8, hb8⟩; obtain ⟨hc_w8, hf_w8⟩ := bcell hb8; have HT8 : Below W5.heap.size W5 w8 := below_step (by repeat (first | exact Below.refl _ _ | assumption | (refine Below.drew ?_) | (refine below_drewN ?_ _) | (refine Below.alloc ?_ (by first | omega | (simp; done) | (simp; omega)) _) | (refine Below.setCell ?_ (by first | omega | (simp; done) | (simp; omega)) _))) hb8; have hO9 := hO8.mono (C := W5.heap.size) (by first | omega | (simp; omega)); (try (have hv_W5_w8 : W5.heap.size < w8.heap.size := (by have h1 := hb8.size; (try simp at h1); omega))); (try (have hv_w7_w8 : w7.heap.size < w8.heap.size := (by have h1 := hb8.size; (try simp at h1); omega))))))
          all_goals
            go_wp2_with fail
            go_meet
            case rel =>
              refine ⟨_, a8, n8, cap8, rfl, ?_, ?_, by go_simp, by go_simp, ?_, ?_, ?_⟩
              · first | omega | exact HT8.size | exact HT7.size | (simp; done) | (simp; omega)
              · first | (simp; done) | (simp; omega) | (simp [World.setCell]; omega)
              · first | exact hO9.kept ((Below.refl _ _).alloc (Nat.le_refl _) _) | exact (hO8.set2 (by first | omega | (simp; done) | (simp; omega)) _ _).mono (by first | omega | (simp; omega))
              · intro e; first | (have h1 := hO8.turn_lt _ e; omega) | (have h1 := (hO8.2.lt _ e).1; first | omega | (simp at h1; omega))
              · first | exact HT8.alloc HT8.size _ | exact below_set2 HT8 (by first | omega | exact Nat.le_refl _ | (simp; omega)) _ _
        case rest =>
          obtain ⟨g2, a7, n7, cap7, rfl, hg2, hg3, hgc2, hgc2i, hR, hne2, hB7⟩ := hcut
          have r0 := (hB7.cell (p := ⟨w.heap.size, 0, none⟩) hz0).trans q0
          have r1 := (hB7.cell (p := ⟨w.heap.size, 1, none⟩) hz0).trans q1
          have r2 := (hB7.cell (p := ⟨w.heap.size, 2, none⟩) hz0).trans q2
          have r3 := (hB7.cell (p := ⟨w.heap.size + 1, 0, none⟩) hz1).trans q3
          have r3i := (hB7.cell (p := ⟨w.heap.size + 1, 1, none⟩) hz1).trans q3i
          have rg := (hB7.cell (p := ⟨g, 0, none⟩) (by show g < _; omega)).trans qg
          have rgi := (hB7.cell (p := ⟨g, 1, none⟩) (by show g < _; omega)).trans qgi
          have rx := (hB7.cell (p := ⟨gx, 0, none⟩) hxs2).trans hxc
          have rxi := (hB7.cell (p := ⟨gx, 1, none⟩) hxs2).trans hxci
          have hXr := hX.kept hB7
          have hO4r := hO4W.kept hB7
          have hTr := hTW.trans (hB7.mono hTW.size)
          replace HBA := HBA.trans (hB7.mono HBA.size)
          have hn7 : n7 = n4 := hR.len.symm.trans hO4r.len
          subst hn7
          have hn1 : n7 ≤ 1048577 := by have := hR.len; omega
          have hs8 := hB7.size
          clear q0 q1 q2 q3 q3i qg qgi hxc hxci hX hO4W hTW hB7 hbW
          generalize wc = W8 at *
          have ht0 : w.heap.size < W8.heap.size := by omega
          have ht1 : w.heap.size + 1 < W8.heap.size := by omega
          have htg : g < W8.heap.size := by omega
          have htx : gx < W8.heap.size := by omega
          go_wp2_with fail
          refine (eqCut_eq _ _ _ _ _ _ _ _ hR.len hR.ints hO4r.ints hn1).mono ?_
          rintro e w9 ⟨rfl, hb9⟩
          obtain ⟨hc_w9, hf_w9⟩ := bcell hb9
          have hs9 := hb9.size
          have hv9 : w.heap.size < w9.heap.size := by omega
          have hv9b : w.heap.size + 1 < w9.heap.size := by omega
          have hv9c : gx < w9.heap.size := by omega
          have hT9 := hTr.trans (hb9.mono hTr.size)
          go_wp2_with fail
          go_cut [46] from 15 (fun yv wr => yv = .bool false ∧ Below W8.heap.size W8 wr)
          case first =>
            go_region_law ((go_simp; first | (go_at_call 62; refine (toCut_any L x a _ _ _ HL.out (hI.kept hT9.drew) hl2).mono ?_; rintro e w10 ⟨a10, cap10, rfl, hO10, hb10d⟩; have hb10 := below_undrew hb10d; obtain ⟨hc_w10, hf_w10⟩ := bcell hb10; have hX10 := (hXr.kept hb9).kept hb10; have hT10 := hb9.trans (hb10.mono hb9.size)) | (go_at_call 63; refine (eqCut_eq L x _ _ _ _ _ _ HL.out hX10.ints hO10.ints hl2).mono ?_; rintro e w11 ⟨rfl, hb11⟩; have hT11 := hT10.trans (hb11.mono hT10.size))))
            all_goals
              go_wp2_with fail
              go_meet
              case rel => exact ⟨rfl, hT11⟩
          case rest =>
            obtain ⟨rfl, hB9⟩ := hcut
            have s0 := (hB9.cell (p := ⟨w.heap.size, 0, none⟩) ht0).trans r0
            have s1 := (hB9.cell (p := ⟨w.heap.size, 1, none⟩) ht0).trans r1
            have s2 := (hB9.cell (p := ⟨w.heap.size, 2, none⟩) ht0).trans r2
            have s3 := (hB9.cell (p := ⟨w.heap.size + 1, 0, none⟩) ht1).trans r3
            have s3i := (hB9.cell (p := ⟨w.heap.size + 1, 1, none⟩) ht1).trans r3i
            have sg := (hB9.cell (p := ⟨g, 0, none⟩) htg).trans rg
            have sgi := (hB9.cell (p := ⟨g, 1, none⟩) htg).trans rgi
            have sx := (hB9.cell (p := ⟨gx, 0, none⟩) htx).trans rx
            have sxi := (hB9.cell (p := ⟨gx, 1, none⟩) htx).trans rxi
            have s7 := (hB9.cell (p := ⟨g2, 0, none⟩) hg3).trans hgc2
            have s7i := (hB9.cell (p := ⟨g2, 1, none⟩) hg3).trans hgc2i
            have hX9 := hXr.kept hB9
            have hR9 := hR.kept hB9
            replace HBA := HBA.trans (hB9.mono HBA.size)
            have hsz9 := hB9.size
            clear r0 r1 r2 r3 r3i rg rgi rx rxi hgc2 hgc2i hXr hR hO4r hTr hB9 hb9 hc_w9 hf_w9 hT9 hs9 hv9 hv9b hv9c
            generalize wc = W9 at *
            go_wp2_with fail
            refine (markCut_any _ _ _ _ _ _ _ _ hX9 (by omega) hl2 (by omega) (by omega)).mono ?_
            rintro e w10 ⟨M1, rfl, hX10, _, hg10⟩
            have hxlo : ∀ q, (Value.slice a5 len cap5).ownBlock = some q → wa.heap.size ≤ q := fun q hq => (hX9.2.lt q hq).1
            have hne : ∀ q, (q < wa.heap.size ∨ gx ≤ q) → some q ≠ (Value.slice a5 len cap5).ownBlock := fun q hq e => by
              have h1 := hxlo q e.symm; have h2 := hxn q e.symm; omega
            have v0 := hg10.cell s0 (hne _ (by left; show w.heap.size < _; omega))
            have v1 := hg10.cell s1 (hne _ (by left; show w.heap.size < _; omega))
            have v2 := hg10.cell s2 (hne _ (by left; show w.heap.size < _; omega))
            have v3 := hg10.cell s3 (hne _ (by left; show w.heap.size + 1 < _; omega))
            have v3i := hg10.cell s3i (hne _ (by left; show w.heap.size + 1 < _; omega))
            have vg := hg10.cell sg (hne _ (by left; exact hg1))
            have vgi := hg10.cell sgi (hne _ (by left; exact hg1))
            have v7 := hg10.cell s7 (hne _ (by right; show gx ≤ g2; omega))
            have v7i := hg10.cell s7i (hne _ (by right; show gx ≤ g2; omega))
            replace HBA := HBA.trans (hX9.turn HBA.size hg10)
            have hR10 := hR9.kept_hi hg10 (fun q hq => by have := hxn q hq; omega)
            have hsz10 := hg10.size
            clear s0 s1 s2 s3 s3i sg sgi sx sxi s7 s7i hX9 hX10 hR9 hg10 hne hxlo
            have hk1 : ¬ ((1 : Int) + len < 0) := by omega
            go_wp2_with fail
            refine (eqCut_eq _ _ _ _ _ _ _ _ hR10.len hR10.ints (hO4.kept HBA).ints hn1).mono ?_
            rintro e w12 ⟨rfl, hb12⟩
            have u0 := (hb12.cell (p := ⟨w.heap.size, 0, none⟩) (by show w.heap.size < _; omega)).trans v0
            have u1 := (hb12.cell (p := ⟨w.heap.size, 1, none⟩) (by show w.heap.size < _; omega)).trans v1
            have u2 := (hb12.cell (p := ⟨w.heap.size, 2, none⟩) (by show w.heap.size < _; omega)).trans v2
            have u3 := (hb12.cell (p := ⟨w.heap.size + 1, 0, none⟩) (by show w.heap.size + 1 < _; omega)).trans v3
            have u3i := (hb12.cell (p := ⟨w.heap.size + 1, 1, none⟩) (by show w.heap.size + 1 < _; omega)).trans v3i
            have ug := (hb12.cell (p := ⟨g, 0, none⟩) (by show g < _; omega)).trans vg
            have ugi := (hb12.cell (p := ⟨g, 1, none⟩) (by show g < _; omega)).trans vgi
            have u7 := (hb12.cell (p := ⟨g2, 0, none⟩) (by show g2 < _; omega)).trans v7
            have u7i := (hb12.cell (p := ⟨g2, 1, none⟩) (by show g2 < _; omega)).trans v7i
            have hR12 := hR10.kept hb12
            replace HBA := HBA.trans (hb12.mono HBA.size)
            have hsz12 := hb12.size
            clear v0 v1 v2 v3 v3i vg vgi v7 v7i hR10 hb12
            go_wp2_with fail
            refine (markCut_any _ _ _ _ _ _ _ _ hR12 (by omega) hn1 (by omega) (by omega)).mono ?_
            rintro e w13 ⟨M, rfl, hR13, hU, hg13⟩
            have hrlo : ∀ q, (Value.slice a7 n7 cap7).ownBlock = some q → W5.heap.size ≤ q := fun q hq => (hR12.2.lt q hq).1
            have hneR : ∀ q, q < W5.heap.size → some q ≠ (Value.slice a7 n7 cap7).ownBlock := fun q hq e => by
              have h1 := hrlo q e.symm; omega
            have v0 := hg13.cell u0 (hneR _ hz0)
            have v1 := hg13.cell u1 (hneR _ hz0)
            have v2 := hg13.cell u2 (hneR _ hz0)
            have v3 := hg13.cell u3 (hneR _ hz1)
            have v3i := hg13.cell u3i (hneR _ hz1)
            have vg := hg13.cell ug (hneR _ (by show g < _; omega))
            have vgi := hg13.cell ugi (hneR _ (by show g < _; omega))
            have v7 := hg13.cell u7 (fun e => hne2 e.symm)
            have v7i := hg13.cell u7i (fun e => hne2 e.symm)
            replace HBA := HBA.trans ((hR12.mono (C := wa.heap.size) (by omega)).turn HBA.size hg13)
            have hsz13 := hg13.size
            clear u0 u1 u2 u3 u3i ug ugi u7 u7i hR12 hg13 hneR hrlo
            go_wp2_with fail
            refine (heldCut_any _ _ _ _ _ _ _ hR13.len hR13.ints hU hn1 (by omega) (by omega)).mono ?_
            rintro e w14 ⟨rfl, hb14⟩
            have u0 := (hb14.cell (p := ⟨w.heap.size, 0, none⟩) (by show w.heap.size < _; omega)).trans v0
            have u1 := (hb14.cell (p := ⟨w.heap.size, 1, none⟩) (by show w.heap.size < _; omega)).trans v1
            have u2 := (hb14.cell (p := ⟨w.heap.size, 2, none⟩) (by show w.heap.size < _; omega)).trans v2
            have u3 := (hb14.cell (p := ⟨w.heap.size + 1, 0, none⟩) (by show w.heap.size + 1 < _; omega)).trans v3
            have u3i := (hb14.cell (p := ⟨w.heap.size + 1, 1, none⟩) (by show w.heap.size + 1 < _; omega)).trans v3i
            have ug := (hb14.cell (p := ⟨g, 0, none⟩) (by show g < _; omega)).trans vg
            have ugi := (hb14.cell (p := ⟨g, 1, none⟩) (by show g < _; omega)).trans vgi
            have u7 := (hb14.cell (p := ⟨g2, 0, none⟩) (by show g2 < _; omega)).trans v7
            have u7i := (hb14.cell (p := ⟨g2, 1, none⟩) (by show g2 < _; omega)).trans v7i
            have hR14 := hR13.kept hb14
            replace HBA := HBA.trans (hb14.mono HBA.size)
            have hsz14 := hb14.size
            clear v0 v1 v2 v3 v3i vg vgi v7 v7i hR13 hb14
            have hk2 : ((1 : Int) + n7 != 1 + n7) = false := by simp
            go_wp2_with fail
            have hTF := hT4.trans (HBA.mono hT4.size)
            have y0 : w.heap.size < w14.heap.size := by omega
            have y1 : w.heap.size + 1 < w14.heap.size := by omega
            go_cut [14] from 15 (fun yv wr => ∃ g3 a8 n8 cap8, yv = .pointer (some ⟨g3, 0, none⟩) ∧ g3 < wr.heap.size ∧ wr.cell? ⟨g3, 0, none⟩ = some (.slice a8 n8 cap8) ∧ wr.cell? ⟨g3, 1, none⟩ = some (.int .i64 (cutStepI s k f b L x)) ∧ OwnN wr w14.heap.size a8 n8 cap8 (cutStepL s k f b L x) ∧ Below w14.heap.size w14 wr)
            case first =>
              clear hR14 HBA hU hO4 hT4 hg0 hg1 hg2 hg3 hne2 ug ugi u7 u7i hk1 hk2 hxs2 hxn HXS hz0 hz1 hn1 hwc hsz9 hsz10 hsz12 hsz13 hsz14 hs8 hs5 ht0 ht1 htg htx
              go_region_law ((go_simp; first
                | (go_at_call 46; refine (laws_toPattern _ _ _ _).mono ?_; rintro e w20 ⟨rfl, hb20d⟩; (first | (have hb20 : Below w14.heap.size w14 w20 := below_undrew hb20d) | (have hb20 := hb20d)); obtain ⟨hc_w20, hf_w20⟩ := bcell hb20; have HT20 : Below w14.heap.size w14 w20 := (by first | exact hb20 | exact below_step (by repeat (first | exact Below.refl _ _ | assumption | (refine Below.drew ?_) | (refine below_drewN ?_ _) | (refine Below.alloc ?_ (by first | omega | (simp; done) | (simp; omega)) _) | (refine Below.setCell ?_ (by first | omega | (simp; done) | (simp; omega)) _))) hb20); have hs20 := HT20.size; have y2 : w.heap.size + 1 < w20.heap.size := (by omega); have HF20 := hTF.trans (HT20.mono hTF.size); (try (have hv_w14_w20 : w14.heap.size < w20.heap.size := (by have h1 := hb20.size; (try simp at h1); omega))))
                | (go_at_call 62; refine (toCut_any L x a _ _ _ HL.out (hI.kept (by repeat (first | exact Below.refl _ _ | assumption | (refine Below.drew ?_) | (refine below_drewN ?_ _) | (refine Below.alloc ?_ (by first | omega | (simp; done) | (simp; omega)) _) | (refine Below.setCell ?_ (by first | omega | (simp; done) | (simp; omega)) _)))) hl2).mono ?_; rintro e w21 ⟨a21, cap21, rfl, hO21, hb21⟩; obtain ⟨hc_w21, hf_w21⟩ := bcell hb21; have HT21 : Below w14.heap.size w14 w21 := below_step (by repeat (first | exact Below.refl _ _ | assumption | (refine Below.drew ?_) | (refine below_drewN ?_ _) | (refine Below.alloc ?_ (by first | omega | (simp; done) | (simp; omega)) _) | (refine Below.setCell ?_ (by first | omega | (simp; done) | (simp; omega)) _))) hb21; have hs21 := HT21.size; (try (have hv_w14_w21 : w14.heap.size < w21.heap.size := (by have h1 := hb21.size; (try simp at h1); omega))); (try (have hv_w20_w21 : w20.heap.size < w21.heap.size := (by have h1 := hb21.size; (try simp at h1); omega))))
                | (go_at_call 25; refine (impl_cutStep s k f L x a21 len cap21 b _ hs2 HL.out (hO21.ints.kept (by repeat (first | exact Below.refl _ _ | assumption | (refine Below.drew ?_) | (refine below_drewN ?_ _) | (refine Below.alloc ?_ (by first | omega | (simp; done) | (simp; omega)) _) | (refine Below.setCell ?_ (by first | omega | (simp; done) | (simp; omega)) _)))) hl2 HX.out).mono ?_; rintro e w22 ⟨a22, n22, cap22, rfl, hO22, hb22⟩; obtain ⟨hc_w22, hf_w22⟩ := bcell hb22; have HT22 : Below w14.heap.size w14 w22 := below_step (by repeat (first | exact Below.refl _ _ | assumption | (refine Below.drew ?_) | (refine below_drewN ?_ _) | (refine Below.alloc ?_ (by first | omega | (simp; done) | (simp; omega)) _) | (refine Below.setCell ?_ (by first | omega | (simp; done) | (simp; omega)) _))) hb22; have hO23 := hO22.mono (C := w14.heap.size) (by first | omega | (simp; omega)); (try (have hv_w14_w22 : w14.heap.size < w22.heap.size := (by have h1 := hb22.size; (try simp at h1); omega))); (try (have hv_w20_w22 : w20.heap.size < w22.heap.size := (by have h1 := hb22.size; (try simp at h1); omega))); (try (have hv_w21_w22 : w21.heap.size < w22.heap.size := (by have h1 := hb22.size; (try simp at h1); omega))))))
              all_goals
                go_wp2_with fail
                go_meet
                case rel =>
                  refine ⟨_, a22, n22, cap22, rfl, ?_, by go_simp, by go_simp, ?_, ?_⟩
                  · first | (simp; done) | (simp; omega) | (simp [World.setCell]; omega)
                  · first | exact hO23.kept ((Below.refl _ _).alloc (Nat.le_refl _) _) | exact (hO22.set2 (by first | omega | (simp; done) | (simp; omega)) _ _).mono (by first | omega | (simp; omega))
                  · first | exact HT22.alloc HT22.size _ | exact below_set2 HT22 (by first | omega | exact Nat.le_refl _ | (simp; omega)) _ _
            case rest =>
              obtain ⟨g3, a8, n8, cap8, rfl, hg30, hgc3, hgc3i, hS, hB14⟩ := hcut
              have tg := (hB14.cell (p := ⟨g, 0, none⟩) (by show g < _; omega)).trans ug
              have tgi := (hB14.cell (p := ⟨g, 1, none⟩) (by show g < _; omega)).trans ugi
              have t7 := (hB14.cell (p := ⟨g2, 0, none⟩) (by show g2 < _; omega)).trans u7
              have t7i := (hB14.cell (p := ⟨g2, 1, none⟩) (by show g2 < _; omega)).trans u7i
              have hR15 := hR14.kept hB14
              replace HBA := HBA.trans (hB14.mono HBA.size)
              have hTG := hT4.trans (HBA.mono hT4.size)
              have hsz15 := hB14.size
              have hn8 : n8 = n7 := hS.len.symm.trans hO4.len
              subst hn8
              clear u0 u1 u2 u3 u3i ug ugi u7 u7i hR14 hB14
              generalize wc = W15 at *
              go_wp2_with fail
              refine (eqCut_eq _ _ _ _ _ _ _ _ hS.len hS.ints (hO4.kept HBA).ints hn1).mono ?_
              rintro e w16 ⟨rfl, hb16⟩
              have t8 := (hb16.cell (p := ⟨g2, 0, none⟩) (by show g2 < _; omega)).trans t7
              have t8i := (hb16.cell (p := ⟨g2, 1, none⟩) (by show g2 < _; omega)).trans t7i
              have hR16 := hR15.kept hb16
              have hTH := hTG.trans (hb16.mono hTG.size)
              clear t7 t7i tg tgi hR15
              go_wp2_with fail
              refine (heldCut_any _ _ _ _ _ _ _ hR16.len hR16.ints hU hn1 (by omega) (by omega)).mono ?_
              rintro e w17 ⟨rfl, hb17⟩
              go_wp2_with fail
              go_ret
              exact ⟨rfl, hTH.trans (hb17.mono hTH.size)⟩
    · clear hwf hln
      go_enter Try.func11, Try.ntmps11
      have H2 := Lib.hid (szI_no hbl)
      go_wp2_with fail
      refine (laws_szPattern _ _ _ _ _ (by omega) (by omega) (by omega)).mono ?_
      rintro e w1 ⟨rfl, hb1⟩
      rw [H.out]
      obtain ⟨hc_w1, hf_w1⟩ := bcell hb1; have HT_w1 : Below w.heap.size w w1 := below_step (by repeat (first | exact Below.refl _ _ | assumption | (refine Below.drew ?_) | (refine below_drewN ?_ _) | (refine Below.alloc ?_ (by first | omega | (simp; done) | (simp; omega)) _) | (refine Below.setCell ?_ (by first | omega | (simp; done) | (simp; omega)) _))) hb1; have hy0_w1 : w.heap.size < w1.heap.size := (by have h1 := hb1.size; (try simp at h1); omega); have hy1_w1 : w.heap.size + 1 < w1.heap.size := (by have h1 := hb1.size; (try simp at h1); omega)
      go_wp2_with fail
      refine (szCut_any _ _ _ _ _ _ (by omega) (by omega) (by omega)).mono ?_
      rintro e w2 ⟨rfl, hb2⟩
      rw [H2.out]
      obtain ⟨hc_w2, hf_w2⟩ := bcell hb2; have HT_w2 : Below w.heap.size w w2 := below_step (by repeat (first | exact Below.refl _ _ | assumption | (refine Below.drew ?_) | (refine below_drewN ?_ _) | (refine Below.alloc ?_ (by first | omega | (simp; done) | (simp; omega)) _) | (refine Below.setCell ?_ (by first | omega | (simp; done) | (simp; omega)) _))) hb2; have hy0_w2 : w.heap.size < w2.heap.size := (by have h1 := hb2.size; (try simp at h1); omega)
      go_wp2_with fail
      go_ret
      exact ⟨rfl, HT_w2⟩
  · clear hwf hln
    go_enter Try.func11, Try.ntmps11
    have H := Lib.hid (szI_no hbig)
    go_wp2_with fail
    refine (laws_szPattern _ _ _ _ _ (by omega) (by omega) (by omega)).mono ?_
    rintro e w1 ⟨rfl, hb1⟩
    rw [H.out]
    obtain ⟨hc_w1, hf_w1⟩ := bcell hb1; have HT_w1 : Below w.heap.size w w1 := below_step (by repeat (first | exact Below.refl _ _ | assumption | (refine Below.drew ?_) | (refine below_drewN ?_ _) | (refine Below.alloc ?_ (by first | omega | (simp; done) | (simp; omega)) _) | (refine Below.setCell ?_ (by first | omega | (simp; done) | (simp; omega)) _))) hb1; have hy0_w1 : w.heap.size < w1.heap.size := (by have h1 := hb1.size; (try simp at h1); omega)
    go_wp2_with fail
    go_ret
    exact ⟨rfl, HT_w1⟩
end Go.Proofs.Ytflbjjpkloeocab

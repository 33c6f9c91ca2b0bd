/-
  FnExactCutOk: the walk.
-/
import Derived.Test.YtbigcgamddimeafL6OkS
import Derived.Deep.RegionLaw
namespace Go.Proofs.Ytbigcgamddimeaf
open Go.RowKit
set_option linter.unusedVariables false
theorem impl_cutOk (s : ByteArray) (k : Int) (f : Bool) (L : List Int) (x : Int) (a : Option Addr) (n cap : Nat) (w : World) (hs : s.size ≤ 1048576) (hn : L.length = n) (h : Ints w a L) (hlen : n ≤ 1048577) (hx : -9223372036854775808 ≤ x ∧ x ≤ 9223372036854775807) :
    Calls Try.prog 19 #[.agg #[.string s, .int .i64 k, .bool f], .agg #[.slice a n cap, .int .i64 x]] w fun e w' => e = .returned (.bool (cutOkB s k L x)) ∧ Below w.heap.size w w' := by
  have HN := Lib.hid hn; clear hn
  go_enter Try.func19, Try.ntmps19
  go_wp2_with fail
  refine (impl_cutRight s k f L x a n cap _ hs HN.out (h.kept (by repeat (first | exact Below.refl _ _ | assumption | (refine Below.drew ?_) | (refine below_drewN ?_ _) | (refine Below.alloc ?_ (by first | omega | (simp; done) | (simp; omega)) _) | (refine Below.setCell ?_ (by first | omega | (simp; done) | (simp; omega)) _)))) hlen hx).mono ?_
  rintro e w1 ⟨rfl, hb1⟩
  go_wp2_with fail
  go_ret
  exact ⟨rfl, below_step (by repeat (first | exact Below.refl _ _ | assumption | (refine Below.drew ?_) | (refine below_drewN ?_ _) | (refine Below.alloc ?_ (by first | omega | (simp; done) | (simp; omega)) _) | (refine Below.setCell ?_ (by first | omega | (simp; done) | (simp; omega)) _))) hb1⟩
set_option maxHeartbeats 4000000 in
theorem law_FnExactCutOk (s : ByteArray) (hs : s.size ≤ maxLen) (k : Int) (_wk : (Lit.int .i64 k).wf = true) (f : Bool) (a : Option Addr) (len cap : Nat) (z : List Int) (x : Int) (wx : (Lit.int .i64 x).wf = true) (w : World) (hr : IsRow .i64 w a len cap z) :
    Calls Try.prog 5 #[.agg #[.string s, .int .i64 k, .bool f], .agg #[.slice a len cap, .int .i64 x]] w fun e w' => e = .returned (.bool true) ∧ Below w.heap.size w w' := by
  obtain ⟨hI, hln, hlm, hwf⟩ := ints_of_row hr
  clear hr
  have hxx : -9223372036854775808 ≤ x ∧ x ≤ 9223372036854775807 := by simpa [Lit.wf, IntKind.min, IntKind.max, IntKind.signed, IntKind.bits] using wx
  have HX := Lib.hid hxx; clear hxx wx
  generalize z.take len = L at *
  unfold maxLen at hs hlm
  by_cases hbig : (s.size : Int) ≤ 1048576
  · have H := Lib.hid (szI_yes hbig)
    have hs2 : s.size ≤ 1048576 := by omega
    by_cases hbl : (len : Int) ≤ 1048576 - s.size
    · have H2 := Lib.hid (szI_yes hbl)
      have hl2 : len ≤ 1048577 := by omega
      have HW := Lib.hid hwf; clear hwf
      have HL := Lib.hid hln; clear hln
      have e1 : (cutOkB s k L x != cutOkB s k L x) = false := by simp
      go_enter Try.func5, Try.ntmps5
      go_wp2_with fail
      refine (laws_szPattern _ _ _ _ _ (by omega) (by omega) (by omega)).mono ?_
      rintro e w1 ⟨rfl, hb1⟩
      rw [H.out]
      obtain ⟨hc_w1, hf_w1⟩ := bcell hb1; have HT_w1 : Below w.heap.size w w1 := below_step (by repeat (first | exact Below.refl _ _ | assumption | (refine Below.drew ?_) | (refine below_drewN ?_ _) | (refine Below.alloc ?_ (by first | omega | (simp; done) | (simp; omega)) _) | (refine Below.setCell ?_ (by first | omega | (simp; done) | (simp; omega)) _))) hb1; have hy0_w1 : w.heap.size < w1.heap.size := (by have h1 := hb1.size; (try simp at h1); omega); have hy1_w1 : w.heap.size + 1 < w1.heap.size := (by have h1 := hb1.size; (try simp at h1); omega)
      go_wp2_with fail
      refine (szCut_any _ _ _ _ _ _ (by omega) (by omega) (by omega)).mono ?_
      rintro e w2 ⟨rfl, hb2⟩
      rw [H2.out]
      obtain ⟨hc_w2, hf_w2⟩ := bcell hb2; have HT_w2 : Below w.heap.size w w2 := below_step (by repeat (first | exact Below.refl _ _ | assumption | (refine Below.drew ?_) | (refine below_drewN ?_ _) | (refine Below.alloc ?_ (by first | omega | (simp; done) | (simp; omega)) _) | (refine Below.setCell ?_ (by first | omega | (simp; done) | (simp; omega)) _))) hb2; have hy0_w2 : w.heap.size < w2.heap.size := (by have h1 := hb2.size; (try simp at h1); omega); have hy1_w2 : w.heap.size + 1 < w2.heap.size := (by have h1 := hb2.size; (try simp at h1); omega)
      go_wp2_with fail
      go_region_law ((go_simp; first | (go_at_call 9; refine (laws_toPattern _ _ _ _).mono ?_; rintro e w3 ⟨rfl, hb3d⟩; have hb3 := below_undrew hb3d; obtain ⟨hc_w3, hf_w3⟩ := bcell hb3; have HT_w3 : Below w.heap.size w w3 := below_step (by repeat (first | exact Below.refl _ _ | assumption | (refine Below.drew ?_) | (refine below_drewN ?_ _) | (refine Below.alloc ?_ (by first | omega | (simp; done) | (simp; omega)) _) | (refine Below.setCell ?_ (by first | omega | (simp; done) | (simp; omega)) _))) hb3; have hy0_w3 : w.heap.size < w3.heap.size := (by have h1 := hb3.size; (try simp at h1); omega); have hy1_w3 : w.heap.size + 1 < w3.heap.size := (by have h1 := hb3.size; (try simp at h1); omega)) | (go_at_call 16; refine (toCut_any L x a _ _ _ HL.out (hI.kept HT_w3) hl2).mono ?_; rintro e w4 ⟨a4, cap4, rfl, hO4, hb4⟩; obtain ⟨hc_w4, hf_w4⟩ := bcell hb4; have HT_w4 : Below w.heap.size w w4 := below_step (by repeat (first | exact Below.refl _ _ | assumption | (refine Below.drew ?_) | (refine below_drewN ?_ _) | (refine Below.alloc ?_ (by first | omega | (simp; done) | (simp; omega)) _) | (refine Below.setCell ?_ (by first | omega | (simp; done) | (simp; omega)) _))) hb4; have hy0_w4 : w.heap.size < w4.heap.size := (by have h1 := hb4.size; (try simp at h1); omega); have hy1_w4 : w.heap.size + 1 < w4.heap.size := (by have h1 := hb4.size; (try simp at h1); omega)) | (go_at_call 18; refine (spec_cutOk s k f L x a4 len cap4 _ hs2 HL.out hO4.ints hl2 HX.out).mono ?_; rintro e w5 ⟨rfl, hb5⟩; obtain ⟨hc_w5, hf_w5⟩ := bcell hb5; have HT_w5 : Below w.heap.size w w5 := below_step (by repeat (first | exact Below.refl _ _ | assumption | (refine Below.drew ?_) | (refine below_drewN ?_ _) | (refine Below.alloc ?_ (by first | omega | (simp; done) | (simp; omega)) _) | (refine Below.setCell ?_ (by first | omega | (simp; done) | (simp; omega)) _))) hb5; have hy0_w5 : w.heap.size < w5.heap.size := (by have h1 := hb5.size; (try simp at h1); omega); have hy1_w5 : w.heap.size + 1 < w5.heap.size := (by have h1 := hb5.size; (try simp at h1); omega))))
      all_goals
        go_wp2_with fail
        refine (toCut_any L x a _ _ _ HL.out (hI.kept HT_w5) hl2).mono ?_
        rintro e w6 ⟨a6, cap6, rfl, hX, hb6⟩
        obtain ⟨hc_w6, hf_w6⟩ := bcell hb6; have HT_w6 : Below w.heap.size w w6 := below_step (by repeat (first | exact Below.refl _ _ | assumption | (refine Below.drew ?_) | (refine below_drewN ?_ _) | (refine Below.alloc ?_ (by first | omega | (simp; done) | (simp; omega)) _) | (refine Below.setCell ?_ (by first | omega | (simp; done) | (simp; omega)) _))) hb6; have hy0_w6 : w.heap.size < w6.heap.size := (by have h1 := hb6.size; (try simp at h1); omega); have hy1_w6 : w.heap.size + 1 < w6.heap.size := (by have h1 := hb6.size; (try simp at h1); omega)
        have hX6 := hX.kept ((Below.refl w6.heap.size w6).alloc (Nat.le_refl _) (.cells #[.slice a6 len cap6, .int .i64 x] 27))
        go_wp2_with fail
        go_region_law ((go_simp; first | (go_at_call 9; refine (laws_toPattern _ _ _ _).mono ?_; rintro e w7 ⟨rfl, hb7d⟩; have hb7 := below_undrew hb7d; have hX7 := hX6.kept hb7; obtain ⟨hc_w7, hf_w7⟩ := bcell hb7; have HT_w7 : Below w.heap.size w w7 := below_step (by repeat (first | exact Below.refl _ _ | assumption | (refine Below.drew ?_) | (refine below_drewN ?_ _) | (refine Below.alloc ?_ (by first | omega | (simp; done) | (simp; omega)) _) | (refine Below.setCell ?_ (by first | omega | (simp; done) | (simp; omega)) _))) hb7; have hy0_w7 : w.heap.size < w7.heap.size := (by have h1 := hb7.size; (try simp at h1); omega); have hy1_w7 : w.heap.size + 1 < w7.heap.size := (by have h1 := hb7.size; (try simp at h1); omega); have hy2_w7 : w6.heap.size < w7.heap.size := (by have h1 := hb7.size; (try simp at h1); omega)) | (go_at_call 19; refine (impl_cutOk s k f L x a6 len cap6 _ hs2 HL.out hX7.ints hl2 HX.out).mono ?_; rintro e w8 ⟨rfl, hb8⟩; have hX8 := hX7.kept hb8; obtain ⟨hc_w8, hf_w8⟩ := bcell hb8; have HT_w8 : Below w.heap.size w w8 := below_step (by repeat (first | exact Below.refl _ _ | assumption | (refine Below.drew ?_) | (refine below_drewN ?_ _) | (refine Below.alloc ?_ (by first | omega | (simp; done) | (simp; omega)) _) | (refine Below.setCell ?_ (by first | omega | (simp; done) | (simp; omega)) _))) hb8; have hy0_w8 : w.heap.size < w8.heap.size := (by have h1 := hb8.size; (try simp at h1); omega); have hy1_w8 : w.heap.size + 1 < w8.heap.size := (by have h1 := hb8.size; (try simp at h1); omega); have hy2_w8 : w6.heap.size < w8.heap.size := (by have h1 := hb8.size; (try simp at h1); omega))))
        all_goals
          go_wp2_with fail
          go_region_law ((go_simp; first | (go_at_call 16; refine (toCut_any L x a _ _ _ HL.out (hI.kept HT_w8.drew) hl2).mono ?_; rintro e w9 ⟨a9, cap9, rfl, hO9, hb9d⟩; have hb9 := below_undrew hb9d; have hX9 := hX8.kept hb9; obtain ⟨hc_w9, hf_w9⟩ := bcell hb9; have HT_w9 : Below w.heap.size w w9 := below_step (by repeat (first | exact Below.refl _ _ | assumption | (refine Below.drew ?_) | (refine below_drewN ?_ _) | (refine Below.alloc ?_ (by first | omega | (simp; done) | (simp; omega)) _) | (refine Below.setCell ?_ (by first | omega | (simp; done) | (simp; omega)) _))) hb9; have hy0_w9 : w.heap.size < w9.heap.size := (by have h1 := hb9.size; (try simp at h1); omega); have hy1_w9 : w.heap.size + 1 < w9.heap.size := (by have h1 := hb9.size; (try simp at h1); omega); have hy2_w9 : w6.heap.size < w9.heap.size := (by have h1 := hb9.size; (try simp at h1); omega)) | (go_at_call 11; refine (eqCut_eq L x _ _ _ _ _ _ HL.out hX9.ints hO9.ints hl2).mono ?_; rintro e w10 ⟨rfl, hb10⟩; have HT_w10 := below_step HT_w9 hb10)))
          all_goals
            go_wp2_with fail
            go_ret
            exact ⟨rfl, HT_w10⟩
    · clear hwf hln
      go_enter Try.func5, Try.ntmps5
      have H2 := Lib.hid (szI_no hbl)
      go_wp2_with fail
      refine (laws_szPattern _ _ _ _ _ (by omega) (by omega) (by omega)).mono ?_
      rintro e w1 ⟨rfl, hb1⟩
      rw [H.out]
      obtain ⟨hc_w1, hf_w1⟩ := bcell hb1; have HT_w1 : Below w.heap.size w w1 := below_step (by repeat (first | exact Below.refl _ _ | assumption | (refine Below.drew ?_) | (refine below_drewN ?_ _) | (refine Below.alloc ?_ (by first | omega | (simp; done) | (simp; omega)) _) | (refine Below.setCell ?_ (by first | omega | (simp; done) | (simp; omega)) _))) hb1; have hy0_w1 : w.heap.size < w1.heap.size := (by have h1 := hb1.size; (try simp at h1); omega); have hy1_w1 : w.heap.size + 1 < w1.heap.size := (by have h1 := hb1.size; (try simp at h1); omega)
      go_wp2_with fail
      refine (szCut_any _ _ _ _ _ _ (by omega) (by omega) (by omega)).mono ?_
      rintro e w2 ⟨rfl, hb2⟩
      rw [H2.out]
      obtain ⟨hc_w2, hf_w2⟩ := bcell hb2; have HT_w2 : Below w.heap.size w w2 := below_step (by repeat (first | exact Below.refl _ _ | assumption | (refine Below.drew ?_) | (refine below_drewN ?_ _) | (refine Below.alloc ?_ (by first | omega | (simp; done) | (simp; omega)) _) | (refine Below.setCell ?_ (by first | omega | (simp; done) | (simp; omega)) _))) hb2; have hy0_w2 : w.heap.size < w2.heap.size := (by have h1 := hb2.size; (try simp at h1); omega)
      go_wp2_with fail
      go_ret
      exact ⟨rfl, HT_w2⟩
  · clear hwf hln
    go_enter Try.func5, Try.ntmps5
    have H := Lib.hid (szI_no hbig)
    go_wp2_with fail
    refine (laws_szPattern _ _ _ _ _ (by omega) (by omega) (by omega)).mono ?_
    rintro e w1 ⟨rfl, hb1⟩
    rw [H.out]
    obtain ⟨hc_w1, hf_w1⟩ := bcell hb1; have HT_w1 : Below w.heap.size w w1 := below_step (by repeat (first | exact Below.refl _ _ | assumption | (refine Below.drew ?_) | (refine below_drewN ?_ _) | (refine Below.alloc ?_ (by first | omega | (simp; done) | (simp; omega)) _) | (refine Below.setCell ?_ (by first | omega | (simp; done) | (simp; omega)) _))) hb1; have hy0_w1 : w.heap.size < w1.heap.size := (by have h1 := hb1.size; (try simp at h1); omega)
    go_wp2_with fail
    go_ret
    exact ⟨rfl, HT_w1⟩
end Go.Proofs.Ytbigcgamddimeaf

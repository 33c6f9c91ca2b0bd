/-
  FnExactMyersOk: the walk.
-/
import Derived.Test.YtbigcgamddimeaeL4OkS
namespace Go.Proofs.Ytbigcgamddimeae
open Go.RowKit
set_option linter.unusedVariables false
theorem impl_myersOk (s : ByteArray) (k : Int) (f : Bool) (u d t : Int) (w : World) (hs : s.size ≤ 1048576) (hu : I64 u) (hd : I64 d) :
    Calls Try.prog 13 #[.agg #[.string s, .int .i64 k, .bool f], .agg #[.int .i64 u, .int .i64 d, .int .i64 t]] w fun e w' => e = .returned (.bool (myOkB s k u d t)) ∧ Below w.heap.size w w' := by
  go_enter Try.func13, Try.ntmps13
  go_wp2_with fail
  refine (impl_myersRight s k f u d t _ hs hu hd).mono ?_
  rintro e w1 ⟨rfl, hb1⟩
  go_wp2_with fail
  go_ret
  exact ⟨rfl, below_step (by repeat (first | exact Below.refl _ _ | assumption | (refine Below.drew ?_) | (refine below_drewN ?_ _) | (refine Below.alloc ?_ (by first | omega | (simp; done) | (simp; omega)) _) | (refine Below.setCell ?_ (by first | omega | (simp; done) | (simp; omega)) _))) hb1⟩
theorem toMyers_any (u d t : Int) (w : World) :
    Calls Try.prog 12 #[.agg #[.int .i64 u, .int .i64 d, .int .i64 t]] w fun e w' => e = .returned (.agg #[.int .i64 u, .int .i64 d, .int .i64 t]) ∧ Below w.heap.size w w' := by
  go_enter Try.func12, Try.ntmps12
  go_wp2
  exact bodyPost_ret (v := .agg #[.int .i64 u, .int .i64 d, .int .i64 t]) (by simp [results, Try.results12, go_sem]) rfl ⟨rfl, (by repeat (first | exact Below.refl _ _ | assumption | (refine Below.drew ?_) | (refine below_drewN ?_ _) | (refine Below.alloc ?_ (by first | omega | (simp; done) | (simp; omega)) _) | (refine Below.setCell ?_ (by first | omega | (simp; done) | (simp; omega)) _)))⟩
theorem i64_of_wf {x : Int} (h : (Lit.int .i64 x).wf = true) : I64 x := by
  have : -9223372036854775808 ≤ x ∧ x ≤ 9223372036854775807 := by simpa [Lit.wf, IntKind.min, IntKind.max, IntKind.signed, IntKind.bits] using h
  exact this
set_option maxHeartbeats 2000000 in
theorem law_FnExactMyersOk (s : ByteArray) (hs : s.size ≤ maxLen) (k : Int) (_wk : (Lit.int .i64 k).wf = true) (f : Bool) (u : Int) (wu : (Lit.int .i64 u).wf = true) (d : Int) (wd : (Lit.int .i64 d).wf = true) (t : Int) (wt : (Lit.int .i64 t).wf = true) (w : World) :
    Calls Try.prog 3 #[.agg #[.string s, .int .i64 k, .bool f], .agg #[.int .i64 u, .int .i64 d, .int .i64 t]] w fun e w' => e = .returned (.bool true) ∧ Below w.heap.size w w' := by
  have hu := Lib.hid (i64_of_wf wu)
  have hd := Lib.hid (i64_of_wf wd)
  clear wu wd wt
  unfold maxLen at hs
  by_cases hbig : (s.size : Int) ≤ 1048576
  · have H := Lib.hid (szI_yes hbig)
    have hs2 : s.size ≤ 1048576 := by omega
    have e1 : (myOkB s k u d t != myOkB s k u d t) = false := by simp
    go_enter Try.func3, Try.ntmps3
    go_wp2_with fail
    refine (laws_szPattern _ _ _ _ _ (by omega) (by omega) (by omega)).mono ?_
    rintro e w1 ⟨rfl, hb1⟩
    rw [H.out]
    obtain ⟨hc_w1, hf_w1⟩ := bcell hb1; have HT_w1 : Below w.heap.size w w1 := below_step (by repeat (first | exact Below.refl _ _ | assumption | (refine Below.drew ?_) | (refine below_drewN ?_ _) | (refine Below.alloc ?_ (by first | omega | (simp; done) | (simp; omega)) _) | (refine Below.setCell ?_ (by first | omega | (simp; done) | (simp; omega)) _))) hb1; have hy0_w1 : w.heap.size < w1.heap.size := (by have h1 := hb1.size; (try simp at h1); omega); have hy1_w1 : w.heap.size + 1 < w1.heap.size := (by have h1 := hb1.size; (try simp at h1); omega)
    have c0 : w1.cell? ⟨w.heap.size, 0, none⟩ = some (.string s) := by go_simp
    have c1 : w1.cell? ⟨w.heap.size, 1, none⟩ = some (.int .i64 k) := by go_simp
    have c2 : w1.cell? ⟨w.heap.size, 2, none⟩ = some (.bool f) := by go_simp
    have d0 : w1.cell? ⟨w.heap.size + 1, 0, none⟩ = some (.int .i64 u) := by go_simp
    have d1 : w1.cell? ⟨w.heap.size + 1, 1, none⟩ = some (.int .i64 d) := by go_simp
    have d2 : w1.cell? ⟨w.heap.size + 1, 2, none⟩ = some (.int .i64 t) := by go_simp
    clear hc_w1 hf_w1
    have x0 := cell_regrown c0; have x1 := cell_regrown c1; have x2 := cell_regrown c2
    have y0 := cell_regrown d0; have y1 := cell_regrown d1; have y2 := cell_regrown d2
    go_wp2_with fail
    refine wp_region_quiet_below (by kernel_rfl) (by kernel_rfl) ?_
    repeat (go_big_quiet_step (first | (go_at_call 11; exact Calls.regrown_of (laws_toPattern _ _ _ _)) | (go_at_call 12; exact Calls.regrown_of (toMyers_any _ _ _ _)) | (go_at_call 10; exact Calls.regrown_of (spec_myersOk _ _ _ _ _ _ _ hs2 hu.out hd.out))))
    refine wpQuiet_nil ?_
    intro _ hw'
    obtain ⟨⟨dq, osq⟩, hw''⟩ := hw'
    subst hw''
    have HT2 := HT_w1.trans ((below_regrown w1 dq osq).mono HT_w1.size)
    replace c0 := x0 dq osq; replace c1 := x1 dq osq; replace c2 := x2 dq osq; replace d0 := y0 dq osq; replace d1 := y1 dq osq; replace d2 := y2 dq osq
    clear x0 x1 x2 y0 y1 y2
    generalize Sort.grow (redrawn w1 dq) osq = w2 at *
    have x0 := cell_regrown c0; have x1 := cell_regrown c1; have x2 := cell_regrown c2
    have y0 := cell_regrown d0; have y1 := cell_regrown d1; have y2 := cell_regrown d2
    go_wp2_with fail
    refine wp_region_quiet_below (by kernel_rfl) (by kernel_rfl) ?_
    repeat (go_big_quiet_step (first | (go_at_call 11; exact Calls.regrown_of (laws_toPattern _ _ _ _)) | (go_at_call 12; exact Calls.regrown_of (toMyers_any _ _ _ _)) | (go_at_call 13; exact Calls.regrown_of (impl_myersOk _ _ _ _ _ _ _ hs2 hu.out hd.out))))
    refine wpQuiet_nil ?_
    intro _ hw'
    obtain ⟨⟨dq, osq⟩, hw''⟩ := hw'
    subst hw''
    go_wp2_with fail
    go_ret
    exact ⟨rfl, HT2.trans ((below_regrown w2 dq osq).mono HT2.size)⟩
  · go_enter Try.func3, Try.ntmps3
    have H := Lib.hid (szI_no hbig)
    go_wp2_with fail
    refine (laws_szPattern _ _ _ _ _ (by omega) (by omega) (by omega)).mono ?_
    rintro e w1 ⟨rfl, hb1⟩
    rw [H.out]
    obtain ⟨hc_w1, hf_w1⟩ := bcell hb1; have HT_w1 : Below w.heap.size w w1 := below_step (by repeat (first | exact Below.refl _ _ | assumption | (refine Below.drew ?_) | (refine below_drewN ?_ _) | (refine Below.alloc ?_ (by first | omega | (simp; done) | (simp; omega)) _) | (refine Below.setCell ?_ (by first | omega | (simp; done) | (simp; omega)) _))) hb1; have hy0_w1 : w.heap.size < w1.heap.size := (by have h1 := hb1.size; (try simp at h1); omega)
    go_wp2_with fail
    go_ret
    exact ⟨rfl, HT_w1⟩
end Go.Proofs.Ytbigcgamddimeae

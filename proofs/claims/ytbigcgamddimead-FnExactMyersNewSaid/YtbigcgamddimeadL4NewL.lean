/-
  FnExactMyersNew: the walk.
-/
import Derived.Test.YtbigcgamddimeadL4New
namespace Go.Proofs.Ytbigcgamddimead
open Go.RowKit
set_option linter.unusedVariables false
theorem eqMyers_eq (u d t : Int) (w : World) :
    Calls Try.prog 28 #[.agg #[.int .i64 u, .int .i64 d, .int .i64 t], .agg #[.int .i64 u, .int .i64 d, .int .i64 t]] w fun e w' => e = .returned (.bool true) ∧ Below w.heap.size w w' := by
  have e0 : (u != u) = false := by simp
  have e1 : (d != d) = false := by simp
  have e2 : (t != t) = false := by simp
  go_enter Try.func28, Try.ntmps28
  go_wp2
  go_ret
  exact ⟨rfl, (by repeat (first | exact Below.refl _ _ | assumption | (refine Below.drew ?_) | (refine below_drewN ?_ _) | (refine Below.alloc ?_ (by first | omega | (simp; done) | (simp; omega)) _) | (refine Below.setCell ?_ (by first | omega | (simp; done) | (simp; omega)) _)))⟩
set_option maxHeartbeats 1000000 in
theorem law_FnExactMyersNew (s : ByteArray) (hs : s.size ≤ maxLen) (k : Int) (_wk : (Lit.int .i64 k).wf = true) (f : Bool) (w : World) :
    Calls Try.prog 7 #[.agg #[.string s, .int .i64 k, .bool f]] w fun e w' => e = .returned (.bool true) ∧ Below w.heap.size w w' := by
  unfold maxLen at hs
  by_cases hbig : (s.size : Int) ≤ 1048576
  · have H := Lib.hid (szI_yes hbig)
    have hs2 : s.size ≤ 1048576 := by omega
    obtain ⟨u, d, t, hv⟩ : ∃ u d t : Int, myersNewV s k = .agg #[.int .i64 u, .int .i64 d, .int .i64 t] := by
      unfold myersNewV myV; split
      · exact ⟨_, _, _, rfl⟩
      · exact ⟨_, _, _, rfl⟩
    have HV := Lib.hid hv; clear hv
    go_enter Try.func7, Try.ntmps7
    go_wp2_with fail
    refine (laws_szPattern _ _ _ _ _ (by omega) (by omega) (by omega)).mono ?_
    rintro e w1 ⟨rfl, hb1⟩
    rw [H.out]
    obtain ⟨hc_w1, hf_w1⟩ := bcell hb1; have HT_w1 : Below w.heap.size w w1 := below_step (by repeat (first | exact Below.refl _ _ | assumption | (refine Below.drew ?_) | (refine below_drewN ?_ _) | (refine Below.alloc ?_ (by first | omega | (simp; done) | (simp; omega)) _) | (refine Below.setCell ?_ (by first | omega | (simp; done) | (simp; omega)) _))) hb1; have hz_w_w1 : w.heap.size < w1.heap.size := (by have h1 := hb1.size; (try simp at h1); omega)
    go_wp2_with fail
    refine (laws_toPattern _ _ _ _).mono ?_
    rintro e w2 ⟨rfl, hb2⟩
    obtain ⟨hc_w2, hf_w2⟩ := bcell hb2; have HT_w2 : Below w.heap.size w w2 := below_step (by repeat (first | exact Below.refl _ _ | assumption | (refine Below.drew ?_) | (refine below_drewN ?_ _) | (refine Below.alloc ?_ (by first | omega | (simp; done) | (simp; omega)) _) | (refine Below.setCell ?_ (by first | omega | (simp; done) | (simp; omega)) _))) hb2; have hz_w_w2 : w.heap.size < w2.heap.size := (by have h1 := hb2.size; (try simp at h1); omega)
    go_wp2_with fail
    refine (spec_myersNew _ _ _ _ hs2).mono ?_
    rintro e w3 ⟨rfl, hb3⟩
    rw [HV.out]
    obtain ⟨hc_w3, hf_w3⟩ := bcell hb3; have HT_w3 : Below w.heap.size w w3 := below_step (by repeat (first | exact Below.refl _ _ | assumption | (refine Below.drew ?_) | (refine below_drewN ?_ _) | (refine Below.alloc ?_ (by first | omega | (simp; done) | (simp; omega)) _) | (refine Below.setCell ?_ (by first | omega | (simp; done) | (simp; omega)) _))) hb3; have hz_w_w3 : w.heap.size < w3.heap.size := (by have h1 := hb3.size; (try simp at h1); omega)
    go_wp2_with fail
    refine (laws_toPattern _ _ _ _).mono ?_
    rintro e w4 ⟨rfl, hb4⟩
    obtain ⟨hc_w4, hf_w4⟩ := bcell hb4; have HT_w4 : Below w.heap.size w w4 := below_step (by repeat (first | exact Below.refl _ _ | assumption | (refine Below.drew ?_) | (refine below_drewN ?_ _) | (refine Below.alloc ?_ (by first | omega | (simp; done) | (simp; omega)) _) | (refine Below.setCell ?_ (by first | omega | (simp; done) | (simp; omega)) _))) hb4; have hz_w_w4 : w.heap.size < w4.heap.size := (by have h1 := hb4.size; (try simp at h1); omega); have hz_w3_w4 : w3.heap.size < w4.heap.size := (by have h1 := hb4.size; (try simp at h1); omega)
    go_wp2_with fail
    refine (impl_myersNew _ _ _ _ hs2).mono ?_
    rintro e w5 ⟨rfl, hb5⟩
    rw [HV.out]
    obtain ⟨hc_w5, hf_w5⟩ := bcell hb5; have HT_w5 : Below w.heap.size w w5 := below_step (by repeat (first | exact Below.refl _ _ | assumption | (refine Below.drew ?_) | (refine below_drewN ?_ _) | (refine Below.alloc ?_ (by first | omega | (simp; done) | (simp; omega)) _) | (refine Below.setCell ?_ (by first | omega | (simp; done) | (simp; omega)) _))) hb5; have hz_w_w5 : w.heap.size < w5.heap.size := (by have h1 := hb5.size; (try simp at h1); omega); have hz_w3_w5 : w3.heap.size < w5.heap.size := (by have h1 := hb5.size; (try simp at h1); omega)
    go_wp2_with fail
    refine (eqMyers_eq _ _ _ _).mono ?_
    rintro e w6 ⟨rfl, hb6⟩
    obtain ⟨hc_w6, hf_w6⟩ := bcell hb6; have HT_w6 : Below w.heap.size w w6 := below_step (by repeat (first | exact Below.refl _ _ | assumption | (refine Below.drew ?_) | (refine below_drewN ?_ _) | (refine Below.alloc ?_ (by first | omega | (simp; done) | (simp; omega)) _) | (refine Below.setCell ?_ (by first | omega | (simp; done) | (simp; omega)) _))) hb6; have hz_w_w6 : w.heap.size < w6.heap.size := (by have h1 := hb6.size; (try simp at h1); omega)
    go_wp2_with fail
    go_ret
    exact ⟨rfl, HT_w6⟩
  · go_enter Try.func7, Try.ntmps7
    have H := Lib.hid (szI_no hbig)
    go_wp2_with (first
      | (go_at_call 9; refine (laws_szPattern _ _ _ _ _ (by omega) (by omega) (by omega)).mono ?_; rintro e w1 ⟨rfl, hb1⟩; obtain ⟨hc1, hf1⟩ := bcell hb1; have hz1 : w.heap.size < w1.heap.size := (by have := hb1.size; (try simp at this); omega); have HB1 : Below w.heap.size w w1 := below_step (by repeat (first | exact Below.refl _ _ | assumption | (refine Below.drew ?_) | (refine below_drewN ?_ _) | (refine Below.alloc ?_ (by first | omega | (simp; done) | (simp; omega)) _) | (refine Below.setCell ?_ (by first | omega | (simp; done) | (simp; omega)) _))) hb1; rw [H.out]))
    go_ret
    exact ⟨rfl, HB1⟩
end Go.Proofs.Ytbigcgamddimead

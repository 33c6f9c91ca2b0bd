/-
  Chapter 5: RowsStep's model.
-/
import Derived.Test.YtglldmfhjipacaaL5StepS
namespace Go.Proofs.Ytglldmfhjipacaa
open Go.RowKit
set_option linter.unusedVariables false
set_option maxRecDepth 100000
set_option maxHeartbeats 2000000 in
theorem spec_rowsStep (s : ByteArray) (k : Int) (f : Bool) (L : List Int) (a : Option Addr) (n cap : Nat) (b : Int) (w : World) (hs : s.size ≤ 1048576) (hn : L.length = n) (h : Ints w a L) (hlen : n ≤ 1048577) (hwf : ∀ i, i < n → I64 (intAt L i)) :
    Calls Try.prog 48 #[.agg #[.string s, .int .i64 k, .bool f], .agg #[.slice a n cap], .int .i64 b] w fun e w' => ∃ a' n' cap', e = .returned (.agg #[.slice a' n' cap']) ∧ OwnN w' w.heap.size a' n' cap' (rowsStepL s k f b L) ∧ Below w.heap.size w w' := by
  have HN := Lib.hid hn
  cases hok : rowsOkB s k L
  · have HR := Lib.hid (show rowsStepL s k f b L = [] by unfold rowsStepL; rw [hok]; rfl)
    have HO := Lib.hid hok; clear hok hn
    go_enter Try.func48, Try.ntmps48
    go_wp2_with fail
    refine (spec_rowsOk s k f L a n cap _ hs HN.out (h.kept (by repeat (first | exact Below.refl _ _ | assumption | (refine Below.drew ?_) | (refine below_drewN ?_ _) | (refine Below.alloc ?_ (by first | omega | (simp; done) | (simp; omega)) _) | (refine Below.setCell ?_ (by first | omega | (simp; done) | (simp; omega)) _)))) hlen hwf).mono ?_
    rintro e w1 ⟨rfl, hb1⟩
    rw [HO.out]
    obtain ⟨hc_w1, hf_w1⟩ := bcell hb1; have HT_w1 : Below w.heap.size w w1 := below_step (by repeat (first | exact Below.refl _ _ | assumption | (refine Below.drew ?_) | (refine below_drewN ?_ _) | (refine Below.alloc ?_ (by first | omega | (simp; done) | (simp; omega)) _) | (refine Below.setCell ?_ (by first | omega | (simp; done) | (simp; omega)) _))) hb1; have hy0_w1 : w.heap.size < w1.heap.size := (by have h1 := hb1.size; (try simp at h1); omega); have hy1_w1 : w.heap.size + 1 < w1.heap.size := (by have h1 := hb1.size; (try simp at h1); omega); have hy2_w1 : w.heap.size + 2 < w1.heap.size := (by have h1 := hb1.size; (try simp at h1); omega)
    go_wp2_with fail
    exact bodyPost_ret (v := .agg #[.slice none 0 0]) (by simp [results, Try.results48, go_sem, hc_w1]) rfl ⟨_, _, _, rfl, by rw [HR.out]; exact OwnN.nil _ _, (by repeat (first | exact Below.refl _ _ | assumption | (refine Below.drew ?_) | (refine below_drewN ?_ _) | (refine Below.alloc ?_ (by first | omega | (simp; done) | (simp; omega)) _) | (refine Below.setCell ?_ (by first | omega | (simp; done) | (simp; omega)) _)))⟩
  · cases hib : inB b 0 255
    · have HR := Lib.hid (show rowsStepL s k f b L = [] by unfold rowsStepL; rw [hok, hib]; rfl)
      have HO := Lib.hid hok; have HI := Lib.hid hib; clear hok hib hn
      go_enter Try.func48, Try.ntmps48
      go_wp2_with fail
      refine (spec_rowsOk s k f L a n cap _ hs HN.out (h.kept (by repeat (first | exact Below.refl _ _ | assumption | (refine Below.drew ?_) | (refine below_drewN ?_ _) | (refine Below.alloc ?_ (by first | omega | (simp; done) | (simp; omega)) _) | (refine Below.setCell ?_ (by first | omega | (simp; done) | (simp; omega)) _)))) hlen hwf).mono ?_
      rintro e w1 ⟨rfl, hb1⟩
      rw [HO.out]
      obtain ⟨hc_w1, hf_w1⟩ := bcell hb1; have HT_w1 : Below w.heap.size w w1 := below_step (by repeat (first | exact Below.refl _ _ | assumption | (refine Below.drew ?_) | (refine below_drewN ?_ _) | (refine Below.alloc ?_ (by first | omega | (simp; done) | (simp; omega)) _) | (refine Below.setCell ?_ (by first | omega | (simp; done) | (simp; omega)) _))) hb1; have hy0_w1 : w.heap.size < w1.heap.size := (by have h1 := hb1.size; (try simp at h1); omega); have hy1_w1 : w.heap.size + 1 < w1.heap.size := (by have h1 := hb1.size; (try simp at h1); omega); have hy2_w1 : w.heap.size + 2 < w1.heap.size := (by have h1 := hb1.size; (try simp at h1); omega)
      go_wp2_with (go_at_call 83; refine (spec_l1In _ _ _ _).mono ?_; rintro e w' ⟨rfl, rfl⟩; rw [HI.out])
      exact bodyPost_ret (v := .agg #[.slice none 0 0]) (by simp [results, Try.results48, go_sem, hc_w1]) rfl ⟨_, _, _, rfl, by rw [HR.out]; exact OwnN.nil _ _, (by repeat (first | exact Below.refl _ _ | assumption | (refine Below.drew ?_) | (refine below_drewN ?_ _) | (refine Below.alloc ?_ (by first | omega | (simp; done) | (simp; omega)) _) | (refine Below.setCell ?_ (by first | omega | (simp; done) | (simp; omega)) _)))⟩
    · obtain ⟨hs1, hbd⟩ := rowsOk_bound hok hwf hn
      have hn5 : n ≤ 5 := by
        have hr := hok
        unfold rowsOkB at hr
        simp only [Bool.and_eq_true, decide_eq_true_eq] at hr
        have := (patOk_iff s k).1 hr.1.1
        omega
      have hb2 : 0 ≤ b ∧ b ≤ 255 := by simpa [inB] using hib
      obtain ⟨hb0, hb255⟩ := hb2
      have HR := Lib.hid (show rowsStepL s k f b L = tab (stepF (maskTo (maskG s f b) s.size) (2 ^ s.size - 1) (intAt L)) n by unfold rowsStepL maskI; rw [hok, hib, hn, if_pos (by simp), if_pos ⟨hs1, hb0, hb255⟩])
      have HO := Lib.hid hok; have HI := Lib.hid hib; clear hok hib hn
      have hmod : b % 256 = b := Int.emod_eq_of_lt hb0 (by omega)
      have HM := Lib.hid hmod; clear hmod
      go_enter Try.func48, Try.ntmps48
      go_wp2_with fail
      refine (spec_rowsOk s k f L a n cap _ hs HN.out (h.kept (by repeat (first | exact Below.refl _ _ | assumption | (refine Below.drew ?_) | (refine below_drewN ?_ _) | (refine Below.alloc ?_ (by first | omega | (simp; done) | (simp; omega)) _) | (refine Below.setCell ?_ (by first | omega | (simp; done) | (simp; omega)) _)))) hlen hwf).mono ?_
      rintro e w1 ⟨rfl, hb1⟩
      rw [HO.out]
      obtain ⟨hc_w1, hf_w1⟩ := bcell hb1; have HT_w1 : Below w.heap.size w w1 := below_step (by repeat (first | exact Below.refl _ _ | assumption | (refine Below.drew ?_) | (refine below_drewN ?_ _) | (refine Below.alloc ?_ (by first | omega | (simp; done) | (simp; omega)) _) | (refine Below.setCell ?_ (by first | omega | (simp; done) | (simp; omega)) _))) hb1; have hy0_w1 : w.heap.size < w1.heap.size := (by have h1 := hb1.size; (try simp at h1); omega); have hy1_w1 : w.heap.size + 1 < w1.heap.size := (by have h1 := hb1.size; (try simp at h1); omega); have hy2_w1 : w.heap.size + 2 < w1.heap.size := (by have h1 := hb1.size; (try simp at h1); omega)
      go_wp2_with (go_at_call 83; refine (spec_l1In _ _ _ _).mono ?_; rintro e w' ⟨rfl, rfl⟩; rw [HI.out])
      refine (spec_l5Step s k f L a n cap b _ hs1 hb0 hb255 HN.out (h.kept HT_w1) hn5 hbd).mono ?_
      rintro e w2 ⟨a2, cap2, rfl, hO2, hb2⟩
      obtain ⟨hc_w2, hf_w2⟩ := bcell hb2; have HT_w2 : Below w.heap.size w w2 := below_step (by repeat (first | exact Below.refl _ _ | assumption | (refine Below.drew ?_) | (refine below_drewN ?_ _) | (refine Below.alloc ?_ (by first | omega | (simp; done) | (simp; omega)) _) | (refine Below.setCell ?_ (by first | omega | (simp; done) | (simp; omega)) _))) hb2; have hy0_w2 : w.heap.size < w2.heap.size := (by have h1 := hb2.size; (try simp at h1); omega); have hy1_w2 : w.heap.size + 1 < w2.heap.size := (by have h1 := hb2.size; (try simp at h1); omega); have hy2_w2 : w.heap.size + 2 < w2.heap.size := (by have h1 := hb2.size; (try simp at h1); omega)
      go_wp2_with fail
      exact bodyPost_ret (v := .agg #[.slice a2 n cap2]) (by simp [results, Try.results48, go_sem, hc_w2, hc_w1, hy2_w1]) rfl ⟨_, _, _, rfl, by rw [HR.out]; exact (hO2.kept_hi (grownBy_setCell1 _ (w.heap.size + 1 + 1) 0 (.slice a2 n cap2)) (by intro q hq; cases hq; omega)).mono (by omega), (by repeat (first | exact Below.refl _ _ | assumption | (refine Below.drew ?_) | (refine below_drewN ?_ _) | (refine Below.alloc ?_ (by first | omega | (simp; done) | (simp; omega)) _) | (refine Below.setCell ?_ (by first | omega | (simp; done) | (simp; omega)) _)))⟩
end Go.Proofs.Ytglldmfhjipacaa

/-
  SessionOk, in the program; FnExactSessionOk's walk.
-/
import Derived.Test.YtodmohepgmhipaaSesQue
import Derived.Test.YtodmohepgmhipaaSesOk
import Derived.Test.YtodmohepgmhipaaSesSz
import Derived.Test.YtodmohepgmhipaaSesTo
import Derived.Test.YtodmohepgmhipaaSesEq
namespace Go.Proofs.Ytodmohepgmhipaa
open Go.RowKit
set_option linter.unusedVariables false
set_option maxRecDepth 100000
theorem sesB_alt (s : Ses) : sesB s = (dictOkL s.D && (roomB s.D.length s.r && (decide (0 ≤ s.b) && (decide (s.b ≤ s.a) && (decide (s.a ≤ 1000000) && ((decide (s.C.length = s.D.length) && colsB s.D s.C s.D.length) && (decide ((s.Q.length / 3 : Nat) ≤ s.r) && queB s (s.Q.length / 3)))))))) := by
  unfold sesB inB
  by_cases h1 : 0 ≤ s.b <;> by_cases h2 : s.b ≤ s.a <;> by_cases h3 : s.a ≤ 1000000
  · have h4 : s.b ≤ 1000000 := by omega
    simp only [h1, h2, h3, h4, decide_true, Bool.true_and]
    cases dictOkL s.D <;> cases roomB s.D.length s.r <;> cases decide (s.C.length = s.D.length) <;> cases colsB s.D s.C s.D.length <;> cases decide ((s.Q.length / 3 : Nat) ≤ s.r) <;> cases queB s (s.Q.length / 3) <;> rfl
  all_goals simp [h1, h2, h3]
set_option maxHeartbeats 4000000 in
theorem impl_sessionOk (s : Ses) (v : Value) (w : World) (h : SesV w v s) (hB : SesB 1048576 s) :
    Calls Try.prog 76 #[v] w fun e w' => e = .returned (.bool (sesB s)) ∧ Below w.heap.size w w' := by
  have h' := h
  obtain ⟨ad, ac, aq, cd, cc, cq, nq, rfl, hn, hD, hC, hQ⟩ := h
  obtain ⟨hd, ht, hc, hr, hq⟩ := hB
  have HU := Lib.hid (sesB_alt s)
  unfold sesV at h' ⊢
  have HV := Lib.hid h'
  have HT := Lib.hid ht
  have HRR := Lib.hid hr
  clear ht hr h' 
  cases h1 : dictOkL s.D
  · have HR := Lib.hid (show sesB s = false by rw [HU.out]; simp [h1])
    have H1 := Lib.hid h1; clear h1
    go_enter Try.func76, Try.ntmps76
    go_wp2_with (first | (go_at_call 64; refine (impl_dictOk s.D ad cd _ (hD.kept (by repeat (first | exact Below.refl _ _ | assumption | (refine Below.drew ?_) | (refine below_drewN ?_ _) | (refine Below.alloc ?_ (by first | omega | (simp; done) | (simp; omega)) _) | (refine Below.setCell ?_ (by first | omega | (simp; done) | (simp; omega)) _)))) (by omega) (fun i hi => by have := HT.out i hi; omega)).mono ?_; rintro e w1 ⟨rfl, hb1⟩; rw [H1.out]; obtain ⟨hc_w1, hf_w1⟩ := bcell hb1; have HT_w1 : Below w.heap.size w w1 := below_step (by repeat (first | exact Below.refl _ _ | assumption | (refine Below.drew ?_) | (refine below_drewN ?_ _) | (refine Below.alloc ?_ (by first | omega | (simp; done) | (simp; omega)) _) | (refine Below.setCell ?_ (by first | omega | (simp; done) | (simp; omega)) _))) hb1; have hy0_w1 : w.heap.size < w1.heap.size := (by have h1 := hb1.size; (try simp at h1); omega)))
    go_ret
    exact ⟨by rw [HR.out]; rfl, HT_w1⟩
  have H1 := Lib.hid h1
  cases h2 : roomB s.D.length s.r
  · have HR := Lib.hid (show sesB s = false by rw [HU.out]; simp [h1, h2])
    have H2 := Lib.hid h2; clear h2
    clear h1
    go_enter Try.func76, Try.ntmps76
    go_wp2_with (first | (go_at_call 64; refine (impl_dictOk s.D ad cd _ (hD.kept (by repeat (first | exact Below.refl _ _ | assumption | (refine Below.drew ?_) | (refine below_drewN ?_ _) | (refine Below.alloc ?_ (by first | omega | (simp; done) | (simp; omega)) _) | (refine Below.setCell ?_ (by first | omega | (simp; done) | (simp; omega)) _)))) (by omega) (fun i hi => by have := HT.out i hi; omega)).mono ?_; rintro e w1 ⟨rfl, hb1⟩; rw [H1.out]; obtain ⟨hc_w1, hf_w1⟩ := bcell hb1; have HT_w1 : Below w.heap.size w w1 := below_step (by repeat (first | exact Below.refl _ _ | assumption | (refine Below.drew ?_) | (refine below_drewN ?_ _) | (refine Below.alloc ?_ (by first | omega | (simp; done) | (simp; omega)) _) | (refine Below.setCell ?_ (by first | omega | (simp; done) | (simp; omega)) _))) hb1; have hy0_w1 : w.heap.size < w1.heap.size := (by have h1 := hb1.size; (try simp at h1); omega)) | (go_at_call 115; refine (impl_roomOk _ _ _ _ _ hd).mono ?_; rintro e w2 ⟨rfl, rfl⟩; rw [H2.out]))
    go_ret
    exact ⟨by rw [HR.out]; rfl, HT_w1⟩
  have H2 := Lib.hid h2
  by_cases h3 : 0 ≤ s.b
  rotate_left
  · have HR := Lib.hid (show sesB s = false by rw [HU.out]; simp [h1, h2, h3])
    clear h1
    clear h2
    go_enter Try.func76, Try.ntmps76
    go_wp2_with (first | (go_at_call 64; refine (impl_dictOk s.D ad cd _ (hD.kept (by repeat (first | exact Below.refl _ _ | assumption | (refine Below.drew ?_) | (refine below_drewN ?_ _) | (refine Below.alloc ?_ (by first | omega | (simp; done) | (simp; omega)) _) | (refine Below.setCell ?_ (by first | omega | (simp; done) | (simp; omega)) _)))) (by omega) (fun i hi => by have := HT.out i hi; omega)).mono ?_; rintro e w1 ⟨rfl, hb1⟩; rw [H1.out]; obtain ⟨hc_w1, hf_w1⟩ := bcell hb1; have HT_w1 : Below w.heap.size w w1 := below_step (by repeat (first | exact Below.refl _ _ | assumption | (refine Below.drew ?_) | (refine below_drewN ?_ _) | (refine Below.alloc ?_ (by first | omega | (simp; done) | (simp; omega)) _) | (refine Below.setCell ?_ (by first | omega | (simp; done) | (simp; omega)) _))) hb1; have hy0_w1 : w.heap.size < w1.heap.size := (by have h1 := hb1.size; (try simp at h1); omega)) | (go_at_call 115; refine (impl_roomOk _ _ _ _ _ hd).mono ?_; rintro e w2 ⟨rfl, rfl⟩; rw [H2.out]))
    go_ret
    exact ⟨by rw [HR.out]; rfl, HT_w1⟩
  by_cases h4 : s.b ≤ s.a
  rotate_left
  · have HR := Lib.hid (show sesB s = false by rw [HU.out]; simp [h1, h2, h3, h4])
    clear h1
    clear h2
    go_enter Try.func76, Try.ntmps76
    go_wp2_with (first | (go_at_call 64; refine (impl_dictOk s.D ad cd _ (hD.kept (by repeat (first | exact Below.refl _ _ | assumption | (refine Below.drew ?_) | (refine below_drewN ?_ _) | (refine Below.alloc ?_ (by first | omega | (simp; done) | (simp; omega)) _) | (refine Below.setCell ?_ (by first | omega | (simp; done) | (simp; omega)) _)))) (by omega) (fun i hi => by have := HT.out i hi; omega)).mono ?_; rintro e w1 ⟨rfl, hb1⟩; rw [H1.out]; obtain ⟨hc_w1, hf_w1⟩ := bcell hb1; have HT_w1 : Below w.heap.size w w1 := below_step (by repeat (first | exact Below.refl _ _ | assumption | (refine Below.drew ?_) | (refine below_drewN ?_ _) | (refine Below.alloc ?_ (by first | omega | (simp; done) | (simp; omega)) _) | (refine Below.setCell ?_ (by first | omega | (simp; done) | (simp; omega)) _))) hb1; have hy0_w1 : w.heap.size < w1.heap.size := (by have h1 := hb1.size; (try simp at h1); omega)) | (go_at_call 115; refine (impl_roomOk _ _ _ _ _ hd).mono ?_; rintro e w2 ⟨rfl, rfl⟩; rw [H2.out]))
    go_ret
    exact ⟨by rw [HR.out]; rfl, HT_w1⟩
  by_cases h5 : s.a ≤ 1000000
  rotate_left
  · have HR := Lib.hid (show sesB s = false by rw [HU.out]; simp [h1, h2, h3, h4, h5])
    clear h1
    clear h2
    go_enter Try.func76, Try.ntmps76
    go_wp2_with (first | (go_at_call 64; refine (impl_dictOk s.D ad cd _ (hD.kept (by repeat (first | exact Below.refl _ _ | assumption | (refine Below.drew ?_) | (refine below_drewN ?_ _) | (refine Below.alloc ?_ (by first | omega | (simp; done) | (simp; omega)) _) | (refine Below.setCell ?_ (by first | omega | (simp; done) | (simp; omega)) _)))) (by omega) (fun i hi => by have := HT.out i hi; omega)).mono ?_; rintro e w1 ⟨rfl, hb1⟩; rw [H1.out]; obtain ⟨hc_w1, hf_w1⟩ := bcell hb1; have HT_w1 : Below w.heap.size w w1 := below_step (by repeat (first | exact Below.refl _ _ | assumption | (refine Below.drew ?_) | (refine below_drewN ?_ _) | (refine Below.alloc ?_ (by first | omega | (simp; done) | (simp; omega)) _) | (refine Below.setCell ?_ (by first | omega | (simp; done) | (simp; omega)) _))) hb1; have hy0_w1 : w.heap.size < w1.heap.size := (by have h1 := hb1.size; (try simp at h1); omega)) | (go_at_call 115; refine (impl_roomOk _ _ _ _ _ hd).mono ?_; rintro e w2 ⟨rfl, rfl⟩; rw [H2.out]))
    go_ret
    exact ⟨by rw [HR.out]; rfl, HT_w1⟩
  cases h6 : (decide (s.C.length = s.D.length) && colsB s.D s.C s.D.length)
  · have HR := Lib.hid (show sesB s = false by rw [HU.out]; simp [h1, h2, h3, h4, h5, h6])
    have H6 := Lib.hid h6; clear h6
    clear h1
    clear h2
    go_enter Try.func76, Try.ntmps76
    go_wp2_with (first | (go_at_call 64; refine (impl_dictOk s.D ad cd _ (hD.kept (by repeat (first | exact Below.refl _ _ | assumption | (refine Below.drew ?_) | (refine below_drewN ?_ _) | (refine Below.alloc ?_ (by first | omega | (simp; done) | (simp; omega)) _) | (refine Below.setCell ?_ (by first | omega | (simp; done) | (simp; omega)) _)))) (by omega) (fun i hi => by have := HT.out i hi; omega)).mono ?_; rintro e w1 ⟨rfl, hb1⟩; rw [H1.out]; obtain ⟨hc_w1, hf_w1⟩ := bcell hb1; have HT_w1 : Below w.heap.size w w1 := below_step (by repeat (first | exact Below.refl _ _ | assumption | (refine Below.drew ?_) | (refine below_drewN ?_ _) | (refine Below.alloc ?_ (by first | omega | (simp; done) | (simp; omega)) _) | (refine Below.setCell ?_ (by first | omega | (simp; done) | (simp; omega)) _))) hb1; have hy0_w1 : w.heap.size < w1.heap.size := (by have h1 := hb1.size; (try simp at h1); omega)) | (go_at_call 115; refine (impl_roomOk _ _ _ _ _ hd).mono ?_; rintro e w2 ⟨rfl, rfl⟩; rw [H2.out]) | (go_at_call 116; refine (sl_equalFunc s.D s.C ad ac cd cc _ (hD.kept HT_w1) (hC.kept HT_w1) hd hc HT.out HRR.out).mono ?_; rintro e w3 ⟨rfl, hb3⟩; rw [H6.out]; obtain ⟨hc_w3, hf_w3⟩ := bcell hb3; have HT_w3 : Below w.heap.size w w3 := below_step (by repeat (first | exact Below.refl _ _ | assumption | (refine Below.drew ?_) | (refine below_drewN ?_ _) | (refine Below.alloc ?_ (by first | omega | (simp; done) | (simp; omega)) _) | (refine Below.setCell ?_ (by first | omega | (simp; done) | (simp; omega)) _))) hb3; have hy0_w3 : w.heap.size < w3.heap.size := (by have h1 := hb3.size; (try simp at h1); omega)))
    go_ret
    exact ⟨by rw [HR.out]; rfl, HT_w3⟩
  have H6 := Lib.hid h6
  have HR := Lib.hid (show sesB s = (decide ((s.Q.length / 3 : Nat) ≤ s.r) && queB s (s.Q.length / 3)) by rw [HU.out]; simp [h1, h2, h3, h4, h5, h6])
  clear h1 h2 h6
  obtain ⟨Q, hQe⟩ : ∃ Q, (decide ((s.Q.length / 3 : Nat) ≤ s.r) && queB s (s.Q.length / 3)) = Q := ⟨_, rfl⟩
  have HQE := Lib.hid hQe; clear hQe
  go_enter Try.func76, Try.ntmps76
  go_wp2_with (first | (go_at_call 64; refine (impl_dictOk s.D ad cd _ (hD.kept (by repeat (first | exact Below.refl _ _ | assumption | (refine Below.drew ?_) | (refine below_drewN ?_ _) | (refine Below.alloc ?_ (by first | omega | (simp; done) | (simp; omega)) _) | (refine Below.setCell ?_ (by first | omega | (simp; done) | (simp; omega)) _)))) (by omega) (fun i hi => by have := HT.out i hi; omega)).mono ?_; rintro e w1 ⟨rfl, hb1⟩; rw [H1.out]; obtain ⟨hc_w1, hf_w1⟩ := bcell hb1; have HT_w1 : Below w.heap.size w w1 := below_step (by repeat (first | exact Below.refl _ _ | assumption | (refine Below.drew ?_) | (refine below_drewN ?_ _) | (refine Below.alloc ?_ (by first | omega | (simp; done) | (simp; omega)) _) | (refine Below.setCell ?_ (by first | omega | (simp; done) | (simp; omega)) _))) hb1; have hy0_w1 : w.heap.size < w1.heap.size := (by have h1 := hb1.size; (try simp at h1); omega)) | (go_at_call 115; refine (impl_roomOk _ _ _ _ _ hd).mono ?_; rintro e w2 ⟨rfl, rfl⟩; rw [H2.out]) | (go_at_call 116; refine (sl_equalFunc s.D s.C ad ac cd cc _ (hD.kept HT_w1) (hC.kept HT_w1) hd hc HT.out HRR.out).mono ?_; rintro e w3 ⟨rfl, hb3⟩; rw [H6.out]; obtain ⟨hc_w3, hf_w3⟩ := bcell hb3; have HT_w3 : Below w.heap.size w w3 := below_step (by repeat (first | exact Below.refl _ _ | assumption | (refine Below.drew ?_) | (refine below_drewN ?_ _) | (refine Below.alloc ?_ (by first | omega | (simp; done) | (simp; omega)) _) | (refine Below.setCell ?_ (by first | omega | (simp; done) | (simp; omega)) _))) hb3; have hy0_w3 : w.heap.size < w3.heap.size := (by have h1 := hb3.size; (try simp at h1); omega)) | (go_at_call 118; refine (impl_queueOk s _ _ (HV.out.kept HT_w3) hd hq).mono ?_; rintro e w4 ⟨rfl, hb4⟩; rw [HQE.out]))
  go_ret
  exact ⟨by rw [HR.out, HQE.out]; rfl, below_step HT_w3 hb4⟩
end Go.Proofs.Ytodmohepgmhipaa

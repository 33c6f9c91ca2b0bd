/-
  SessionOk, in the program; FnExactSessionOk's walk.
-/
import Derived.Test.YtokmdnpapdnaeaaSesQue
import Derived.Test.YtokmdnpapdnaeaaSesOk
import Derived.Test.YtokmdnpapdnaeaaSesSz
import Derived.Test.YtokmdnpapdnaeaaSesTo
import Derived.Test.YtokmdnpapdnaeaaSesEq
namespace Go.Proofs.Ytokmdnpapdnaeaa
open Go.RowKit
set_option linter.unusedVariables false
set_option maxRecDepth 100000
theorem sesB_alt (s : Ses) : sesB s = (dictOkL s.D && (roomB s.D.length s.r && (decide (0 ≤ s.b) && (decide (s.b ≤ s.a) && (decide (s.a ≤ 1000000) && ((decide (s.C.length = s.D.length) && colsB s.D s.C s.D.length) && (decide ((s.Q.length / 3 : Nat) ≤ s.r) && queB s (s.Q.length / 3)))))))) := by
  unfold sesB inB
  by_cases h1 : 0 ≤ s.b <;> by_cases h2 : s.b ≤ s.a <;> by_cases h3 : s.a ≤ 1000000
  · have h4 : s.b ≤ 1000000 := by omega
    simp only [h1, h2, h3, h4, decide_true, Bool.true_and]
    cases dictOkL s.D <;> cases roomB s.D.length s.r <;> cases decide (s.C.length = s.D.length) <;> cases colsB s.D s.C s.D.length <;> cases decide ((s.Q.length / 3 : Nat) ≤ s.r) <;> cases queB s (s.Q.length / 3) <;> rfl
  all_goals simp [h1, h2, h3]
set_option maxHeartbeats 4000000 in
theorem impl_sessionOk (s : Ses) (v : Value) (w : World) (h : SesV w v s) (hB : SesB 1048576 s) :
    Calls Try.prog 49 #[v] w fun e w' => e = .returned (.bool (sesB s)) ∧ Below w.heap.size w w' := by
  have h' := h
  obtain ⟨ad, ac, aq, cd, cc, cq, nq, rfl, hn, hD, hC, hQ⟩ := h
  obtain ⟨hd, ht, hc, hr, hq⟩ := hB
  have HU := Lib.hid (sesB_alt s)
  unfold sesV at h' ⊢
  have HV := Lib.hid h'
  have HT := Lib.hid ht
  have HRR := Lib.hid hr
  clear ht hr h' 
  cases h1 : dictOkL s.D
  · have HR := Lib.hid (show sesB s = false by rw [HU.out]; simp [h1])
    have H1 := Lib.hid h1; clear h1
    go_enter Try.func49, Try.ntmps49
    go_wp2_with (first | (go_at_call 87; refine (impl_dictOk s.D ad cd _ (hD.kept (by repeat (first | exact Below.refl _ _ | assumption | (refine Below.drew ?_) | (refine below_drewN ?_ _) | (refine Below.alloc ?_ (by first | omega | (simp; done) | (simp; omega)) _) | (refine Below.setCell ?_ (by first | omega | (simp; done) | (simp; omega)) _)))) (by omega) (fun i hi => by have := HT.out i hi; omega)).mono ?_; rintro e w1 ⟨rfl, hb1⟩; rw [H1.out]; obtain ⟨hc_w1, hf_w1⟩ := bcell hb1; have HT_w1 : Below w.heap.size w w1 := below_step (by repeat (first | exact Below.refl _ _ | assumption | (refine Below.drew ?_) | (refine below_drewN ?_ _) | (refine Below.alloc ?_ (by first | omega | (simp; done) | (simp; omega)) _) | (refine Below.setCell ?_ (by first | omega | (simp; done) | (simp; omega)) _))) hb1; have hy0_w1 : w.heap.size < w1.heap.size := (by have h1 := hb1.size; (try simp at h1); omega)))
    go_ret
    exact ⟨by rw [HR.out]; rfl, HT_w1⟩
  have H1 := Lib.hid h1
  cases h2 : roomB s.D.length s.r
  · have HR := Lib.hid (show sesB s = false by rw [HU.out]; simp [h1, h2])
    have H2 := Lib.hid h2; clear h2
    clear h1
    go_enter Try.func49, Try.ntmps49
    go_wp2_with (first | (go_at_call 87; refine (impl_dictOk s.D ad cd _ (hD.kept (by repeat (first | exact Below.refl _ _ | assumption | (refine Below.drew ?_) | (refine below_drewN ?_ _) | (refine Below.alloc ?_ (by first | omega | (simp; done) | (simp; omega)) _) | (refine Below.setCell ?_ (by first | omega | (simp; done) | (simp; omega)) _)))) (by omega) (fun i hi => by have := HT.out i hi; omega)).mono ?_; rintro e w1 ⟨rfl, hb1⟩; rw [H1.out]; obtain ⟨hc_w1, hf_w1⟩ := bcell hb1; have HT_w1 : Below w.heap.size w w1 := below_step (by repeat (first | exact Below.refl _ _ | assumption | (refine Below.drew ?_) | (refine below_drewN ?_ _) | (refine Below.alloc ?_ (by first | omega | (simp; done) | (simp; omega)) _) | (refine Below.setCell ?_ (by first | omega | (simp; done) | (simp; omega)) _))) hb1; have hy0_w1 : w.heap.size < w1.heap.size := (by have h1 := hb1.size; (try simp at h1); omega)) | (go_at_call 98; refine (impl_roomOk _ _ _ _ _ hd).mono ?_; rintro e w2 ⟨rfl, rfl⟩; rw [H2.out]))
    go_ret
    exact ⟨by rw [HR.out]; rfl, HT_w1⟩
  have H2 := Lib.hid h2
  by_cases h3 : 0 ≤ s.b
  rotate_left
  · have HR := Lib.hid (show sesB s = false by rw [HU.out]; simp [h1, h2, h3])
    clear h1
    clear h2
    go_enter Try.func49, Try.ntmps49
    go_wp2_with (first | (go_at_call 87; refine (impl_dictOk s.D ad cd _ (hD.kept (by repeat (first | exact Below.refl _ _ | assumption | (refine Below.drew ?_) | (refine below_drewN ?_ _) | (refine Below.alloc ?_ (by first | omega | (simp; done) | (simp; omega)) _) | (refine Below.setCell ?_ (by first | omega | (simp; done) | (simp; omega)) _)))) (by omega) (fun i hi => by have := HT.out i hi; omega)).mono ?_; rintro e w1 ⟨rfl, hb1⟩; rw [H1.out]; obtain ⟨hc_w1, hf_w1⟩ := bcell hb1; have HT_w1 : Below w.heap.size w w1 := below_step (by repeat (first | exact Below.refl _ _ | assumption | (refine Below.drew ?_) | (refine below_drewN ?_ _) | (refine Below.alloc ?_ (by first | omega | (simp; done) | (simp; omega)) _) | (refine Below.setCell ?_ (by first | omega | (simp; done) | (simp; omega)) _))) hb1; have hy0_w1 : w.heap.size < w1.heap.size := (by have h1 := hb1.size; (try simp at h1); omega)) | (go_at_call 98; refine (impl_roomOk _ _ _ _ _ hd).mono ?_; rintro e w2 ⟨rfl, rfl⟩; rw [H2.out]))
    go_ret
    exact ⟨by rw [HR.out]; rfl, HT_w1⟩
  by_cases h4 : s.b ≤ s.a
  rotate_left
  · have HR := Lib.hid (show sesB s = false by rw [HU.out]; simp [h1, h2, h3, h4])
    clear h1
    clear h2
    go_enter Try.func49, Try.ntmps49
    go_wp2_with (first | (go_at_call 87; refine (impl_dictOk s.D ad cd _ (hD.kept (by repeat (first | exact Below.refl _ _ | assumption | (refine Below.drew ?_) | (refine below_drewN ?_ _) | (refine Below.alloc ?_ (by first | omega | (simp; done) | (simp; omega)) _) | (refine Below.setCell ?_ (by first | omega | (simp; done) | (simp; omega)) _)))) (by omega) (fun i hi => by have := HT.out i hi; omega)).mono ?_; rintro e w1 ⟨rfl, hb1⟩; rw [H1.out]; obtain ⟨hc_w1, hf_w1⟩ := bcell hb1; have HT_w1 : Below w.heap.size w w1 := below_step (by repeat (first | exact Below.refl _ _ | assumption | (refine Below.drew ?_) | (refine below_drewN ?_ _) | (refine Below.alloc ?_ (by first | omega | (simp; done) | (simp; omega)) _) | (refine Below.setCell ?_ (by first | omega | (simp; done) | (simp; omega)) _))) hb1; have hy0_w1 : w.heap.size < w1.heap.size := (by have h1 := hb1.size; (try simp at h1); omega)) | (go_at_call 98; refine (impl_roomOk _ _ _ _ _ hd).mono ?_; rintro e w2 ⟨rfl, rfl⟩; rw [H2.out]))
    go_ret
    exact ⟨by rw [HR.out]; rfl, HT_w1⟩
  by_cases h5 : s.a ≤ 1000000
  rotate_left
  · have HR := Lib.hid (show sesB s = false by rw [HU.out]; simp [h1, h2, h3, h4, h5])
    clear h1
    clear h2
    go_enter Try.func49, Try.ntmps49
    go_wp2_with (first | (go_at_call 87; refine (impl_dictOk s.D ad cd _ (hD.kept (by repeat (first | exact Below.refl _ _ | assumption | (refine Below.drew ?_) | (refine below_drewN ?_ _) | (refine Below.alloc ?_ (by first | omega | (simp; done) | (simp; omega)) _) | (refine Below.setCell ?_ (by first | omega | (simp; done) | (simp; omega)) _)))) (by omega) (fun i hi => by have := HT.out i hi; omega)).mono ?_; rintro e w1 ⟨rfl, hb1⟩; rw [H1.out]; obtain ⟨hc_w1, hf_w1⟩ := bcell hb1; have HT_w1 : Below w.heap.size w w1 := below_step (by repeat (first | exact Below.refl _ _ | assumption | (refine Below.drew ?_) | (refine below_drewN ?_ _) | (refine Below.alloc ?_ (by first | omega | (simp; done) | (simp; omega)) _) | (refine Below.setCell ?_ (by first | omega | (simp; done) | (simp; omega)) _))) hb1; have hy0_w1 : w.heap.size < w1.heap.size := (by have h1 := hb1.size; (try simp at h1); omega)) | (go_at_call 98; refine (impl_roomOk _ _ _ _ _ hd).mono ?_; rintro e w2 ⟨rfl, rfl⟩; rw [H2.out]))
    go_ret
    exact ⟨by rw [HR.out]; rfl, HT_w1⟩
  cases h6 : (decide (s.C.length = s.D.length) && colsB s.D s.C s.D.length)
  · have HR := Lib.hid (show sesB s = false by rw [HU.out]; simp [h1, h2, h3, h4, h5, h6])
    have H6 := Lib.hid h6; clear h6
    clear h1
    clear h2
    go_enter Try.func49, Try.ntmps49
    go_wp2_with (first | (go_at_call 87; refine (impl_dictOk s.D ad cd _ (hD.kept (by repeat (first | exact Below.refl _ _ | assumption | (refine Below.drew ?_) | (refine below_drewN ?_ _) | (refine Below.alloc ?_ (by first | omega | (simp; done) | (simp; omega)) _) | (refine Below.setCell ?_ (by first | omega | (simp; done) | (simp; omega)) _)))) (by omega) (fun i hi => by have := HT.out i hi; omega)).mono ?_; rintro e w1 ⟨rfl, hb1⟩; rw [H1.out]; obtain ⟨hc_w1, hf_w1⟩ := bcell hb1; have HT_w1 : Below w.heap.size w w1 := below_step (by repeat (first | exact Below.refl _ _ | assumption | (refine Below.drew ?_) | (refine below_drewN ?_ _) | (refine Below.alloc ?_ (by first | omega | (simp; done) | (simp; omega)) _) | (refine Below.setCell ?_ (by first | omega | (simp; done) | (simp; omega)) _))) hb1; have hy0_w1 : w.heap.size < w1.heap.size := (by have h1 := hb1.size; (try simp at h1); omega)) | (go_at_call 98; refine (impl_roomOk _ _ _ _ _ hd).mono ?_; rintro e w2 ⟨rfl, rfl⟩; rw [H2.out]) | (go_at_call 99; refine (sl_equalFunc s.D s.C ad ac cd cc _ (hD.kept HT_w1) (hC.kept HT_w1) hd hc HT.out HRR.out).mono ?_; rintro e w3 ⟨rfl, hb3⟩; rw [H6.out]; obtain ⟨hc_w3, hf_w3⟩ := bcell hb3; have HT_w3 : Below w.heap.size w w3 := below_step (by repeat (first | exact Below.refl _ _ | assumption | (refine Below.drew ?_) | (refine below_drewN ?_ _) | (refine Below.alloc ?_ (by first | omega | (simp; done) | (simp; omega)) _) | (refine Below.setCell ?_ (by first | omega | (simp; done) | (simp; omega)) _))) hb3; have hy0_w3 : w.heap.size < w3.heap.size := (by have h1 := hb3.size; (try simp at h1); omega)))
    go_ret
    exact ⟨by rw [HR.out]; rfl, HT_w3⟩
  have H6 := Lib.hid h6
  have HR := Lib.hid (show sesB s = (decide ((s.Q.length / 3 : Nat) ≤ s.r) && queB s (s.Q.length / 3)) by rw [HU.out]; simp [h1, h2, h3, h4, h5, h6])
  clear h1 h2 h6
  obtain ⟨Q, hQe⟩ : ∃ Q, (decide ((s.Q.length / 3 : Nat) ≤ s.r) && queB s (s.Q.length / 3)) = Q := ⟨_, rfl⟩
  have HQE := Lib.hid hQe; clear hQe
  go_enter Try.func49, Try.ntmps49
  go_wp2_with (first | (go_at_call 87; refine (impl_dictOk s.D ad cd _ (hD.kept (by repeat (first | exact Below.refl _ _ | assumption | (refine Below.drew ?_) | (refine below_drewN ?_ _) | (refine Below.alloc ?_ (by first | omega | (simp; done) | (simp; omega)) _) | (refine Below.setCell ?_ (by first | omega | (simp; done) | (simp; omega)) _)))) (by omega) (fun i hi => by have := HT.out i hi; omega)).mono ?_; rintro e w1 ⟨rfl, hb1⟩; rw [H1.out]; obtain ⟨hc_w1, hf_w1⟩ := bcell hb1; have HT_w1 : Below w.heap.size w w1 := below_step (by repeat (first | exact Below.refl _ _ | assumption | (refine Below.drew ?_) | (refine below_drewN ?_ _) | (refine Below.alloc ?_ (by first | omega | (simp; done) | (simp; omega)) _) | (refine Below.setCell ?_ (by first | omega | (simp; done) | (simp; omega)) _))) hb1; have hy0_w1 : w.heap.size < w1.heap.size := (by have h1 := hb1.size; (try simp at h1); omega)) | (go_at_call 98; refine (impl_roomOk _ _ _ _ _ hd).mono ?_; rintro e w2 ⟨rfl, rfl⟩; rw [H2.out]) | (go_at_call 99; refine (sl_equalFunc s.D s.C ad ac cd cc _ (hD.kept HT_w1) (hC.kept HT_w1) hd hc HT.out HRR.out).mono ?_; rintro e w3 ⟨rfl, hb3⟩; rw [H6.out]; obtain ⟨hc_w3, hf_w3⟩ := bcell hb3; have HT_w3 : Below w.heap.size w w3 := below_step (by repeat (first | exact Below.refl _ _ | assumption | (refine Below.drew ?_) | (refine below_drewN ?_ _) | (refine Below.alloc ?_ (by first | omega | (simp; done) | (simp; omega)) _) | (refine Below.setCell ?_ (by first | omega | (simp; done) | (simp; omega)) _))) hb3; have hy0_w3 : w.heap.size < w3.heap.size := (by have h1 := hb3.size; (try simp at h1); omega)) | (go_at_call 101; refine (impl_queueOk s _ _ (HV.out.kept HT_w3) hd hq).mono ?_; rintro e w4 ⟨rfl, hb4⟩; rw [HQE.out]))
  go_ret
  exact ⟨by rw [HR.out, HQE.out]; rfl, below_step HT_w3 hb4⟩
set_option maxHeartbeats 4000000 in
theorem law_FnExactSessionOk (s : Ses) (v : Value) (hM : SesB maxLen s) (hF : SesF s) (w : World) (h : SesV w v s) :
    Calls Try.prog 9 #[v] w fun e w' => e = .returned (.bool true) ∧ Below w.heap.size w w' := by
  unfold maxLen at hM
  have h' := h
  obtain ⟨ad, ac, aq, cd, cc, cq, nq, rfl, _⟩ := h
  unfold sesV at h' ⊢
  have h := h'
  clear h'
  have e0 : (sesB s != sesB s) = false := by simp
  have hM2 : SesB 9223372036854775807 s := ⟨by have := hM.d; omega, fun i hi => by have := hM.t i hi; omega, by have := hM.c; omega, fun i hi => by have := hM.r i hi; omega, by have := hM.q; omega⟩
  have HM := Lib.hid hM2
  have HF := Lib.hid hF
  clear hM hM2 hF
  generalize hS : sesB s = S at *
  have HS := Lib.hid hS
  clear hS

  go_enter Try.func9, Try.ntmps9
  go_wp2_with fail
  have b0 : (w.alloc (.cells #[.slice ad s.D.length cd, .int .i64 s.r, .int .i64 s.b, .int .i64 s.a, .slice ac s.C.length cc, .slice aq nq cq, .bool s.z] 66)).cell? ⟨w.heap.size, 0, none⟩ = some (.slice ad s.D.length cd) := by rw [World.cell?_alloc_new]; rfl
  have b1 : (w.alloc (.cells #[.slice ad s.D.length cd, .int .i64 s.r, .int .i64 s.b, .int .i64 s.a, .slice ac s.C.length cc, .slice aq nq cq, .bool s.z] 66)).cell? ⟨w.heap.size, 1, none⟩ = some (.int .i64 s.r) := by rw [World.cell?_alloc_new]; rfl
  have b2 : (w.alloc (.cells #[.slice ad s.D.length cd, .int .i64 s.r, .int .i64 s.b, .int .i64 s.a, .slice ac s.C.length cc, .slice aq nq cq, .bool s.z] 66)).cell? ⟨w.heap.size, 2, none⟩ = some (.int .i64 s.b) := by rw [World.cell?_alloc_new]; rfl
  have b3 : (w.alloc (.cells #[.slice ad s.D.length cd, .int .i64 s.r, .int .i64 s.b, .int .i64 s.a, .slice ac s.C.length cc, .slice aq nq cq, .bool s.z] 66)).cell? ⟨w.heap.size, 3, none⟩ = some (.int .i64 s.a) := by rw [World.cell?_alloc_new]; rfl
  have b4 : (w.alloc (.cells #[.slice ad s.D.length cd, .int .i64 s.r, .int .i64 s.b, .int .i64 s.a, .slice ac s.C.length cc, .slice aq nq cq, .bool s.z] 66)).cell? ⟨w.heap.size, 4, none⟩ = some (.slice ac s.C.length cc) := by rw [World.cell?_alloc_new]; rfl
  have b5 : (w.alloc (.cells #[.slice ad s.D.length cd, .int .i64 s.r, .int .i64 s.b, .int .i64 s.a, .slice ac s.C.length cc, .slice aq nq cq, .bool s.z] 66)).cell? ⟨w.heap.size, 5, none⟩ = some (.slice aq nq cq) := by rw [World.cell?_alloc_new]; rfl
  have b6 : (w.alloc (.cells #[.slice ad s.D.length cd, .int .i64 s.r, .int .i64 s.b, .int .i64 s.a, .slice ac s.C.length cc, .slice aq nq cq, .bool s.z] 66)).cell? ⟨w.heap.size, 6, none⟩ = some (.bool s.z) := by rw [World.cell?_alloc_new]; rfl
  have HBX := Lib.hid (And.intro b0 (And.intro b1 (And.intro b2 (And.intro b3 (And.intro b4 (And.intro b5 b6))))))
  have HT0 : Below w.heap.size w (w.alloc (.cells #[.slice ad s.D.length cd, .int .i64 s.r, .int .i64 s.b, .int .i64 s.a, .slice ac s.C.length cc, .slice aq nq cq, .bool s.z] 66)) := (by repeat (first | exact Below.refl _ _ | assumption | (refine Below.drew ?_) | (refine below_drewN ?_ _) | (refine Below.alloc ?_ (by first | omega | (simp; done) | (simp; omega)) _) | (refine Below.setCell ?_ (by first | omega | (simp; done) | (simp; omega)) _)))
  have hlw : w.heap.size < (w.alloc (.cells #[.slice ad s.D.length cd, .int .i64 s.r, .int .i64 s.b, .int .i64 s.a, .slice ac s.C.length cc, .slice aq nq cq, .bool s.z] 66)).heap.size := by simp
  replace h := h.kept HT0
  clear b0 b1 b2 b3 b4 b5 b6
  generalize (w.alloc (.cells #[.slice ad s.D.length cd, .int .i64 s.r, .int .i64 s.b, .int .i64 s.a, .slice ac s.C.length cc, .slice aq nq cq, .bool s.z] 66)) = w0 at *
  refine (laws_szSession s _ _ _ h HM.out HM.out.q (by omega) (by omega)).mono ?_
  rintro e w1 ⟨r, rfl, hr, HA⟩
  rcases hr with rfl | ⟨hr0, hB, hsum⟩
  · go_wp2_with fail
    go_ret
    exact ⟨rfl, below_step HT0 HA⟩
  · have HB := Lib.hid hB
    clear hB hsum
    obtain ⟨b0, b1, b2, b3, b4, b5, b6⟩ := HBX.out
    replace b0 := (HA.cell (p := ⟨w.heap.size, 0, none⟩) hlw).trans b0
    replace b1 := (HA.cell (p := ⟨w.heap.size, 1, none⟩) hlw).trans b1
    replace b2 := (HA.cell (p := ⟨w.heap.size, 2, none⟩) hlw).trans b2
    replace b3 := (HA.cell (p := ⟨w.heap.size, 3, none⟩) hlw).trans b3
    replace b4 := (HA.cell (p := ⟨w.heap.size, 4, none⟩) hlw).trans b4
    replace b5 := (HA.cell (p := ⟨w.heap.size, 5, none⟩) hlw).trans b5
    replace b6 := (HA.cell (p := ⟨w.heap.size, 6, none⟩) hlw).trans b6
    go_wp2_with fail
    clear b0 b1 b2 b3 b4 b5 b6
    refine (laws_toSession s _ _ (h.kept HA) HB.out).mono ?_
    rintro e w2 ⟨v2, rfl, hW2, hb2⟩
    replace HA := below_step HA hb2
    obtain ⟨b0, b1, b2, b3, b4, b5, b6⟩ := HBX.out
    replace b0 := (HA.cell (p := ⟨w.heap.size, 0, none⟩) hlw).trans b0
    replace b1 := (HA.cell (p := ⟨w.heap.size, 1, none⟩) hlw).trans b1
    replace b2 := (HA.cell (p := ⟨w.heap.size, 2, none⟩) hlw).trans b2
    replace b3 := (HA.cell (p := ⟨w.heap.size, 3, none⟩) hlw).trans b3
    replace b4 := (HA.cell (p := ⟨w.heap.size, 4, none⟩) hlw).trans b4
    replace b5 := (HA.cell (p := ⟨w.heap.size, 5, none⟩) hlw).trans b5
    replace b6 := (HA.cell (p := ⟨w.heap.size, 6, none⟩) hlw).trans b6
    go_wp2_with fail
    clear b0 b1 b2 b3 b4 b5 b6
    refine (spec_sessionOk s v2 _ hW2.read HB.out HF.out).mono ?_
    rintro e w3 ⟨rfl, hb3⟩
    rw [HS.out]
    replace HA := below_step HA hb3
    clear hW2
    obtain ⟨b0, b1, b2, b3, b4, b5, b6⟩ := HBX.out
    replace b0 := (HA.cell (p := ⟨w.heap.size, 0, none⟩) hlw).trans b0
    replace b1 := (HA.cell (p := ⟨w.heap.size, 1, none⟩) hlw).trans b1
    replace b2 := (HA.cell (p := ⟨w.heap.size, 2, none⟩) hlw).trans b2
    replace b3 := (HA.cell (p := ⟨w.heap.size, 3, none⟩) hlw).trans b3
    replace b4 := (HA.cell (p := ⟨w.heap.size, 4, none⟩) hlw).trans b4
    replace b5 := (HA.cell (p := ⟨w.heap.size, 5, none⟩) hlw).trans b5
    replace b6 := (HA.cell (p := ⟨w.heap.size, 6, none⟩) hlw).trans b6
    go_wp2_with fail
    clear b0 b1 b2 b3 b4 b5 b6
    refine (laws_toSession_x s _ _ (h.kept HA) HB.out).mono ?_
    rintro e w4 ⟨ad4, ac4, aq4, cd4, cc4, cq4, nq4, rfl, hW4, hb4⟩
    replace HA := below_step HA hb4
    obtain ⟨b0, b1, b2, b3, b4, b5, b6⟩ := HBX.out
    replace b0 := (HA.cell (p := ⟨w.heap.size, 0, none⟩) hlw).trans b0
    replace b1 := (HA.cell (p := ⟨w.heap.size, 1, none⟩) hlw).trans b1
    replace b2 := (HA.cell (p := ⟨w.heap.size, 2, none⟩) hlw).trans b2
    replace b3 := (HA.cell (p := ⟨w.heap.size, 3, none⟩) hlw).trans b3
    replace b4 := (HA.cell (p := ⟨w.heap.size, 4, none⟩) hlw).trans b4
    replace b5 := (HA.cell (p := ⟨w.heap.size, 5, none⟩) hlw).trans b5
    replace b6 := (HA.cell (p := ⟨w.heap.size, 6, none⟩) hlw).trans b6
    go_wp2_with fail
    clear b0 b1 b2 b3 b4 b5 b6
    have y0 : (w4.alloc (.cells #[.slice ad4 s.D.length cd4, .int .i64 s.r, .int .i64 s.b, .int .i64 s.a, .slice ac4 s.C.length cc4, .slice aq4 nq4 cq4, .bool s.z] 70)).cell? ⟨w4.heap.size, 0, none⟩ = some (.slice ad4 s.D.length cd4) := by rw [World.cell?_alloc_new]; rfl
    have y1 : (w4.alloc (.cells #[.slice ad4 s.D.length cd4, .int .i64 s.r, .int .i64 s.b, .int .i64 s.a, .slice ac4 s.C.length cc4, .slice aq4 nq4 cq4, .bool s.z] 70)).cell? ⟨w4.heap.size, 1, none⟩ = some (.int .i64 s.r) := by rw [World.cell?_alloc_new]; rfl
    have y2 : (w4.alloc (.cells #[.slice ad4 s.D.length cd4, .int .i64 s.r, .int .i64 s.b, .int .i64 s.a, .slice ac4 s.C.length cc4, .slice aq4 nq4 cq4, .bool s.z] 70)).cell? ⟨w4.heap.size, 2, none⟩ = some (.int .i64 s.b) := by rw [World.cell?_alloc_new]; rfl
    have y3 : (w4.alloc (.cells #[.slice ad4 s.D.length cd4, .int .i64 s.r, .int .i64 s.b, .int .i64 s.a, .slice ac4 s.C.length cc4, .slice aq4 nq4 cq4, .bool s.z] 70)).cell? ⟨w4.heap.size, 3, none⟩ = some (.int .i64 s.a) := by rw [World.cell?_alloc_new]; rfl
    have y4 : (w4.alloc (.cells #[.slice ad4 s.D.length cd4, .int .i64 s.r, .int .i64 s.b, .int .i64 s.a, .slice ac4 s.C.length cc4, .slice aq4 nq4 cq4, .bool s.z] 70)).cell? ⟨w4.heap.size, 4, none⟩ = some (.slice ac4 s.C.length cc4) := by rw [World.cell?_alloc_new]; rfl
    have y5 : (w4.alloc (.cells #[.slice ad4 s.D.length cd4, .int .i64 s.r, .int .i64 s.b, .int .i64 s.a, .slice ac4 s.C.length cc4, .slice aq4 nq4 cq4, .bool s.z] 70)).cell? ⟨w4.heap.size, 5, none⟩ = some (.slice aq4 nq4 cq4) := by rw [World.cell?_alloc_new]; rfl
    have y6 : (w4.alloc (.cells #[.slice ad4 s.D.length cd4, .int .i64 s.r, .int .i64 s.b, .int .i64 s.a, .slice ac4 s.C.length cc4, .slice aq4 nq4 cq4, .bool s.z] 70)).cell? ⟨w4.heap.size, 6, none⟩ = some (.bool s.z) := by rw [World.cell?_alloc_new]; rfl
    have HBY := Lib.hid (And.intro y0 (And.intro y1 (And.intro y2 (And.intro y3 (And.intro y4 (And.intro y5 y6))))))
    have HT4 : Below w4.heap.size w4 (w4.alloc (.cells #[.slice ad4 s.D.length cd4, .int .i64 s.r, .int .i64 s.b, .int .i64 s.a, .slice ac4 s.C.length cc4, .slice aq4 nq4 cq4, .bool s.z] 70)) := (by repeat (first | exact Below.refl _ _ | assumption | (refine Below.drew ?_) | (refine below_drewN ?_ _) | (refine Below.alloc ?_ (by first | omega | (simp; done) | (simp; omega)) _) | (refine Below.setCell ?_ (by first | omega | (simp; done) | (simp; omega)) _)))
    have hly : w4.heap.size < (w4.alloc (.cells #[.slice ad4 s.D.length cd4, .int .i64 s.r, .int .i64 s.b, .int .i64 s.a, .slice ac4 s.C.length cc4, .slice aq4 nq4 cq4, .bool s.z] 70)).heap.size := by simp
    replace hW4 := hW4.kept HT4
    replace HA := below_step HA HT4
    clear y0 y1 y2 y3 y4 y5 y6
    generalize (w4.alloc (.cells #[.slice ad4 s.D.length cd4, .int .i64 s.r, .int .i64 s.b, .int .i64 s.a, .slice ac4 s.C.length cc4, .slice aq4 nq4 cq4, .bool s.z] 70)) = w4b at *
    refine (impl_sessionOk s _ _ hW4.read HB.out).mono ?_
    rintro e w5 ⟨rfl, hb5⟩
    rw [HS.out]
    have HY := hb5
    replace HA := below_step HA hb5
    obtain ⟨b0, b1, b2, b3, b4, b5, b6⟩ := HBX.out
    replace b0 := (HA.cell (p := ⟨w.heap.size, 0, none⟩) hlw).trans b0
    replace b1 := (HA.cell (p := ⟨w.heap.size, 1, none⟩) hlw).trans b1
    replace b2 := (HA.cell (p := ⟨w.heap.size, 2, none⟩) hlw).trans b2
    replace b3 := (HA.cell (p := ⟨w.heap.size, 3, none⟩) hlw).trans b3
    replace b4 := (HA.cell (p := ⟨w.heap.size, 4, none⟩) hlw).trans b4
    replace b5 := (HA.cell (p := ⟨w.heap.size, 5, none⟩) hlw).trans b5
    replace b6 := (HA.cell (p := ⟨w.heap.size, 6, none⟩) hlw).trans b6
    obtain ⟨y0, y1, y2, y3, y4, y5, y6⟩ := HBY.out
    replace y0 := (HY.cell (p := ⟨w4.heap.size, 0, none⟩) hly).trans y0
    replace y1 := (HY.cell (p := ⟨w4.heap.size, 1, none⟩) hly).trans y1
    replace y2 := (HY.cell (p := ⟨w4.heap.size, 2, none⟩) hly).trans y2
    replace y3 := (HY.cell (p := ⟨w4.heap.size, 3, none⟩) hly).trans y3
    replace y4 := (HY.cell (p := ⟨w4.heap.size, 4, none⟩) hly).trans y4
    replace y5 := (HY.cell (p := ⟨w4.heap.size, 5, none⟩) hly).trans y5
    replace y6 := (HY.cell (p := ⟨w4.heap.size, 6, none⟩) hly).trans y6
    go_wp2_with fail
    go_region_law ((go_simp; first | (go_at_call 48; refine (laws_toSession_x s _ _ (h.kept HA.drew) HB.out).mono ?_; rintro e w6 ⟨ad6, ac6, aq6, cd6, cc6, cq6, nq6, rfl, hW6, hb6d⟩; have hb6 := below_undrew hb6d; obtain ⟨hc_w6, hf_w6⟩ := bcell hb6; have hly6 : w4.heap.size < w5.heap.size := (by have := HY.size; omega); have HA6 := below_step HA hb6; have HY6 := below_step HY hb6) | (go_at_call 50; refine (laws_eqSession s _ _ _ (hW4.read.kept HY6) hW6.read HB.out).mono ?_; rintro e w7 ⟨rfl, hb7⟩; have HA7 := below_step HA6 hb7)))
    all_goals
      go_wp2
      go_ret
      exact ⟨rfl, below_step HT0 HA7⟩
end Go.Proofs.Ytokmdnpapdnaeaa

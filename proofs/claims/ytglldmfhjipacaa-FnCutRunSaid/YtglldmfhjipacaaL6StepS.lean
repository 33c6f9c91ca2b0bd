/-
  Chapter 6: CutStep's model.
-/
import Derived.Test.YtglldmfhjipacaaL6StepM
import Derived.Test.YtglldmfhjipacaaL3NextL
import Derived.Deep.RegionLaw
import Derived.Deep.RegionHeld3
namespace Go.Proofs.Ytglldmfhjipacaa
open Go.RowKit
set_option linter.unusedVariables false
set_option maxRecDepth 100000
theorem spec_chain {s : ByteArray} {k : Int} {f : Bool} {b : Int} {L : List Int} {n : Nat} (hn : L.length = n) {N : List Int}
    (hN : N = tab (nextAt (maskG s f b) (intAt (tab (wholeF L n (k + 1)) (s.size + 1))) 0) (s.size + 1)) :
    lastLe (intAt (tab (capI (intAt N) k) (s.size + 1))) k (s.size + 1) = lastLe (stepN s k f b L) k (s.size + 1) ∧ (tab (capI (intAt N) k) (s.size + 1)).take (lastLe (stepN s k f b L) k (s.size + 1) + 1) = cutL (stepN s k f b L) k (s.size + 1) := by
  subst hn
  have eq : ∀ i, i < s.size + 1 → intAt N i = stepN s k f b L i := by
    intro i hi
    rw [hN, intAt_tab _ _ _ hi]
    unfold stepN
    exact nextAt_congr (n := s.size) (fun j hj => rfl) (fun j hj => intAt_tab _ _ _ (by omega)) i (by omega)
  refine ⟨by rw [lastLe_tabCap, lastLe_congr eq], ?_⟩
  have hl := lastLe_lt (stepN s k f b L) k (s.size + 1) (by omega)
  rw [tab_take _ _ _ (by omega)]
  unfold cutL
  refine tab_congr fun i hi => ?_
  unfold capI; rw [eq i (by omega)]
theorem whole_bnd {s : ByteArray} {k : Int} {L : List Int} {q : Nat} (h : cutOkB s k L q = true) : Bnd (intAt (tab (wholeF L L.length (k + 1)) (s.size + 1))) s.size 25 := by
  obtain ⟨hl, hq, hs1, hs2, hk0, hk1, z, nn, st, la⟩ := cutOk_steps h
  obtain ⟨hp, h0, h1, h2, h3, h4, h5⟩ := cutOkB_iff.1 h
  intro i hi
  rw [intAt_tab _ _ _ (by omega)]
  unfold wholeF; split
  · rename_i hi2
    have := stepsB_bnd h3 i hi2
    omega
  · omega
theorem next_bnd {s : ByteArray} {f : Bool} {b : Int} {C : Nat → Int} (h : Bnd C s.size 25) : ∀ i, i < s.size + 1 → -9223372036854775808 ≤ intAt (tab (nextAt (maskG s f b) C 0) (s.size + 1)) i ∧ intAt (tab (nextAt (maskG s f b) C 0) (s.size + 1)) i ≤ 9223372036854775807 := by
  intro i hi
  rw [intAt_tab _ _ _ hi]
  have := nextAt_bnd (eq := maskG s f b) h (head := 0) (by omega) (by omega) i (by omega)
  omega
set_option maxHeartbeats 4000000 in
theorem spec_cutStep (s : ByteArray) (k : Int) (f : Bool) (L : List Int) (x : Int) (a : Option Addr) (n cap : Nat) (b : Int) (w : World) (hs : s.size ≤ 1048576) (hn : L.length = n) (h : Ints w a L) (hlen : n ≤ 1048577) (hx : -9223372036854775808 ≤ x ∧ x ≤ 9223372036854775807) :
    Calls Try.prog 64 #[.agg #[.string s, .int .i64 k, .bool f], .agg #[.slice a n cap, .int .i64 x], .int .i64 b] w fun e w' => ∃ a' n' cap', e = .returned (.agg #[.slice a' n' cap', .int .i64 (cutStepI s k f b L x)]) ∧ OwnN w' w.heap.size a' n' cap' (cutStepL s k f b L x) ∧ Below w.heap.size w w' := by
  have HN := Lib.hid hn; clear hn
  cases hok : cutOkB s k L x
  · have HR := Lib.hid (show cutStepL s k f b L x = [] by unfold cutStepL cutStepB; rw [hok]; rfl)
    have HI := Lib.hid (show cutStepI s k f b L x = 0 by unfold cutStepI cutStepB; rw [hok]; rfl)
    have HO := Lib.hid hok; clear hok
    go_enter Try.func64, Try.ntmps64
    go_wp2_with fail
    refine (spec_cutOk s k f L x a n cap _ hs HN.out (h.kept (by repeat (first | exact Below.refl _ _ | assumption | (refine Below.drew ?_) | (refine below_drewN ?_ _) | (refine Below.alloc ?_ (by first | omega | (simp; done) | (simp; omega)) _) | (refine Below.setCell ?_ (by first | omega | (simp; done) | (simp; omega)) _)))) hlen hx).mono ?_
    rintro e w1 ⟨rfl, hb1⟩
    rw [HO.out]
    obtain ⟨hc_w1, hf_w1⟩ := bcell hb1; have HT_w1 : Below w.heap.size w w1 := below_step (by repeat (first | exact Below.refl _ _ | assumption | (refine Below.drew ?_) | (refine below_drewN ?_ _) | (refine Below.alloc ?_ (by first | omega | (simp; done) | (simp; omega)) _) | (refine Below.setCell ?_ (by first | omega | (simp; done) | (simp; omega)) _))) hb1; have hy0_w1 : w.heap.size < w1.heap.size := (by have h1 := hb1.size; (try simp at h1); omega); have hy1_w1 : w.heap.size + 1 < w1.heap.size := (by have h1 := hb1.size; (try simp at h1); omega); have hy2_w1 : w.heap.size + 2 < w1.heap.size := (by have h1 := hb1.size; (try simp at h1); omega)
    go_wp2_with fail
    exact bodyPost_ret (v := .agg #[.slice none 0 0, .int .i64 0]) (by simp [results, Try.results64, go_sem, hc_w1]) rfl ⟨_, _, _, by rw [HI.out], by rw [HR.out]; exact OwnN.nil _ _, (by repeat (first | exact Below.refl _ _ | assumption | (refine Below.drew ?_) | (refine below_drewN ?_ _) | (refine Below.alloc ?_ (by first | omega | (simp; done) | (simp; omega)) _) | (refine Below.setCell ?_ (by first | omega | (simp; done) | (simp; omega)) _)))⟩
  · cases hib : inB b 0 255
    · have HR := Lib.hid (show cutStepL s k f b L x = [] by unfold cutStepL cutStepB; rw [hok, hib]; rfl)
      have HI0 := Lib.hid (show cutStepI s k f b L x = 0 by unfold cutStepI cutStepB; rw [hok, hib]; rfl)
      have HO := Lib.hid hok; have HI := Lib.hid hib; clear hok hib
      go_enter Try.func64, Try.ntmps64
      go_wp2_with fail
      refine (spec_cutOk s k f L x a n cap _ hs HN.out (h.kept (by repeat (first | exact Below.refl _ _ | assumption | (refine Below.drew ?_) | (refine below_drewN ?_ _) | (refine Below.alloc ?_ (by first | omega | (simp; done) | (simp; omega)) _) | (refine Below.setCell ?_ (by first | omega | (simp; done) | (simp; omega)) _)))) hlen hx).mono ?_
      rintro e w1 ⟨rfl, hb1⟩
      rw [HO.out]
      obtain ⟨hc_w1, hf_w1⟩ := bcell hb1; have HT_w1 : Below w.heap.size w w1 := below_step (by repeat (first | exact Below.refl _ _ | assumption | (refine Below.drew ?_) | (refine below_drewN ?_ _) | (refine Below.alloc ?_ (by first | omega | (simp; done) | (simp; omega)) _) | (refine Below.setCell ?_ (by first | omega | (simp; done) | (simp; omega)) _))) hb1; have hy0_w1 : w.heap.size < w1.heap.size := (by have h1 := hb1.size; (try simp at h1); omega); have hy1_w1 : w.heap.size + 1 < w1.heap.size := (by have h1 := hb1.size; (try simp at h1); omega); have hy2_w1 : w.heap.size + 2 < w1.heap.size := (by have h1 := hb1.size; (try simp at h1); omega)
      go_wp2_with (go_at_call 83; refine (spec_l1In _ _ _ _).mono ?_; rintro e w' ⟨rfl, rfl⟩; rw [HI.out])
      exact bodyPost_ret (v := .agg #[.slice none 0 0, .int .i64 0]) (by simp [results, Try.results64, go_sem, hc_w1]) rfl ⟨_, _, _, by rw [HI0.out], by rw [HR.out]; exact OwnN.nil _ _, (by repeat (first | exact Below.refl _ _ | assumption | (refine Below.drew ?_) | (refine below_drewN ?_ _) | (refine Below.alloc ?_ (by first | omega | (simp; done) | (simp; omega)) _) | (refine Below.setCell ?_ (by first | omega | (simp; done) | (simp; omega)) _)))⟩
    · obtain ⟨q, rfl⟩ : ∃ q : Nat, x = (q : Int) := by obtain ⟨_, h0, _⟩ := cutOkB_iff.1 hok; exact ⟨x.toNat, by omega⟩
      obtain ⟨hl, hq, hs1, hs2, hk0, hk1, _, _, _, _⟩ := cutOk_steps hok
      have hb2 : 0 ≤ b ∧ b ≤ 255 := by simpa [inB] using hib
      obtain ⟨hb0, hb255⟩ := hb2
      have hn1 : 1 ≤ n := by have := HN.out; omega
      have hn2 : n ≤ s.size + 1 := by have := HN.out; omega
      have hsz1 : s.size + 1 ≤ 1048577 := by omega
      have hkb : k ≤ 1048577 := by omega
      have hmod : b % 256 = b := Int.emod_eq_of_lt hb0 (by omega)
      have hcut : cutStepB s k b L q = true := by unfold cutStepB; rw [hok, hib]; rfl
      have HR := Lib.hid (show cutStepL s k f b L q = cutL (stepN s k f b L) k (s.size + 1) by unfold cutStepL; rw [hcut]; rfl)
      have HI0 := Lib.hid (show cutStepI s k f b L q = (lastLe (stepN s k f b L) k (s.size + 1) : Int) by unfold cutStepI; rw [hcut]; rfl)
      have hbw := whole_bnd hok
      rw [HN.out] at hbw
      have HBW := Lib.hid hbw
      have HNB := Lib.hid (next_bnd (f := f) (b := b) hbw)
      obtain ⟨e1, e2⟩ := spec_chain (s := s) (f := f) (b := b) (k := k) (n := n) HN.out (N := tab (nextAt (maskG s f b) (intAt (tab (wholeF L n (k + 1)) (s.size + 1))) 0) (s.size + 1)) rfl
      have E1 := Lib.hid e1; have E2 := Lib.hid e2
      have hll := lastLe_lt (stepN s k f b L) k (s.size + 1) (by omega)
      have HO := Lib.hid hok; have HI := Lib.hid hib; have HM := Lib.hid hmod
      clear hok hib hmod hcut hbw e1 e2 hl
      go_enter Try.func64, Try.ntmps64
      go_wp2_with fail
      refine (spec_cutOk s k f L q a n cap _ hs HN.out (h.kept (by repeat (first | exact Below.refl _ _ | assumption | (refine Below.drew ?_) | (refine below_drewN ?_ _) | (refine Below.alloc ?_ (by first | omega | (simp; done) | (simp; omega)) _) | (refine Below.setCell ?_ (by first | omega | (simp; done) | (simp; omega)) _)))) hlen hx).mono ?_
      rintro e w1 ⟨rfl, hb1⟩
      rw [HO.out]
      obtain ⟨hc_w1, hf_w1⟩ := bcell hb1; have HT_w1 : Below w.heap.size w w1 := below_step (by repeat (first | exact Below.refl _ _ | assumption | (refine Below.drew ?_) | (refine below_drewN ?_ _) | (refine Below.alloc ?_ (by first | omega | (simp; done) | (simp; omega)) _) | (refine Below.setCell ?_ (by first | omega | (simp; done) | (simp; omega)) _))) hb1; have hy0_w1 : w.heap.size < w1.heap.size := (by have h1 := hb1.size; (try simp at h1); omega); have hy1_w1 : w.heap.size + 1 < w1.heap.size := (by have h1 := hb1.size; (try simp at h1); omega); have hy2_w1 : w.heap.size + 2 < w1.heap.size := (by have h1 := hb1.size; (try simp at h1); omega)
      go_wp2_with (go_at_call 83; refine (spec_l1In _ _ _ _).mono ?_; rintro e w' ⟨rfl, rfl⟩; rw [HI.out])
      have c0 : w1.cell? ⟨w.heap.size + 1, 0, none⟩ = some (.slice a n cap) := by go_simp
      have c1 : w1.cell? ⟨w.heap.size + 1, 1, none⟩ = some (.int .i64 q) := by go_simp
      have d0 : w1.cell? ⟨w.heap.size, 0, none⟩ = some (.string s) := by go_simp
      have d1 : w1.cell? ⟨w.heap.size, 1, none⟩ = some (.int .i64 k) := by go_simp
      have d2 : w1.cell? ⟨w.heap.size, 2, none⟩ = some (.bool f) := by go_simp
      have r0 : w1.cell? ⟨w.heap.size + 2, 0, none⟩ = some (.slice none 0 0) := by go_simp
      have r1 : w1.cell? ⟨w.heap.size + 2, 1, none⟩ = some (.int .i64 0) := by go_simp
      have f0 : w1.frozen? ⟨w.heap.size + 2, 0, none⟩ = false := by go_simp
      have f1 : w1.frozen? ⟨w.heap.size + 2, 1, none⟩ = false := by go_simp
      have hI := h.kept HT_w1
      have hw8 : IntKind.u8.wrap b = b := by have e : IntKind.u8.wrap b = b % 256 := rfl; rw [e]; exact HM.out
      have hS1 := (⟨c0, c1, d0, d1, d2⟩ : w1.cell? ⟨w.heap.size + 1, 0, none⟩ = some (.slice a n cap) ∧ w1.cell? ⟨w.heap.size + 1, 1, none⟩ = some (.int .i64 q) ∧ w1.cell? ⟨w.heap.size, 0, none⟩ = some (.string s) ∧ w1.cell? ⟨w.heap.size, 1, none⟩ = some (.int .i64 k) ∧ w1.cell? ⟨w.heap.size, 2, none⟩ = some (.bool f))
      clear hc_w1 hf_w1 hb1 h
      go_region_held3 (fun W => W.cell? ⟨w.heap.size + 1, 0, none⟩ = some (.slice a n cap) ∧ W.cell? ⟨w.heap.size + 1, 1, none⟩ = some (.int .i64 q) ∧ W.cell? ⟨w.heap.size, 0, none⟩ = some (.string s) ∧ W.cell? ⟨w.heap.size, 1, none⟩ = some (.int .i64 k) ∧ W.cell? ⟨w.heap.size, 2, none⟩ = some (.bool f)) (first | with_reducible exact hS1 | with_reducible exact hS2 | with_reducible exact hS3 | with_reducible exact hS4 | with_reducible exact hS5 | exact ⟨((below_set2 (Below.refl (w.heap.size + 2) w5) (Nat.le_refl _) _ _).cell (p := ⟨w.heap.size + 1, 0, none⟩) (by show w.heap.size + 1 < _; omega)).trans hS5.1, ((below_set2 (Below.refl (w.heap.size + 2) w5) (Nat.le_refl _) _ _).cell (p := ⟨w.heap.size + 1, 1, none⟩) (by show w.heap.size + 1 < _; omega)).trans hS5.2.1, ((below_set2 (Below.refl (w.heap.size + 2) w5) (Nat.le_refl _) _ _).cell (p := ⟨w.heap.size, 0, none⟩) (by show w.heap.size < _; omega)).trans hS5.2.2.1, ((below_set2 (Below.refl (w.heap.size + 2) w5) (Nat.le_refl _) _ _).cell (p := ⟨w.heap.size, 1, none⟩) (by show w.heap.size < _; omega)).trans hS5.2.2.2.1, ((below_set2 (Below.refl (w.heap.size + 2) w5) (Nat.le_refl _) _ _).cell (p := ⟨w.heap.size, 2, none⟩) (by show w.heap.size < _; omega)).trans hS5.2.2.2.2⟩ | go_keep)
        (first
        | (go_at_call 113; with_reducible refine (spec_l6Whole s k f L q a n cap _ hs2 hk0 hk1 HN.out (hI.kept ((Below.refl _ _).drew)) hn1 hn2).mono ?_; rintro e w2 ⟨a2, cap2, rfl, hO2, hb2d⟩; have hb2 := below_undrew hb2d; have hS2 := (⟨(hb2.cell (p := ⟨w.heap.size + 1, 0, none⟩) (by show w.heap.size + 1 < _; omega)).trans hS1.1, (hb2.cell (p := ⟨w.heap.size + 1, 1, none⟩) (by show w.heap.size + 1 < _; omega)).trans hS1.2.1, (hb2.cell (p := ⟨w.heap.size, 0, none⟩) (by show w.heap.size < _; omega)).trans hS1.2.2.1, (hb2.cell (p := ⟨w.heap.size, 1, none⟩) (by show w.heap.size < _; omega)).trans hS1.2.2.2.1, (hb2.cell (p := ⟨w.heap.size, 2, none⟩) (by show w.heap.size < _; omega)).trans hS1.2.2.2.2⟩ : w2.cell? ⟨w.heap.size + 1, 0, none⟩ = some (.slice a n cap) ∧ w2.cell? ⟨w.heap.size + 1, 1, none⟩ = some (.int .i64 q) ∧ w2.cell? ⟨w.heap.size, 0, none⟩ = some (.string s) ∧ w2.cell? ⟨w.heap.size, 1, none⟩ = some (.int .i64 k) ∧ w2.cell? ⟨w.heap.size, 2, none⟩ = some (.bool f)); have hs2x := hb2.size; have hy0_w2 : w.heap.size < w2.heap.size := (by omega); have hy1_w2 : w.heap.size + 1 < w2.heap.size := (by omega); have hy2_w2 : w.heap.size + 2 < w2.heap.size := (by omega))
        | (go_at_call 112; with_reducible refine (spec_l3Next s f _ a2 (s.size + 1) cap2 0 b 25 _ hs rfl (tab_length _ _) hO2.ints HBW.out (by decide) (by decide) (by decide) hb0 hb255).mono ?_; rintro e w3 ⟨a3, cap3, rfl, hO3, hb3⟩; have hS3 := (⟨(hb3.cell (p := ⟨w.heap.size + 1, 0, none⟩) (by show w.heap.size + 1 < _; omega)).trans hS2.1, (hb3.cell (p := ⟨w.heap.size + 1, 1, none⟩) (by show w.heap.size + 1 < _; omega)).trans hS2.2.1, (hb3.cell (p := ⟨w.heap.size, 0, none⟩) (by show w.heap.size < _; omega)).trans hS2.2.2.1, (hb3.cell (p := ⟨w.heap.size, 1, none⟩) (by show w.heap.size < _; omega)).trans hS2.2.2.2.1, (hb3.cell (p := ⟨w.heap.size, 2, none⟩) (by show w.heap.size < _; omega)).trans hS2.2.2.2.2⟩ : w3.cell? ⟨w.heap.size + 1, 0, none⟩ = some (.slice a n cap) ∧ w3.cell? ⟨w.heap.size + 1, 1, none⟩ = some (.int .i64 q) ∧ w3.cell? ⟨w.heap.size, 0, none⟩ = some (.string s) ∧ w3.cell? ⟨w.heap.size, 1, none⟩ = some (.int .i64 k) ∧ w3.cell? ⟨w.heap.size, 2, none⟩ = some (.bool f)); have hs3 := hb3.size; have hy0_w3 : w.heap.size < w3.heap.size := (by omega); have hy1_w3 : w.heap.size + 1 < w3.heap.size := (by omega); have hy2_w3 : w.heap.size + 2 < w3.heap.size := (by omega))
        | (go_at_call 111; with_reducible refine (spec_l6Cap s k f _ a3 (s.size + 1) cap3 _ (tab_length _ _) hO3.ints hsz1 hk0 hkb HNB.out).mono ?_; rintro e w4 ⟨a4, cap4, rfl, hO4, hb4⟩; have hcap4 := hO4.cap_le (Nat.succ_le_succ (Nat.zero_le _)); have hS4 := (⟨(hb4.cell (p := ⟨w.heap.size + 1, 0, none⟩) (by show w.heap.size + 1 < _; omega)).trans hS3.1, (hb4.cell (p := ⟨w.heap.size + 1, 1, none⟩) (by show w.heap.size + 1 < _; omega)).trans hS3.2.1, (hb4.cell (p := ⟨w.heap.size, 0, none⟩) (by show w.heap.size < _; omega)).trans hS3.2.2.1, (hb4.cell (p := ⟨w.heap.size, 1, none⟩) (by show w.heap.size < _; omega)).trans hS3.2.2.2.1, (hb4.cell (p := ⟨w.heap.size, 2, none⟩) (by show w.heap.size < _; omega)).trans hS3.2.2.2.2⟩ : w4.cell? ⟨w.heap.size + 1, 0, none⟩ = some (.slice a n cap) ∧ w4.cell? ⟨w.heap.size + 1, 1, none⟩ = some (.int .i64 q) ∧ w4.cell? ⟨w.heap.size, 0, none⟩ = some (.string s) ∧ w4.cell? ⟨w.heap.size, 1, none⟩ = some (.int .i64 k) ∧ w4.cell? ⟨w.heap.size, 2, none⟩ = some (.bool f)); have hs4 := hb4.size; have hy0_w4 : w.heap.size < w4.heap.size := (by omega); have hy1_w4 : w.heap.size + 1 < w4.heap.size := (by omega); have hy2_w4 : w.heap.size + 2 < w4.heap.size := (by omega))
        | (go_at_call 110; with_reducible refine (spec_l6Of s k f _ a4 (s.size + 1) cap4 _ (tab_length _ _) hO4.ints (Nat.succ_le_succ (Nat.zero_le _)) hsz1 hcap4).mono ?_; rintro e w5 ⟨a5, cap5, rfl, hO5, hb5⟩; rw [E1.out] at hO5 ⊢; rw [E2.out] at hO5; have hS5 := (⟨(hb5.cell (p := ⟨w.heap.size + 1, 0, none⟩) (by show w.heap.size + 1 < _; omega)).trans hS4.1, (hb5.cell (p := ⟨w.heap.size + 1, 1, none⟩) (by show w.heap.size + 1 < _; omega)).trans hS4.2.1, (hb5.cell (p := ⟨w.heap.size, 0, none⟩) (by show w.heap.size < _; omega)).trans hS4.2.2.1, (hb5.cell (p := ⟨w.heap.size, 1, none⟩) (by show w.heap.size < _; omega)).trans hS4.2.2.2.1, (hb5.cell (p := ⟨w.heap.size, 2, none⟩) (by show w.heap.size < _; omega)).trans hS4.2.2.2.2⟩ : w5.cell? ⟨w.heap.size + 1, 0, none⟩ = some (.slice a n cap) ∧ w5.cell? ⟨w.heap.size + 1, 1, none⟩ = some (.int .i64 q) ∧ w5.cell? ⟨w.heap.size, 0, none⟩ = some (.string s) ∧ w5.cell? ⟨w.heap.size, 1, none⟩ = some (.int .i64 k) ∧ w5.cell? ⟨w.heap.size, 2, none⟩ = some (.bool f)); have m0 := (hb5.cell (p := ⟨w.heap.size + 2, 0, none⟩) (by show w.heap.size + 2 < _; omega)).trans ((hb4.cell (p := ⟨w.heap.size + 2, 0, none⟩) (by show w.heap.size + 2 < _; omega)).trans ((hb3.cell (p := ⟨w.heap.size + 2, 0, none⟩) (by show w.heap.size + 2 < _; omega)).trans ((hb2.cell (p := ⟨w.heap.size + 2, 0, none⟩) (by show w.heap.size + 2 < _; omega)).trans r0))); have m1 := (hb5.cell (p := ⟨w.heap.size + 2, 1, none⟩) (by show w.heap.size + 2 < _; omega)).trans ((hb4.cell (p := ⟨w.heap.size + 2, 1, none⟩) (by show w.heap.size + 2 < _; omega)).trans ((hb3.cell (p := ⟨w.heap.size + 2, 1, none⟩) (by show w.heap.size + 2 < _; omega)).trans ((hb2.cell (p := ⟨w.heap.size + 2, 1, none⟩) (by show w.heap.size + 2 < _; omega)).trans r1))); have g0 := (hb5.frozen (p := ⟨w.heap.size + 2, 0, none⟩) (by show w.heap.size + 2 < _; omega)).trans ((hb4.frozen (p := ⟨w.heap.size + 2, 0, none⟩) (by show w.heap.size + 2 < _; omega)).trans ((hb3.frozen (p := ⟨w.heap.size + 2, 0, none⟩) (by show w.heap.size + 2 < _; omega)).trans ((hb2.frozen (p := ⟨w.heap.size + 2, 0, none⟩) (by show w.heap.size + 2 < _; omega)).trans f0))); have g1 := (hb5.frozen (p := ⟨w.heap.size + 2, 1, none⟩) (by show w.heap.size + 2 < _; omega)).trans ((hb4.frozen (p := ⟨w.heap.size + 2, 1, none⟩) (by show w.heap.size + 2 < _; omega)).trans ((hb3.frozen (p := ⟨w.heap.size + 2, 1, none⟩) (by show w.heap.size + 2 < _; omega)).trans ((hb2.frozen (p := ⟨w.heap.size + 2, 1, none⟩) (by show w.heap.size + 2 < _; omega)).trans f1))); have hs5 := hb5.size))
      · have HT5 := HT_w1.trans ((hb2.mono HT_w1.size).trans ((hb3.mono (by omega)).trans ((hb4.mono (by omega)).trans (hb5.mono (by omega)))))
        trace_state
        go_wp2_with fail
        exact bodyPost_ret (v := .agg #[.slice a5 (lastLe (stepN s k f b L) k (s.size + 1) + 1) cap5, .int .i64 (lastLe (stepN s k f b L) k (s.size + 1))]) (by simp [results, Try.results64, go_sem, m0, m1]) rfl ⟨_, _, _, by rw [HI0.out], by rw [HR.out]; exact (hO5.set2 (g := w.heap.size + 2) (by omega) _ _).mono (by omega), below_set2 HT5 (by omega) _ _⟩
end Go.Proofs.Ytglldmfhjipacaa

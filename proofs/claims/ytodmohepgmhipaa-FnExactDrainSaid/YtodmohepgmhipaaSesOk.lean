/-
  SessionOk, in the model.
-/
import Derived.Test.YtodmohepgmhipaaSesOkP
namespace Go.Proofs.Ytodmohepgmhipaa
open Go.RowKit
set_option linter.unusedVariables false
set_option maxRecDepth 100000
theorem sesB_no {s : Ses} {b : Bool} (h : b = false) (hs : sesB s = (b && true)) : sesB s = false := by rw [hs, h]; rfl
set_option maxHeartbeats 4000000 in
theorem spec_sessionOk (s : Ses) (v : Value) (w : World) (h : SesV w v s) (hB : SesB 1048576 s) (hF : SesF s) :
    Calls Try.prog 72 #[v] w fun e w' => e = .returned (.bool (sesB s)) ∧ Below w.heap.size w w' := by
  obtain ⟨ad, ac, aq, cd, cc, cq, nq, rfl, hn, hD, hC, hQ⟩ := h
  have hnq : s.Q.length / 3 = nq := by omega
  obtain ⟨hd, ht, hc, hr, hq⟩ := hB
  have HU := Lib.hid (show sesB s = (dictOkL s.D && (roomB s.D.length s.r && (inB s.b 0 1000000 && (inB s.a s.b 1000000 && (decide (s.C.length = s.D.length) && (decide ((nq : Int) ≤ s.r) && (colsB s.D s.C s.D.length && queB s nq))))))) by unfold sesB; rw [hnq])
  unfold sesV
  have HT := Lib.hid ht
  have HRR := Lib.hid hr
  have HFF := Lib.hid hF
  clear ht hr hF hnq
  cases h1 : dictOkL s.D
  · have HR := Lib.hid (show sesB s = false by rw [HU.out]; simp [h1])
    have H1 := Lib.hid h1; clear h1
    go_enter Try.func72, Try.ntmps72
    go_wp2_with (first | (go_at_call 61; refine (spec_dictOk s.D ad cd _ (hD.kept (by repeat (first | exact Below.refl _ _ | assumption | (refine Below.drew ?_) | (refine below_drewN ?_ _) | (refine Below.alloc ?_ (by first | omega | (simp; done) | (simp; omega)) _) | (refine Below.setCell ?_ (by first | omega | (simp; done) | (simp; omega)) _)))) (by omega) (fun i hi => by have := HT.out i hi; omega)).mono ?_; rintro e w1 ⟨rfl, hb1⟩; rw [H1.out]; obtain ⟨hc_w1, hf_w1⟩ := bcell hb1; have HT_w1 : Below w.heap.size w w1 := below_step (by repeat (first | exact Below.refl _ _ | assumption | (refine Below.drew ?_) | (refine below_drewN ?_ _) | (refine Below.alloc ?_ (by first | omega | (simp; done) | (simp; omega)) _) | (refine Below.setCell ?_ (by first | omega | (simp; done) | (simp; omega)) _))) hb1; have hy0_w1 : w.heap.size < w1.heap.size := (by have h1 := hb1.size; (try simp at h1); omega)))
    go_ret
    exact ⟨by rw [HR.out]; rfl, HT_w1⟩
  have H1 := Lib.hid h1
  cases h2 : roomB s.D.length s.r
  · have HR := Lib.hid (show sesB s = false by rw [HU.out]; simp [h1, h2])
    have H2 := Lib.hid h2; clear h2
    go_enter Try.func72, Try.ntmps72
    go_wp2_with (first | (go_at_call 61; refine (spec_dictOk s.D ad cd _ (hD.kept (by repeat (first | exact Below.refl _ _ | assumption | (refine Below.drew ?_) | (refine below_drewN ?_ _) | (refine Below.alloc ?_ (by first | omega | (simp; done) | (simp; omega)) _) | (refine Below.setCell ?_ (by first | omega | (simp; done) | (simp; omega)) _)))) (by omega) (fun i hi => by have := HT.out i hi; omega)).mono ?_; rintro e w1 ⟨rfl, hb1⟩; rw [H1.out]; obtain ⟨hc_w1, hf_w1⟩ := bcell hb1; have HT_w1 : Below w.heap.size w w1 := below_step (by repeat (first | exact Below.refl _ _ | assumption | (refine Below.drew ?_) | (refine below_drewN ?_ _) | (refine Below.alloc ?_ (by first | omega | (simp; done) | (simp; omega)) _) | (refine Below.setCell ?_ (by first | omega | (simp; done) | (simp; omega)) _))) hb1; have hy0_w1 : w.heap.size < w1.heap.size := (by have h1 := hb1.size; (try simp at h1); omega)) | (go_at_call 111; refine (spec_l11Room _ _ _ _ _ hd).mono ?_; rintro e w2 ⟨rfl, rfl⟩; rw [H2.out]))
    go_ret
    exact ⟨by rw [HR.out]; rfl, HT_w1⟩
  have H2 := Lib.hid h2
  cases h3 : inB s.b 0 1000000
  · have HR := Lib.hid (show sesB s = false by rw [HU.out]; simp [h1, h2, h3])
    have H3 := Lib.hid h3; clear h3
    go_enter Try.func72, Try.ntmps72
    go_wp2_with (first | (go_at_call 61; refine (spec_dictOk s.D ad cd _ (hD.kept (by repeat (first | exact Below.refl _ _ | assumption | (refine Below.drew ?_) | (refine below_drewN ?_ _) | (refine Below.alloc ?_ (by first | omega | (simp; done) | (simp; omega)) _) | (refine Below.setCell ?_ (by first | omega | (simp; done) | (simp; omega)) _)))) (by omega) (fun i hi => by have := HT.out i hi; omega)).mono ?_; rintro e w1 ⟨rfl, hb1⟩; rw [H1.out]; obtain ⟨hc_w1, hf_w1⟩ := bcell hb1; have HT_w1 : Below w.heap.size w w1 := below_step (by repeat (first | exact Below.refl _ _ | assumption | (refine Below.drew ?_) | (refine below_drewN ?_ _) | (refine Below.alloc ?_ (by first | omega | (simp; done) | (simp; omega)) _) | (refine Below.setCell ?_ (by first | omega | (simp; done) | (simp; omega)) _))) hb1; have hy0_w1 : w.heap.size < w1.heap.size := (by have h1 := hb1.size; (try simp at h1); omega)) | (go_at_call 111; refine (spec_l11Room _ _ _ _ _ hd).mono ?_; rintro e w2 ⟨rfl, rfl⟩; rw [H2.out]) | (go_at_call 53; refine (spec_l1In _ _ _ _).mono ?_; rintro e w2 ⟨rfl, rfl⟩; first | rw [H3.out]))
    go_ret
    exact ⟨by rw [HR.out]; rfl, HT_w1⟩
  have H3 := Lib.hid h3
  cases h4 : inB s.a s.b 1000000
  · have HR := Lib.hid (show sesB s = false by rw [HU.out]; simp [h1, h2, h3, h4])
    have H4 := Lib.hid h4; clear h4
    go_enter Try.func72, Try.ntmps72
    go_wp2_with (first | (go_at_call 61; refine (spec_dictOk s.D ad cd _ (hD.kept (by repeat (first | exact Below.refl _ _ | assumption | (refine Below.drew ?_) | (refine below_drewN ?_ _) | (refine Below.alloc ?_ (by first | omega | (simp; done) | (simp; omega)) _) | (refine Below.setCell ?_ (by first | omega | (simp; done) | (simp; omega)) _)))) (by omega) (fun i hi => by have := HT.out i hi; omega)).mono ?_; rintro e w1 ⟨rfl, hb1⟩; rw [H1.out]; obtain ⟨hc_w1, hf_w1⟩ := bcell hb1; have HT_w1 : Below w.heap.size w w1 := below_step (by repeat (first | exact Below.refl _ _ | assumption | (refine Below.drew ?_) | (refine below_drewN ?_ _) | (refine Below.alloc ?_ (by first | omega | (simp; done) | (simp; omega)) _) | (refine Below.setCell ?_ (by first | omega | (simp; done) | (simp; omega)) _))) hb1; have hy0_w1 : w.heap.size < w1.heap.size := (by have h1 := hb1.size; (try simp at h1); omega)) | (go_at_call 111; refine (spec_l11Room _ _ _ _ _ hd).mono ?_; rintro e w2 ⟨rfl, rfl⟩; rw [H2.out]) | (go_at_call 53; refine (spec_l1In _ _ _ _).mono ?_; rintro e w2 ⟨rfl, rfl⟩; first | rw [H3.out] | rw [H4.out]))
    go_ret
    exact ⟨by rw [HR.out]; rfl, HT_w1⟩
  have H4 := Lib.hid h4
  by_cases h5 : s.C.length = s.D.length
  · have g5 : ((s.C.length : Int) != (s.D.length : Int)) = false := by simp; omega
    by_cases h6 : (nq : Int) ≤ s.r
    · have HR := Lib.hid (show sesB s = (colsB s.D s.C s.D.length && queB s nq) by rw [HU.out]; simp [h1, h2, h3, h4, h5, h6])
      clear h1 h2 h3 h4
      go_enter Try.func72, Try.ntmps72
      go_wp2_with (first | (go_at_call 61; refine (spec_dictOk s.D ad cd _ (hD.kept (by repeat (first | exact Below.refl _ _ | assumption | (refine Below.drew ?_) | (refine below_drewN ?_ _) | (refine Below.alloc ?_ (by first | omega | (simp; done) | (simp; omega)) _) | (refine Below.setCell ?_ (by first | omega | (simp; done) | (simp; omega)) _)))) (by omega) (fun i hi => by have := HT.out i hi; omega)).mono ?_; rintro e w1 ⟨rfl, hb1⟩; rw [H1.out]; obtain ⟨hc_w1, hf_w1⟩ := bcell hb1; have HT_w1 : Below w.heap.size w w1 := below_step (by repeat (first | exact Below.refl _ _ | assumption | (refine Below.drew ?_) | (refine below_drewN ?_ _) | (refine Below.alloc ?_ (by first | omega | (simp; done) | (simp; omega)) _) | (refine Below.setCell ?_ (by first | omega | (simp; done) | (simp; omega)) _))) hb1; have hy0_w1 : w.heap.size < w1.heap.size := (by have h1 := hb1.size; (try simp at h1); omega)) | (go_at_call 111; refine (spec_l11Room _ _ _ _ _ hd).mono ?_; rintro e w2 ⟨rfl, rfl⟩; rw [H2.out]) | (go_at_call 53; refine (spec_l1In _ _ _ _).mono ?_; rintro e w2 ⟨rfl, rfl⟩; first | rw [H3.out] | rw [H4.out]))
      have b0 : w1.cell? ⟨w.heap.size, 0, none⟩ = some (.slice ad s.D.length cd) := by rw [hc_w1 _ _ (by simp)]; go_simp
      have b1 : w1.cell? ⟨w.heap.size, 1, none⟩ = some (.int .i64 s.r) := by rw [hc_w1 _ _ (by simp)]; go_simp
      have b2 : w1.cell? ⟨w.heap.size, 2, none⟩ = some (.int .i64 s.b) := by rw [hc_w1 _ _ (by simp)]; go_simp
      have b3 : w1.cell? ⟨w.heap.size, 3, none⟩ = some (.int .i64 s.a) := by rw [hc_w1 _ _ (by simp)]; go_simp
      have b4 : w1.cell? ⟨w.heap.size, 4, none⟩ = some (.slice ac s.D.length cc) := by rw [hc_w1 _ _ (by simp)]; go_simp
      have b5 : w1.cell? ⟨w.heap.size, 5, none⟩ = some (.slice aq nq cq) := by rw [hc_w1 _ _ (by simp)]; go_simp
      have hlw : w.heap.size < w1.heap.size := hy0_w1
      clear hc_w1 hf_w1 hb1
      have HB := Lib.hid (And.intro b0 (And.intro b1 (And.intro b2 (And.intro b3 (And.intro b4 b5)))))
      have H5 := Lib.hid h5
      clear b0 b1 b2 b3 b4 b5 g5 h5
      go_loopw [3] (fun i wr => ∃ k : Nat, k ≤ s.D.length ∧ i = .int .i64 k ∧ colsB s.D s.C k = true ∧ Below w1.heap.size w1 wr) (fun i _ => s.D.length - (intOf i).toNat)
      case atStart => exact ⟨0, by omega, rfl, rfl, Below.refl _ _⟩
      case round =>
        obtain ⟨k, hk, rfl, hok, hb⟩ := hrel
        obtain ⟨b0, b1, b2, b3, b4, b5⟩ := HB.out
        by_cases hlt : k < s.D.length
        · have x0 := (hb.cell (p := ⟨w.heap.size, 0, none⟩) hlw).trans b0
          have x4 := (hb.cell (p := ⟨w.heap.size, 4, none⟩) hlw).trans b4
          have y0 := cell_regrown x0
          have y4 := cell_regrown x4
          obtain ⟨bd, od, rfl, hpd⟩ := ((hD.kept HT_w1).kept hb).at k hlt
          obtain ⟨c0, c1, c2⟩ := hpd k hlt
          obtain ⟨bc, oc, rfl, hpc⟩ := ((hC.kept HT_w1).kept hb).at k (by have := H5.out; omega)
          obtain ⟨a3, z3, d3, i3⟩ := hpc k (by have := H5.out; omega)
          have e0 := cell_regrown c0
          have e1 := cell_regrown c1
          have e2 := cell_regrown c2
          have f3 := cell_regrown d3
          have hst := HT.out k hlt
          have hrs := HRR.out k (by have := H5.out; omega)
          have HWF := Lib.hid (HFF.out k (by have := H5.out; omega))
          have HOK := Lib.hid hok
          clear hpd hpc hD hC hQ hok b0 b1 b2 b3 b4 b5 c0 c1 c2 d3
          cases hq : colAtB s.D s.C k
          · have HNo := Lib.hid (colsB_no hq hlt)
            have hq' : colOkB (patOk (ptAt s.D k).t (ptAt s.D k).k) (ptAt s.D k).t.size (rowAt s.C k) = false := hq
            have HQ := Lib.hid hq'
            clear hq hq'
            generalize ptAt s.D k = p at *
            generalize rowAt s.C k = K at *
            go_wp2_with fail
            refine wp_region_quiet_below (by kernel_rfl) (by kernel_rfl) ?_
            repeat (go_big_quiet_step ((go_at_call 112; exact Calls.regrown_of (v := .bool false) ((spec_colOk p.t p.k p.f K a3 _ z3 _ hst rfl (i3.kept (below_regrown wr _ _)) (by omega) HWF.out).mono fun e w' h => ⟨by rw [h.1, HQ.out], h.2⟩))))
            refine wpQuiet_nil ?_
            intro _ hw'
            obtain ⟨⟨dq, osq⟩, hw''⟩ := hw'
            subst hw''
            go_wp2
            go_ret
            exact ⟨by rw [HR.out, HNo.out]; rfl, below_step HT_w1 (hb.trans ((below_regrown wr dq osq).mono hb.size))⟩
          · have HOK2 := Lib.hid (colsB_succ HOK.out hq)
            have hq' : colOkB (patOk (ptAt s.D k).t (ptAt s.D k).k) (ptAt s.D k).t.size (rowAt s.C k) = true := hq
            have HQ := Lib.hid hq'
            clear hq hq'
            generalize ptAt s.D k = p at *
            generalize rowAt s.C k = K at *
            go_wp2_with fail
            refine wp_region_quiet_below (by kernel_rfl) (by kernel_rfl) ?_
            repeat (go_big_quiet_step ((go_at_call 112; exact Calls.regrown_of (v := .bool true) ((spec_colOk p.t p.k p.f K a3 _ z3 _ hst rfl (i3.kept (below_regrown wr _ _)) (by omega) HWF.out).mono fun e w' h => ⟨by rw [h.1, HQ.out], h.2⟩))))
            refine wpQuiet_nil ?_
            intro _ hw'
            obtain ⟨⟨dq, osq⟩, hw''⟩ := hw'
            subst hw''
            go_wp2
            go_roundw
            case rel => exact ⟨k + 1, by omega, by go_num, HOK2.out, hb.trans ((below_regrown wr dq osq).mono hb.size)⟩
            case measure => simp [intOf]; omega
        · obtain rfl : k = s.D.length := by omega
          have HCO := Lib.hid hok
          have x4 := (hb.cell (p := ⟨w.heap.size, 4, none⟩) hlw).trans b4
          clear hok b0 b1 b2 b3 b4 b5
          go_wp2
          clear x4
          have HB0 := hb
          clear hb
          go_loopw [4] (fun i wr => ∃ k : Nat, k ≤ nq ∧ i = .int .i64 k ∧ queB s k = true ∧ Below w1.heap.size w1 wr) (fun i _ => nq - (intOf i).toNat)
          case atStart => exact ⟨0, by omega, rfl, rfl, HB0⟩
          case round =>
            obtain ⟨k, hk, rfl, hok, hb⟩ := hrel
            obtain ⟨b0, b1, b2, b3, b4, b5⟩ := HB.out
            have x5 := (hb.cell (p := ⟨w.heap.size, 5, none⟩) hlw).trans b5
            by_cases hlt : k < nq
            · obtain ⟨bq, oq, rfl, hpq⟩ := ((hQ.kept HT_w1).kept hb).at (k * 3) (by omega)
              have c0 := hpq (k * 3) (by omega)
              have c1 := hpq (k * 3 + 1) (by omega)
              have c2 := hpq (k * 3 + 2) (by omega)
              rw [← Nat.add_assoc] at c1 c2
              have HOK := Lib.hid hok
              have HQA := Lib.hid (show queAt s k = (recB s (intAt s.Q (k * 3)) (intAt s.Q (k * 3 + 1)) (intAt s.Q (k * 3 + 2)) && (k == 0 || ordB (intAt s.Q ((k - 1) * 3)) (intAt s.Q ((k - 1) * 3 + 1)) (intAt s.Q (k * 3)) (intAt s.Q (k * 3 + 1)))) from rfl)
              have HPQ := Lib.hid hpq
              clear hok hpq
              generalize intAt s.Q (k * 3) = xp at *
              generalize intAt s.Q (k * 3 + 1) = xe at *
              generalize intAt s.Q (k * 3 + 2) = xd at *
              go_wp2_with fail
              have hbz : Below w1.heap.size w1 (wr.alloc (.cells #[.int .i64 xp, .int .i64 xe, .int .i64 xd] 106)) := hb.alloc hb.size _
              have z0 : (wr.alloc (.cells #[.int .i64 xp, .int .i64 xe, .int .i64 xd] 106)).cell? ⟨wr.heap.size, 0, none⟩ = some (.int .i64 xp) := by rw [World.cell?_alloc_new]; rfl
              have z1 : (wr.alloc (.cells #[.int .i64 xp, .int .i64 xe, .int .i64 xd] 106)).cell? ⟨wr.heap.size, 1, none⟩ = some (.int .i64 xe) := by rw [World.cell?_alloc_new]; rfl
              have z2 : (wr.alloc (.cells #[.int .i64 xp, .int .i64 xe, .int .i64 xd] 106)).cell? ⟨wr.heap.size, 2, none⟩ = some (.int .i64 xd) := by rw [World.cell?_alloc_new]; rfl
              have HPZ := Lib.hid (HPQ.out.kept (show Below wr.heap.size wr (wr.alloc (.cells #[.int .i64 xp, .int .i64 xe, .int .i64 xd] 106)) from (Below.refl _ _).alloc (Nat.le_refl _) _))
              generalize wr.alloc (.cells #[.int .i64 xp, .int .i64 xe, .int .i64 xd] 106) = wz at *
              have q0 := cell_regrown ((hbz.cell (p := ⟨w.heap.size, 0, none⟩) hlw).trans b0)
              have q2 := cell_regrown ((hbz.cell (p := ⟨w.heap.size, 2, none⟩) hlw).trans b2)
              have q3 := cell_regrown ((hbz.cell (p := ⟨w.heap.size, 3, none⟩) hlw).trans b3)
              have q5 := cell_regrown ((hbz.cell (p := ⟨w.heap.size, 5, none⟩) hlw).trans b5)
              have r0 := cell_regrown z0
              have r1 := cell_regrown z1
              have r2 := cell_regrown z2
              have hDz := (hD.kept HT_w1).kept hbz
              have jw : IntKind.i64.wrap ((s.D.length : Int) - 1) = (s.D.length : Int) - 1 := by rw [IntKind.wrap_i64]; omega
              clear b0 b1 b2 b3 b4 b5 c0 c1 c2 z0 z1 z2 x5 HPQ hb hD hC hQ
              cases hA : inB xp 0 ((s.D.length : Int) - 1)
              · have HNo := Lib.hid (show queB s nq = false from queB_no (by rw [HQA.out]; unfold recB; rw [hA]; rfl) hlt)
                have HA := Lib.hid hA; clear hA HPZ
                refine wp_region_quiet_below (by kernel_rfl) (by kernel_rfl) ?_
                repeat (go_big_quiet_step ((go_at_call 53; first | exact Calls.regrown_of (v := .bool false) ((spec_l1In _ _ _ _).mono fun e w' h => ⟨by rw [h.1, HA.out], h.2 ▸ Below.refl _ _⟩))))
                refine wpQuiet_nil ?_
                intro _ hw'
                obtain ⟨⟨dq, osq⟩, hw''⟩ := hw'
                subst hw''
                go_wp2
                go_ret
                exact ⟨by rw [HR.out, HNo.out, Bool.and_false]; rfl, below_step HT_w1 (hbz.trans ((below_regrown wz dq osq).mono hbz.size))⟩
              · obtain ⟨hA0, hA1⟩ := inB_out hA
                obtain ⟨p, rfl⟩ := Int.eq_ofNat_of_zero_le hA0
                have hp : p < s.D.length := by omega
                obtain ⟨bd, od, rfl, hpd⟩ := hDz.at p hp
                obtain ⟨_, c1, _⟩ := hpd p hp
                have s1 := cell_regrown c1
                have HREC := Lib.hid (show recB s (p : Int) xe xd = (inB xe s.b s.a && inB xd 0 (ptAt s.D p).k) by unfold recB; rw [hA]; rfl)
                have HA := Lib.hid hA; clear hA hA0 hA1 hpd c1 hDz
                generalize hkp : (ptAt s.D p).k = pk at *
                clear hkp
                cases hE : inB xe s.b s.a
                · have HNo := Lib.hid (show queB s nq = false from queB_no (by rw [HQA.out, HREC.out, hE]; rfl) hlt)
                  have HE := Lib.hid hE; clear hE HPZ
                  refine wp_region_quiet_below (by kernel_rfl) (by kernel_rfl) ?_
                  repeat (go_big_quiet_step ((go_at_call 53; first | exact Calls.regrown_of (v := .bool true) ((spec_l1In _ _ _ _).mono fun e w' h => ⟨by rw [h.1, HA.out], h.2 ▸ Below.refl _ _⟩) | exact Calls.regrown_of (v := .bool false) ((spec_l1In _ _ _ _).mono fun e w' h => ⟨by rw [h.1, HE.out], h.2 ▸ Below.refl _ _⟩))))
                  refine wpQuiet_nil ?_
                  intro _ hw'
                  obtain ⟨⟨dq, osq⟩, hw''⟩ := hw'
                  subst hw''
                  go_wp2
                  go_ret
                  exact ⟨by rw [HR.out, HNo.out, Bool.and_false]; rfl, below_step HT_w1 (hbz.trans ((below_regrown wz dq osq).mono hbz.size))⟩
                · cases hK : inB xd 0 pk
                  · have HNo := Lib.hid (show queB s nq = false from queB_no (by rw [HQA.out, HREC.out, hE, hK]; rfl) hlt)
                    have HE := Lib.hid hE; have HK := Lib.hid hK; clear hE hK HPZ
                    refine wp_region_quiet_below (by kernel_rfl) (by kernel_rfl) ?_
                    repeat (go_big_quiet_step ((go_at_call 53; first | exact Calls.regrown_of (v := .bool true) ((spec_l1In _ _ _ _).mono fun e w' h => ⟨by rw [h.1, HA.out], h.2 ▸ Below.refl _ _⟩) | exact Calls.regrown_of (v := .bool true) ((spec_l1In _ _ _ _).mono fun e w' h => ⟨by rw [h.1, HE.out], h.2 ▸ Below.refl _ _⟩) | exact Calls.regrown_of (v := .bool false) ((spec_l1In _ _ _ _).mono fun e w' h => ⟨by rw [h.1, HK.out], h.2 ▸ Below.refl _ _⟩))))
                    refine wpQuiet_nil ?_
                    intro _ hw'
                    obtain ⟨⟨dq, osq⟩, hw''⟩ := hw'
                    subst hw''
                    go_wp2
                    go_ret
                    exact ⟨by rw [HR.out, HNo.out, Bool.and_false]; rfl, below_step HT_w1 (hbz.trans ((below_regrown wz dq osq).mono hbz.size))⟩
                  · have HQA2 := Lib.hid (show queAt s k = (k == 0 || ordB (intAt s.Q ((k - 1) * 3)) (intAt s.Q ((k - 1) * 3 + 1)) (p : Int) xe) by rw [HQA.out, HREC.out, hE, hK]; rfl)
                    have HE := Lib.hid hE; have HK := Lib.hid hK; clear hE hK
                    refine wp_region_quiet_below (by kernel_rfl) (by kernel_rfl) ?_
                    repeat (go_big_quiet_step ((go_at_call 53; first | exact Calls.regrown_of (v := .bool true) ((spec_l1In _ _ _ _).mono fun e w' h => ⟨by rw [h.1, HA.out], h.2 ▸ Below.refl _ _⟩) | exact Calls.regrown_of (v := .bool true) ((spec_l1In _ _ _ _).mono fun e w' h => ⟨by rw [h.1, HE.out], h.2 ▸ Below.refl _ _⟩) | exact Calls.regrown_of (v := .bool true) ((spec_l1In _ _ _ _).mono fun e w' h => ⟨by rw [h.1, HK.out], h.2 ▸ Below.refl _ _⟩))))
                    refine wpQuiet_nil ?_
                    intro _ hw'
                    obtain ⟨⟨dq, osq⟩, hw''⟩ := hw'
                    subst hw''
                    go_wp2_with fail
                    have hby := hbz.trans ((below_regrown wz dq osq).mono hbz.size)
                    have tq5 := q5 dq osq
                    have tr0 := r0 dq osq
                    have tr1 := r1 dq osq
                    have HPY := Lib.hid (HPZ.out.kept (below_regrown wz dq osq))
                    clear q0 q2 q3 q5 r0 r1 r2 s1 HPZ hbz jw
                    generalize Sort.grow (redrawn wz dq) osq = wy at *
                    have q5 := cell_regrown tq5
                    have r0 := cell_regrown tr0
                    have r1 := cell_regrown tr1
                    clear tq5 tr0 tr1
                    by_cases hk0 : k = 0
                    · subst hk0
                      have HOK2 := Lib.hid (queB_succ HOK.out (by rw [HQA2.out]; rfl))
                      refine wp_region_quiet_below (by kernel_rfl) (by kernel_rfl) ?_
                      repeat (go_big_quiet_step ((fail)))
                      refine wpQuiet_nil ?_
                      intro _ hw'
                      obtain ⟨⟨dq, osq⟩, hw''⟩ := hw'
                      subst hw''
                      go_wp2
                      go_roundw
                      case rel => exact ⟨1, by omega, by go_num, HOK2.out, hby.trans ((below_regrown wy _ _).mono hby.size)⟩
                      case measure => simp [intOf]; omega
                    · obtain ⟨K, rfl⟩ : ∃ K, k = K + 1 := ⟨k - 1, by omega⟩
                      have d0 := HPY.out (K * 3) (by omega)
                      have d1 := HPY.out (K * 3 + 1) (by omega)
                      rw [← Nat.add_assoc] at d1
                      have HQ3 := Lib.hid (show queAt s (K + 1) = ordB (intAt s.Q (K * 3)) (intAt s.Q (K * 3 + 1)) (p : Int) xe by rw [HQA2.out, show K + 1 - 1 = K by omega]; simp)
                      generalize intAt s.Q (K * 3) = yp at *
                      generalize intAt s.Q (K * 3 + 1) = ye at *
                      have y0 := cell_regrown d0
                      have y1 := cell_regrown d1
                      have jw : IntKind.i64.wrap ((K : Int) + 1 - 1) = (K : Int) := by rw [IntKind.wrap_i64]; omega
                      have k1 : (0 : Int) < (K : Int) + 1 := by omega
                      have k2 : decide ((0 : Int) < (K : Int) + 1) = true := decide_eq_true k1
                      have k3 : K < nq := by omega
                      clear d0 d1
                      by_cases h1 : xe < ye
                      · have g1 : decide (xe < ye) = true := by simpa using h1
                        have HNo := Lib.hid (show queB s nq = false from queB_no (k := K + 1) (by rw [HQ3.out]; simp only [ordB, decide_eq_false_iff_not]; omega) hlt)
                        clear h1
                        refine wp_region_quiet_below (by kernel_rfl) (by kernel_rfl) ?_
                        repeat (go_big_quiet_step ((fail)))
                        refine wpQuiet_nil ?_
                        intro _ hw'
                        obtain ⟨⟨dq, osq⟩, hw''⟩ := hw'
                        subst hw''
                        go_wp2
                        go_ret
                        exact ⟨by rw [HR.out, HNo.out, Bool.and_false]; rfl, below_step HT_w1 (hby.trans ((below_regrown wy _ _).mono hby.size))⟩
                      · have g1 : decide (xe < ye) = false := by simpa using h1
                        by_cases h2 : ye = xe
                        · have g2 : (ye == xe) = true := by simpa using h2
                          by_cases h3 : (p : Int) ≤ yp
                          · have g3 : decide ((p : Int) ≤ yp) = true := by simpa using h3
                            have HNo := Lib.hid (show queB s nq = false from queB_no (k := K + 1) (by rw [HQ3.out]; simp only [ordB, decide_eq_false_iff_not]; omega) hlt)
                            clear h1 h2 h3
                            refine wp_region_quiet_below (by kernel_rfl) (by kernel_rfl) ?_
                            repeat (go_big_quiet_step ((fail)))
                            refine wpQuiet_nil ?_
                            intro _ hw'
                            obtain ⟨⟨dq, osq⟩, hw''⟩ := hw'
                            subst hw''
                            go_wp2
                            go_ret
                            exact ⟨by rw [HR.out, HNo.out, Bool.and_false]; rfl, below_step HT_w1 (hby.trans ((below_regrown wy _ _).mono hby.size))⟩
                          · have g3 : decide ((p : Int) ≤ yp) = false := by simpa using h3
                            have HOK2 := Lib.hid (queB_succ HOK.out (by rw [HQ3.out]; simp only [ordB, decide_eq_true_eq]; omega))
                            clear h1 h2 h3
                            refine wp_region_quiet_below (by kernel_rfl) (by kernel_rfl) ?_
                            repeat (go_big_quiet_step ((fail)))
                            refine wpQuiet_nil ?_
                            intro _ hw'
                            obtain ⟨⟨dq, osq⟩, hw''⟩ := hw'
                            subst hw''
                            go_wp2
                            go_roundw
                            case rel => exact ⟨K + 1 + 1, by omega, by go_num, HOK2.out, hby.trans ((below_regrown wy _ _).mono hby.size)⟩
                            case measure => simp [intOf]; omega
                        · have g2 : (ye == xe) = false := by simpa using h2
                          have HOK2 := Lib.hid (queB_succ HOK.out (by rw [HQ3.out]; simp only [ordB, decide_eq_true_eq]; omega))
                          clear h1 h2
                          refine wp_region_quiet_below (by kernel_rfl) (by kernel_rfl) ?_
                          repeat (go_big_quiet_step ((fail)))
                          refine wpQuiet_nil ?_
                          intro _ hw'
                          obtain ⟨⟨dq, osq⟩, hw''⟩ := hw'
                          subst hw''
                          go_wp2
                          go_roundw
                          case rel => exact ⟨K + 1 + 1, by omega, by go_num, HOK2.out, hby.trans ((below_regrown wy _ _).mono hby.size)⟩
                          case measure => simp [intOf]; omega
            · obtain rfl : k = nq := by omega
              have HQO := Lib.hid hok
              clear hok b0 b1 b2 b3 b4 b5
              go_wp2
              go_ret
              exact ⟨by rw [HR.out, HCO.out, HQO.out]; rfl, below_step HT_w1 hb⟩
    · have HR := Lib.hid (show sesB s = false by rw [HU.out]; simp [h1, h2, h3, h4, h5, h6])
      clear h1 h2 h3 h4
      go_enter Try.func72, Try.ntmps72
      go_wp2_with (first | (go_at_call 61; refine (spec_dictOk s.D ad cd _ (hD.kept (by repeat (first | exact Below.refl _ _ | assumption | (refine Below.drew ?_) | (refine below_drewN ?_ _) | (refine Below.alloc ?_ (by first | omega | (simp; done) | (simp; omega)) _) | (refine Below.setCell ?_ (by first | omega | (simp; done) | (simp; omega)) _)))) (by omega) (fun i hi => by have := HT.out i hi; omega)).mono ?_; rintro e w1 ⟨rfl, hb1⟩; rw [H1.out]; obtain ⟨hc_w1, hf_w1⟩ := bcell hb1; have HT_w1 : Below w.heap.size w w1 := below_step (by repeat (first | exact Below.refl _ _ | assumption | (refine Below.drew ?_) | (refine below_drewN ?_ _) | (refine Below.alloc ?_ (by first | omega | (simp; done) | (simp; omega)) _) | (refine Below.setCell ?_ (by first | omega | (simp; done) | (simp; omega)) _))) hb1; have hy0_w1 : w.heap.size < w1.heap.size := (by have h1 := hb1.size; (try simp at h1); omega)) | (go_at_call 111; refine (spec_l11Room _ _ _ _ _ hd).mono ?_; rintro e w2 ⟨rfl, rfl⟩; rw [H2.out]) | (go_at_call 53; refine (spec_l1In _ _ _ _).mono ?_; rintro e w2 ⟨rfl, rfl⟩; first | rw [H3.out] | rw [H4.out]))
      go_ret
      exact ⟨by rw [HR.out]; rfl, HT_w1⟩
  · have g5 : ((s.C.length : Int) != (s.D.length : Int)) = true := by simp; omega
    have HR := Lib.hid (show sesB s = false by rw [HU.out]; simp [h1, h2, h3, h4, h5])
    clear h1 h2 h3 h4
    go_enter Try.func72, Try.ntmps72
    go_wp2_with (first | (go_at_call 61; refine (spec_dictOk s.D ad cd _ (hD.kept (by repeat (first | exact Below.refl _ _ | assumption | (refine Below.drew ?_) | (refine below_drewN ?_ _) | (refine Below.alloc ?_ (by first | omega | (simp; done) | (simp; omega)) _) | (refine Below.setCell ?_ (by first | omega | (simp; done) | (simp; omega)) _)))) (by omega) (fun i hi => by have := HT.out i hi; omega)).mono ?_; rintro e w1 ⟨rfl, hb1⟩; rw [H1.out]; obtain ⟨hc_w1, hf_w1⟩ := bcell hb1; have HT_w1 : Below w.heap.size w w1 := below_step (by repeat (first | exact Below.refl _ _ | assumption | (refine Below.drew ?_) | (refine below_drewN ?_ _) | (refine Below.alloc ?_ (by first | omega | (simp; done) | (simp; omega)) _) | (refine Below.setCell ?_ (by first | omega | (simp; done) | (simp; omega)) _))) hb1; have hy0_w1 : w.heap.size < w1.heap.size := (by have h1 := hb1.size; (try simp at h1); omega)) | (go_at_call 111; refine (spec_l11Room _ _ _ _ _ hd).mono ?_; rintro e w2 ⟨rfl, rfl⟩; rw [H2.out]) | (go_at_call 53; refine (spec_l1In _ _ _ _).mono ?_; rintro e w2 ⟨rfl, rfl⟩; first | rw [H3.out] | rw [H4.out]))
    go_ret
    exact ⟨by rw [HR.out]; rfl, HT_w1⟩
end Go.Proofs.Ytodmohepgmhipaa

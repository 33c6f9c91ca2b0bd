/-
  SessionOk, in the program: the records that wait; all of it.
-/
import Derived.Test.YtodmohepgmhipaaSesRec
import Derived.Test.YtodmohepgmhipaaSlEq
import Derived.Test.YtodmohepgmhipaaCmp
namespace Go.Proofs.Ytodmohepgmhipaa
open Go.RowKit
set_option linter.unusedVariables false
set_option maxRecDepth 100000
theorem cmpR_ord (yp ye xp xe : Int) : (ordB yp ye xp xe = true → cmpR yp ye xp xe < 0) ∧ (ordB yp ye xp xe = false → 0 ≤ cmpR yp ye xp xe) := by
  unfold ordB cmpR orI cmpI
  simp only [decide_eq_true_eq, decide_eq_false_iff_not]
  by_cases h1 : ye < xe
  · simp [h1]
  · by_cases h2 : xe < ye
    · simp [h1, h2]; omega
    · obtain rfl : ye = xe := by omega
      by_cases h3 : yp < xp
      · simp [h3]
      · by_cases h4 : xp < yp
        · simp [h3, h4]
        · simp [h3, h4]
set_option maxHeartbeats 4000000 in
theorem impl_queueOk (s : Ses) (v : Value) (w : World) (h : SesV w v s) (hd : s.D.length ≤ 1048576) (hq : s.Q.length ≤ 1048576 * 3) :
    Calls Try.prog 118 #[v] w fun e w' => e = .returned (.bool (decide ((s.Q.length / 3 : Nat) ≤ s.r) && queB s (s.Q.length / 3))) ∧ Below w.heap.size w w' := by
  have h' := h
  obtain ⟨ad, ac, aq, cd, cc, cq, nq, rfl, hn, hD, hC, hQ⟩ := h
  unfold sesV at h'
  have HV := Lib.hid h'
  clear h'
  have hnq : s.Q.length / 3 = nq := by omega
  rw [hnq]
  clear hnq hD hC
  by_cases h6 : (nq : Int) ≤ s.r
  · have HR := Lib.hid (show (decide ((nq : Int) ≤ s.r) && queB s nq) = queB s nq by simp [h6])
    unfold sesV
    go_enter Try.func118, Try.ntmps118
    go_wp2
    have b0 : (w.alloc (.cells #[.slice ad s.D.length cd, .int .i64 s.r, .int .i64 s.b, .int .i64 s.a, .slice ac s.C.length cc, .slice aq nq cq, .bool s.z] 49)).cell? ⟨w.heap.size, 0, none⟩ = some (.slice ad s.D.length cd) := by rw [World.cell?_alloc_new]; rfl
    have b1 : (w.alloc (.cells #[.slice ad s.D.length cd, .int .i64 s.r, .int .i64 s.b, .int .i64 s.a, .slice ac s.C.length cc, .slice aq nq cq, .bool s.z] 49)).cell? ⟨w.heap.size, 1, none⟩ = some (.int .i64 s.r) := by rw [World.cell?_alloc_new]; rfl
    have b2 : (w.alloc (.cells #[.slice ad s.D.length cd, .int .i64 s.r, .int .i64 s.b, .int .i64 s.a, .slice ac s.C.length cc, .slice aq nq cq, .bool s.z] 49)).cell? ⟨w.heap.size, 2, none⟩ = some (.int .i64 s.b) := by rw [World.cell?_alloc_new]; rfl
    have b3 : (w.alloc (.cells #[.slice ad s.D.length cd, .int .i64 s.r, .int .i64 s.b, .int .i64 s.a, .slice ac s.C.length cc, .slice aq nq cq, .bool s.z] 49)).cell? ⟨w.heap.size, 3, none⟩ = some (.int .i64 s.a) := by rw [World.cell?_alloc_new]; rfl
    have b4 : (w.alloc (.cells #[.slice ad s.D.length cd, .int .i64 s.r, .int .i64 s.b, .int .i64 s.a, .slice ac s.C.length cc, .slice aq nq cq, .bool s.z] 49)).cell? ⟨w.heap.size, 4, none⟩ = some (.slice ac s.C.length cc) := by rw [World.cell?_alloc_new]; rfl
    have b5 : (w.alloc (.cells #[.slice ad s.D.length cd, .int .i64 s.r, .int .i64 s.b, .int .i64 s.a, .slice ac s.C.length cc, .slice aq nq cq, .bool s.z] 49)).cell? ⟨w.heap.size, 5, none⟩ = some (.slice aq nq cq) := by rw [World.cell?_alloc_new]; rfl
    have b6 : (w.alloc (.cells #[.slice ad s.D.length cd, .int .i64 s.r, .int .i64 s.b, .int .i64 s.a, .slice ac s.C.length cc, .slice aq nq cq, .bool s.z] 49)).cell? ⟨w.heap.size, 6, none⟩ = some (.bool s.z) := by rw [World.cell?_alloc_new]; rfl
    have HB := Lib.hid (And.intro b0 (And.intro b1 (And.intro b2 (And.intro b3 (And.intro b4 (And.intro b5 b6))))))
    have HT1 : Below w.heap.size w (w.alloc (.cells #[.slice ad s.D.length cd, .int .i64 s.r, .int .i64 s.b, .int .i64 s.a, .slice ac s.C.length cc, .slice aq nq cq, .bool s.z] 49)) := (by repeat (first | exact Below.refl _ _ | assumption | (refine Below.drew ?_) | (refine below_drewN ?_ _) | (refine Below.alloc ?_ (by first | omega | (simp; done) | (simp; omega)) _) | (refine Below.setCell ?_ (by first | omega | (simp; done) | (simp; omega)) _)))
    have hlw : w.heap.size < (w.alloc (.cells #[.slice ad s.D.length cd, .int .i64 s.r, .int .i64 s.b, .int .i64 s.a, .slice ac s.C.length cc, .slice aq nq cq, .bool s.z] 49)).heap.size := by simp
    clear b0 b1 b2 b3 b4 b5 b6
    generalize (w.alloc (.cells #[.slice ad s.D.length cd, .int .i64 s.r, .int .i64 s.b, .int .i64 s.a, .slice ac s.C.length cc, .slice aq nq cq, .bool s.z] 49)) = w1 at *
    go_loopw [14] (fun i wr => ∃ k : Nat, k ≤ nq ∧ i = .int .i64 k ∧ queB s k = true ∧ Below w1.heap.size w1 wr) (fun i _ => nq - (intOf i).toNat)
    case atStart => exact ⟨0, by omega, rfl, rfl, Below.refl _ _⟩
    case round =>
      obtain ⟨k, hk, rfl, hok, hb⟩ := hrel
      by_cases hlt : k < nq
      · obtain ⟨bq, oq, haq, hpq⟩ := ((hQ.kept HT1).kept hb).at (k * 3) (by omega)
        subst haq
        have c0 := hpq (k * 3) (by omega)
        have c1 := hpq (k * 3 + 1) (by omega)
        have c2 := hpq (k * 3 + 2) (by omega)
        rw [← Nat.add_assoc] at c1 c2
        have HOK := Lib.hid hok
        have HQA := Lib.hid (show queAt s k = (recB s (intAt s.Q (k * 3)) (intAt s.Q (k * 3 + 1)) (intAt s.Q (k * 3 + 2)) && (k == 0 || ordB (intAt s.Q ((k - 1) * 3)) (intAt s.Q ((k - 1) * 3 + 1)) (intAt s.Q (k * 3)) (intAt s.Q (k * 3 + 1)))) from rfl)
        have HPQ := Lib.hid hpq
        clear hok hpq
        generalize intAt s.Q (k * 3) = xp at *
        generalize intAt s.Q (k * 3 + 1) = xe at *
        generalize intAt s.Q (k * 3 + 2) = xd at *
        go_wp2_with fail
        have hbz : Below w1.heap.size w1 (wr.alloc (.cells #[.int .i64 xp, .int .i64 xe, .int .i64 xd] 106)) := hb.alloc hb.size _
        have z0 : (wr.alloc (.cells #[.int .i64 xp, .int .i64 xe, .int .i64 xd] 106)).cell? ⟨wr.heap.size, 0, none⟩ = some (.int .i64 xp) := by rw [World.cell?_alloc_new]; rfl
        have z1 : (wr.alloc (.cells #[.int .i64 xp, .int .i64 xe, .int .i64 xd] 106)).cell? ⟨wr.heap.size, 1, none⟩ = some (.int .i64 xe) := by rw [World.cell?_alloc_new]; rfl
        have z2 : (wr.alloc (.cells #[.int .i64 xp, .int .i64 xe, .int .i64 xd] 106)).cell? ⟨wr.heap.size, 2, none⟩ = some (.int .i64 xd) := by rw [World.cell?_alloc_new]; rfl
        have HPZ := Lib.hid (HPQ.out.kept (show Below wr.heap.size wr (wr.alloc (.cells #[.int .i64 xp, .int .i64 xe, .int .i64 xd] 106)) from (Below.refl _ _).alloc (Nat.le_refl _) _))
        generalize (wr.alloc (.cells #[.int .i64 xp, .int .i64 xe, .int .i64 xd] 106)) = wz at *
        obtain ⟨b0, b1, b2, b3, b4, b5, b6⟩ := HB.out
        have q0 := cell_regrown ((hbz.cell (p := ⟨w.heap.size, 0, none⟩) hlw).trans b0)
        have q1 := cell_regrown ((hbz.cell (p := ⟨w.heap.size, 1, none⟩) hlw).trans b1)
        have q2 := cell_regrown ((hbz.cell (p := ⟨w.heap.size, 2, none⟩) hlw).trans b2)
        have q3 := cell_regrown ((hbz.cell (p := ⟨w.heap.size, 3, none⟩) hlw).trans b3)
        have q4 := cell_regrown ((hbz.cell (p := ⟨w.heap.size, 4, none⟩) hlw).trans b4)
        have q5 := cell_regrown ((hbz.cell (p := ⟨w.heap.size, 5, none⟩) hlw).trans b5)
        have q6 := cell_regrown ((hbz.cell (p := ⟨w.heap.size, 6, none⟩) hlw).trans b6)
        have r0 := cell_regrown z0
        have r1 := cell_regrown z1
        have r2 := cell_regrown z2
        have HVz := Lib.hid (HV.out.kept (HT1.trans (hbz.mono HT1.size)))
        clear b0 b1 b2 b3 b4 b5 b6 c0 c1 c2 z0 z1 z2 HPQ hb hQ
        skip
        cases hA : recB s xp xe xd
        · have HNo := Lib.hid (show queB s nq = false from queB_no (by rw [HQA.out, hA]; rfl) hlt)
          have HA := Lib.hid hA; clear hA HPZ
          refine wp_region_quiet_below (by kernel_rfl) (by kernel_rfl) ?_
          repeat (go_big_quiet_step ((first | (go_at_call 147; exact Calls.regrown_of (v := .bool false) ((impl_recOk s _ xp xe xd _ (HVz.out.kept (below_regrown wz _ _)) hd).mono fun r w' h => ⟨by rw [h.1, HA.out], h.2⟩)))))
          refine wpQuiet_nil ?_
          intro _ hw'
          obtain ⟨⟨dq, osq⟩, hw''⟩ := hw'
          subst hw''
          go_wp2
          go_ret
          exact ⟨by rw [HR.out, HNo.out]; rfl, HT1.trans ((hbz.trans ((below_regrown wz dq osq).mono hbz.size)).mono HT1.size)⟩
        · have HQA2 := Lib.hid (show queAt s k = (k == 0 || ordB (intAt s.Q ((k - 1) * 3)) (intAt s.Q ((k - 1) * 3 + 1)) xp xe) by rw [HQA.out, hA]; rfl)
          have HA := Lib.hid hA; clear hA
          by_cases hk0 : k = 0
          · subst hk0
            have HOK2 := Lib.hid (queB_succ HOK.out (by rw [HQA2.out]; rfl))
            refine wp_region_quiet_below (by kernel_rfl) (by kernel_rfl) ?_
            repeat (go_big_quiet_step ((first | (go_at_call 147; exact Calls.regrown_of (v := .bool true) ((impl_recOk s _ xp xe xd _ (HVz.out.kept (below_regrown wz _ _)) hd).mono fun r w' h => ⟨by rw [h.1, HA.out], h.2⟩)))))
            refine wpQuiet_nil ?_
            intro _ hw'
            obtain ⟨⟨dq, osq⟩, hw''⟩ := hw'
            subst hw''
            go_wp2
            go_roundw
            case rel => exact ⟨1, by omega, by go_num, HOK2.out, hbz.trans ((below_regrown wz dq osq).mono hbz.size)⟩
            case measure => simp [intOf]; omega
          · obtain ⟨K, rfl⟩ : ∃ K, k = K + 1 := ⟨k - 1, by omega⟩
            have d0 := HPZ.out (K * 3) (by omega)
            have d1 := HPZ.out (K * 3 + 1) (by omega)
            have d2 := HPZ.out (K * 3 + 2) (by omega)
            rw [← Nat.add_assoc] at d1 d2
            have HQ3 := Lib.hid (show queAt s (K + 1) = ordB (intAt s.Q (K * 3)) (intAt s.Q (K * 3 + 1)) xp xe by rw [HQA2.out, show K + 1 - 1 = K by omega]; simp)
            generalize intAt s.Q (K * 3) = yp at *
            generalize intAt s.Q (K * 3 + 1) = ye at *
            generalize intAt s.Q (K * 3 + 2) = yd at *
            have y0 := cell_regrown d0
            have y1 := cell_regrown d1
            have y2 := cell_regrown d2
            have jw : IntKind.i64.wrap ((K : Int) + 1 - 1) = (K : Int) := by rw [IntKind.wrap_i64]; omega
            have k1 : (0 : Int) < (K : Int) + 1 := by omega
            have k2 : decide ((0 : Int) < (K : Int) + 1) = true := decide_eq_true k1
            have k3 : K < nq := by omega
            obtain ⟨c, hc⟩ : ∃ c, cmpR yp ye xp xe = c := ⟨_, rfl⟩
            have hco := cmpR_ord yp ye xp xe
            rw [hc] at hco
            have HC := Lib.hid hc
            clear d0 d1 d2 hc
            cases ho : ordB yp ye xp xe
            · have HNo := Lib.hid (show queB s nq = false from queB_no (k := K + 1) (by rw [HQ3.out]; exact ho) hlt)
              have g1 : decide (0 ≤ c) = true := decide_eq_true (hco.2 ho)
              clear hco ho
              refine wp_region_quiet_below (by kernel_rfl) (by kernel_rfl) ?_
              repeat (go_big_quiet_step ((first | (go_at_call 147; exact Calls.regrown_of (v := .bool true) ((impl_recOk s _ xp xe xd _ (HVz.out.kept (below_regrown wz _ _)) hd).mono fun r w' h => ⟨by rw [h.1, HA.out], h.2⟩)) | (go_at_call 68; exact Calls.regrown_of (v := .int .i64 c) ((impl_compareRecs yp ye yd xp xe xd _).mono fun r w' h => ⟨by rw [h.1, HC.out], h.2⟩)))))
              refine wpQuiet_nil ?_
              intro _ hw'
              obtain ⟨⟨dq, osq⟩, hw''⟩ := hw'
              subst hw''
              go_wp2
              go_ret
              exact ⟨by rw [HR.out, HNo.out]; rfl, HT1.trans ((hbz.trans ((below_regrown wz dq osq).mono hbz.size)).mono HT1.size)⟩
            · have HOK2 := Lib.hid (queB_succ HOK.out (by rw [HQ3.out]; exact ho))
              have g1 : decide (0 ≤ c) = false := decide_eq_false (by have := hco.1 ho; omega)
              clear hco ho
              refine wp_region_quiet_below (by kernel_rfl) (by kernel_rfl) ?_
              repeat (go_big_quiet_step ((first | (go_at_call 147; exact Calls.regrown_of (v := .bool true) ((impl_recOk s _ xp xe xd _ (HVz.out.kept (below_regrown wz _ _)) hd).mono fun r w' h => ⟨by rw [h.1, HA.out], h.2⟩)) | (go_at_call 68; exact Calls.regrown_of (v := .int .i64 c) ((impl_compareRecs yp ye yd xp xe xd _).mono fun r w' h => ⟨by rw [h.1, HC.out], h.2⟩)))))
              refine wpQuiet_nil ?_
              intro _ hw'
              obtain ⟨⟨dq, osq⟩, hw''⟩ := hw'
              subst hw''
              go_wp2
              go_roundw
              case rel => exact ⟨K + 1 + 1, by omega, by go_num, HOK2.out, hbz.trans ((below_regrown wz dq osq).mono hbz.size)⟩
              case measure => simp [intOf]; omega
      · obtain rfl : k = nq := by omega
        have HQO := Lib.hid hok
        clear hok
        go_wp2
        go_ret
        exact ⟨by rw [HR.out, HQO.out]; rfl, HT1.trans (hb.mono HT1.size)⟩
  · have HR := Lib.hid (show (decide ((nq : Int) ≤ s.r) && queB s nq) = false by simp [h6])
    unfold sesV
    go_enter Try.func118, Try.ntmps118
    go_wp2
    go_ret
    exact ⟨by rw [HR.out]; rfl, (by repeat (first | exact Below.refl _ _ | assumption | (refine Below.drew ?_) | (refine below_drewN ?_ _) | (refine Below.alloc ?_ (by first | omega | (simp; done) | (simp; omega)) _) | (refine Below.setCell ?_ (by first | omega | (simp; done) | (simp; omega)) _)))⟩
end Go.Proofs.Ytodmohepgmhipaa

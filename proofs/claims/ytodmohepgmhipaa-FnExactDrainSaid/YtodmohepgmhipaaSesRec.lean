/-
  SessionOk, in the program: one record.
-/
import Derived.Test.YtodmohepgmhipaaSesOkP
namespace Go.Proofs.Ytodmohepgmhipaa
open Go.RowKit
set_option linter.unusedVariables false
set_option maxRecDepth 100000
theorem recB_iff (s : Ses) (p e d : Int) : recB s p e d = true ↔ (0 ≤ p ∧ p ≤ (s.D.length : Int) - 1) ∧ (s.b ≤ e ∧ e ≤ s.a) ∧ 0 ≤ d ∧ d ≤ (ptAt s.D p.toNat).k := by simp [recB, inB]
theorem recB_not {s : Ses} {p e d : Int} (h : ¬ ((0 ≤ p ∧ p ≤ (s.D.length : Int) - 1) ∧ (s.b ≤ e ∧ e ≤ s.a) ∧ 0 ≤ d ∧ d ≤ (ptAt s.D p.toNat).k)) : recB s p e d = false := by
  cases hq : recB s p e d
  · rfl
  · exact absurd ((recB_iff s p e d).1 hq) h
set_option maxHeartbeats 4000000 in
theorem impl_recOk (s : Ses) (v : Value) (p e d : Int) (w : World) (h : SesV w v s) (hd : s.D.length ≤ 1048576) :
    Calls Try.prog 147 #[v, .agg #[.int .i64 p, .int .i64 e, .int .i64 d]] w fun r w' => r = .returned (.bool (recB s p e d)) ∧ Below w.heap.size w w' := by
  obtain ⟨ad, ac, aq, cd, cc, cq, nq, rfl, hn, hD, hC, hQ⟩ := h
  clear hn hC hQ
  unfold sesV
  have hbz : Below w.heap.size w ((w.alloc (.cells #[.slice ad s.D.length cd, .int .i64 s.r, .int .i64 s.b, .int .i64 s.a, .slice ac s.C.length cc, .slice aq nq cq, .bool s.z] 49)).alloc (.cells #[.int .i64 p, .int .i64 e, .int .i64 d] 106)) := (by repeat (first | exact Below.refl _ _ | assumption | (refine Below.drew ?_) | (refine below_drewN ?_ _) | (refine Below.alloc ?_ (by first | omega | (simp; done) | (simp; omega)) _) | (refine Below.setCell ?_ (by first | omega | (simp; done) | (simp; omega)) _)))
  have b0 : ((w.alloc (.cells #[.slice ad s.D.length cd, .int .i64 s.r, .int .i64 s.b, .int .i64 s.a, .slice ac s.C.length cc, .slice aq nq cq, .bool s.z] 49)).alloc (.cells #[.int .i64 p, .int .i64 e, .int .i64 d] 106)).cell? ⟨w.heap.size, 0, none⟩ = some (.slice ad s.D.length cd) := by rw [cell_of_row _ _ 0 _ _ _ (heap_alloc2_old _ _ _)]; rfl
  have b2 : ((w.alloc (.cells #[.slice ad s.D.length cd, .int .i64 s.r, .int .i64 s.b, .int .i64 s.a, .slice ac s.C.length cc, .slice aq nq cq, .bool s.z] 49)).alloc (.cells #[.int .i64 p, .int .i64 e, .int .i64 d] 106)).cell? ⟨w.heap.size, 2, none⟩ = some (.int .i64 s.b) := by rw [cell_of_row _ _ 2 _ _ _ (heap_alloc2_old _ _ _)]; rfl
  have b3 : ((w.alloc (.cells #[.slice ad s.D.length cd, .int .i64 s.r, .int .i64 s.b, .int .i64 s.a, .slice ac s.C.length cc, .slice aq nq cq, .bool s.z] 49)).alloc (.cells #[.int .i64 p, .int .i64 e, .int .i64 d] 106)).cell? ⟨w.heap.size, 3, none⟩ = some (.int .i64 s.a) := by rw [cell_of_row _ _ 3 _ _ _ (heap_alloc2_old _ _ _)]; rfl
  have r0 : ((w.alloc (.cells #[.slice ad s.D.length cd, .int .i64 s.r, .int .i64 s.b, .int .i64 s.a, .slice ac s.C.length cc, .slice aq nq cq, .bool s.z] 49)).alloc (.cells #[.int .i64 p, .int .i64 e, .int .i64 d] 106)).cell? ⟨w.heap.size + 1, 0, none⟩ = some (.int .i64 p) := by rw [cell_of_row _ _ 0 _ _ _ (heap_alloc2_new _ _ _)]; rfl
  have r1 : ((w.alloc (.cells #[.slice ad s.D.length cd, .int .i64 s.r, .int .i64 s.b, .int .i64 s.a, .slice ac s.C.length cc, .slice aq nq cq, .bool s.z] 49)).alloc (.cells #[.int .i64 p, .int .i64 e, .int .i64 d] 106)).cell? ⟨w.heap.size + 1, 1, none⟩ = some (.int .i64 e) := by rw [cell_of_row _ _ 1 _ _ _ (heap_alloc2_new _ _ _)]; rfl
  have r2 : ((w.alloc (.cells #[.slice ad s.D.length cd, .int .i64 s.r, .int .i64 s.b, .int .i64 s.a, .slice ac s.C.length cc, .slice aq nq cq, .bool s.z] 49)).alloc (.cells #[.int .i64 p, .int .i64 e, .int .i64 d] 106)).cell? ⟨w.heap.size + 1, 2, none⟩ = some (.int .i64 d) := by rw [cell_of_row _ _ 2 _ _ _ (heap_alloc2_new _ _ _)]; rfl
  have cb0 := cell_regrown b0
  have cb2 := cell_regrown b2
  have cb3 := cell_regrown b3
  have cr0 := cell_regrown r0
  have cr1 := cell_regrown r1
  have cr2 := cell_regrown r2
  have hzeq : w.heap.size + 1 < ((w.alloc (.cells #[.slice ad s.D.length cd, .int .i64 s.r, .int .i64 s.b, .int .i64 s.a, .slice ac s.C.length cc, .slice aq nq cq, .bool s.z] 49)).alloc (.cells #[.int .i64 p, .int .i64 e, .int .i64 d] 106)).heap.size := by simp
  have hDz := hD.kept hbz
  clear b0 b2 b3 r0 r1 r2 hD
  have HZ := Lib.hid (show ((w.alloc (.cells #[.slice ad s.D.length cd, .int .i64 s.r, .int .i64 s.b, .int .i64 s.a, .slice ac s.C.length cc, .slice aq nq cq, .bool s.z] 49)).alloc (.cells #[.int .i64 p, .int .i64 e, .int .i64 d] 106)) = ((w.alloc (.cells #[.slice ad s.D.length cd, .int .i64 s.r, .int .i64 s.b, .int .i64 s.a, .slice ac s.C.length cc, .slice aq nq cq, .bool s.z] 49)).alloc (.cells #[.int .i64 p, .int .i64 e, .int .i64 d] 106)) from rfl)
  clear HZ
  by_cases h0 : 0 ≤ p
  · obtain ⟨p, rfl⟩ := Int.eq_ofNat_of_zero_le h0
    by_cases h1 : p < s.D.length
    · have g1 : decide ((p : Int) < (s.D.length : Int)) = true := decide_eq_true (by omega)
      have g1n : decide (p < s.D.length) = true := decide_eq_true h1
      obtain ⟨bd, od, rfl, hpd⟩ := hDz.at p h1
      obtain ⟨_, c1, _⟩ := hpd p h1
      have s1 := cell_regrown c1
      have HI := Lib.hid (recB_iff s (p : Int) e d)
      have HN := Lib.hid (fun h => recB_not (s := s) (p := (p : Int)) (e := e) (d := d) h)
      have ep : ((p : Int)).toNat = p := rfl
      rw [ep] at HI HN
      clear hpd c1 hDz ep
      generalize hkp : (ptAt s.D p).k = pk at *
      clear hkp
      by_cases h2 : s.b ≤ e
      · have g2 : decide (s.b ≤ e) = true := decide_eq_true h2
        by_cases h3 : e ≤ s.a
        · have g3 : decide (e ≤ s.a) = true := decide_eq_true h3
          by_cases h4 : 0 ≤ d
          · have g4 : decide (0 ≤ d) = true := decide_eq_true h4
            by_cases h5 : d ≤ pk
            · have g5 : decide (d ≤ pk) = true := decide_eq_true h5
              have HR := Lib.hid (HI.out.2 ⟨⟨by omega, by omega⟩, ⟨h2, h3⟩, h4, h5⟩)
              clear h2 h3 h4 h5
              go_enter Try.func147, Try.ntmps147
              go_wp2_with fail
              generalize ((w.alloc (.cells #[.slice (some ⟨bd, od, none⟩) s.D.length cd, .int .i64 s.r, .int .i64 s.b, .int .i64 s.a, .slice ac s.C.length cc, .slice aq nq cq, .bool s.z] 49)).alloc (.cells #[.int .i64 (p : Int), .int .i64 e, .int .i64 d] 106)) = wz at *
              refine wp_region_quiet_below (by kernel_rfl) (by kernel_rfl) ?_
              repeat (go_big_quiet_step ((fail)))
              refine wpQuiet_nil ?_
              intro _ hw'
              obtain ⟨⟨dq, osq⟩, hw''⟩ := hw'
              subst hw''
              go_wp2
              go_ret
              exact ⟨by rw [HR.out]; rfl, hbz.trans ((below_regrown wz _ _).mono hbz.size)⟩
            · have g5 : decide (d ≤ pk) = false := decide_eq_false h5
              have HR := Lib.hid (HN.out (by omega))
              clear h2 h3 h4 h5
              go_enter Try.func147, Try.ntmps147
              go_wp2_with fail
              generalize ((w.alloc (.cells #[.slice (some ⟨bd, od, none⟩) s.D.length cd, .int .i64 s.r, .int .i64 s.b, .int .i64 s.a, .slice ac s.C.length cc, .slice aq nq cq, .bool s.z] 49)).alloc (.cells #[.int .i64 (p : Int), .int .i64 e, .int .i64 d] 106)) = wz at *
              refine wp_region_quiet_below (by kernel_rfl) (by kernel_rfl) ?_
              repeat (go_big_quiet_step ((fail)))
              refine wpQuiet_nil ?_
              intro _ hw'
              obtain ⟨⟨dq, osq⟩, hw''⟩ := hw'
              subst hw''
              go_wp2
              go_ret
              exact ⟨by rw [HR.out]; rfl, hbz.trans ((below_regrown wz _ _).mono hbz.size)⟩
          · have g4 : decide (0 ≤ d) = false := decide_eq_false h4
            have HR := Lib.hid (HN.out (by omega))
            clear h2 h3 h4
            go_enter Try.func147, Try.ntmps147
            go_wp2_with fail
            generalize ((w.alloc (.cells #[.slice (some ⟨bd, od, none⟩) s.D.length cd, .int .i64 s.r, .int .i64 s.b, .int .i64 s.a, .slice ac s.C.length cc, .slice aq nq cq, .bool s.z] 49)).alloc (.cells #[.int .i64 (p : Int), .int .i64 e, .int .i64 d] 106)) = wz at *
            refine wp_region_quiet_below (by kernel_rfl) (by kernel_rfl) ?_
            repeat (go_big_quiet_step ((fail)))
            refine wpQuiet_nil ?_
            intro _ hw'
            obtain ⟨⟨dq, osq⟩, hw''⟩ := hw'
            subst hw''
            go_wp2
            go_ret
            exact ⟨by rw [HR.out]; rfl, hbz.trans ((below_regrown wz _ _).mono hbz.size)⟩
        · have g3 : decide (e ≤ s.a) = false := decide_eq_false h3
          have HR := Lib.hid (HN.out (by omega))
          clear h2 h3
          go_enter Try.func147, Try.ntmps147
          go_wp2_with fail
          generalize ((w.alloc (.cells #[.slice (some ⟨bd, od, none⟩) s.D.length cd, .int .i64 s.r, .int .i64 s.b, .int .i64 s.a, .slice ac s.C.length cc, .slice aq nq cq, .bool s.z] 49)).alloc (.cells #[.int .i64 (p : Int), .int .i64 e, .int .i64 d] 106)) = wz at *
          refine wp_region_quiet_below (by kernel_rfl) (by kernel_rfl) ?_
          repeat (go_big_quiet_step ((fail)))
          refine wpQuiet_nil ?_
          intro _ hw'
          obtain ⟨⟨dq, osq⟩, hw''⟩ := hw'
          subst hw''
          go_wp2
          go_ret
          exact ⟨by rw [HR.out]; rfl, hbz.trans ((below_regrown wz _ _).mono hbz.size)⟩
      · have g2 : decide (s.b ≤ e) = false := decide_eq_false h2
        have HR := Lib.hid (HN.out (by omega))
        clear h2
        go_enter Try.func147, Try.ntmps147
        go_wp2_with fail
        generalize ((w.alloc (.cells #[.slice (some ⟨bd, od, none⟩) s.D.length cd, .int .i64 s.r, .int .i64 s.b, .int .i64 s.a, .slice ac s.C.length cc, .slice aq nq cq, .bool s.z] 49)).alloc (.cells #[.int .i64 (p : Int), .int .i64 e, .int .i64 d] 106)) = wz at *
        refine wp_region_quiet_below (by kernel_rfl) (by kernel_rfl) ?_
        repeat (go_big_quiet_step ((fail)))
        refine wpQuiet_nil ?_
        intro _ hw'
        obtain ⟨⟨dq, osq⟩, hw''⟩ := hw'
        subst hw''
        go_wp2
        go_ret
        exact ⟨by rw [HR.out]; rfl, hbz.trans ((below_regrown wz _ _).mono hbz.size)⟩
    · have g1 : decide ((p : Int) < (s.D.length : Int)) = false := decide_eq_false (by omega)
      have g1n : decide (p < s.D.length) = false := decide_eq_false h1
      have HR := Lib.hid (recB_not (s := s) (p := (p : Int)) (e := e) (d := d) (by omega))
      clear h1 hDz
      go_enter Try.func147, Try.ntmps147
      go_wp2_with fail
      generalize ((w.alloc (.cells #[.slice ad s.D.length cd, .int .i64 s.r, .int .i64 s.b, .int .i64 s.a, .slice ac s.C.length cc, .slice aq nq cq, .bool s.z] 49)).alloc (.cells #[.int .i64 (p : Int), .int .i64 e, .int .i64 d] 106)) = wz at *
      refine wp_region_quiet_below (by kernel_rfl) (by kernel_rfl) ?_
      repeat (go_big_quiet_step ((fail)))
      refine wpQuiet_nil ?_
      intro _ hw'
      obtain ⟨⟨dq, osq⟩, hw''⟩ := hw'
      subst hw''
      go_wp2
      go_ret
      exact ⟨by rw [HR.out]; rfl, hbz.trans ((below_regrown wz _ _).mono hbz.size)⟩
  · have g0 : decide (0 ≤ p) = false := decide_eq_false h0
    have HR := Lib.hid (recB_not (s := s) (p := p) (e := e) (d := d) (by omega))
    clear h0 hDz
    go_enter Try.func147, Try.ntmps147
    go_wp2_with fail
    generalize ((w.alloc (.cells #[.slice ad s.D.length cd, .int .i64 s.r, .int .i64 s.b, .int .i64 s.a, .slice ac s.C.length cc, .slice aq nq cq, .bool s.z] 49)).alloc (.cells #[.int .i64 p, .int .i64 e, .int .i64 d] 106)) = wz at *
    refine wp_region_quiet_below (by kernel_rfl) (by kernel_rfl) ?_
    repeat (go_big_quiet_step ((fail)))
    refine wpQuiet_nil ?_
    intro _ hw'
    obtain ⟨⟨dq, osq⟩, hw''⟩ := hw'
    subst hw''
    go_wp2
    go_ret
    exact ⟨by rw [HR.out]; rfl, hbz.trans ((below_regrown wz _ _).mono hbz.size)⟩
end Go.Proofs.Ytodmohepgmhipaa

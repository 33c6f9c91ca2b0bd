/-
  Chapter 6: CutOk's model.
-/
import Derived.Test.YtglldmfhjipacaaL6Ok
namespace Go.Proofs.Ytglldmfhjipacaa
open Go.RowKit
set_option linter.unusedVariables false
set_option maxRecDepth 100000
theorem okAt_of {L : List Int} {j : Nat} (hj : j ≠ 0) (h0 : 0 ≤ intAt L j) : okAt L j = true ↔ inB (intAt L j - intAt L (j - 1)) (-1) 1 = true := by
  rw [okAt_succ hj]
  simp only [decide_eq_true_eq, inB, Bool.and_eq_true]
  omega
set_option maxHeartbeats 4000000 in
theorem spec_cutOk (s : ByteArray) (k : Int) (f : Bool) (L : List Int) (x : Int) (a : Option Addr) (n cap : Nat) (w : World) (hs : s.size ≤ 1048576) (hn : L.length = n) (h : Ints w a L) (hlen : n ≤ 1048577) (hx : -9223372036854775808 ≤ x ∧ x ≤ 9223372036854775807) :
    Calls Try.prog 68 #[.agg #[.string s, .int .i64 k, .bool f], .agg #[.slice a n cap, .int .i64 x]] w fun e w' => e = .returned (.bool (cutOkB s k L x)) ∧ Below w.heap.size w w' := by
  obtain ⟨hx0, hx1⟩ := hx
  cases hp : patOk s k
  · have HR := Lib.hid (show cutOkB s k L x = false by unfold cutOkB; rw [hp]; rfl)
    have HP := Lib.hid hp; clear hp
    go_enter Try.func68, Try.ntmps68
    go_wp2_with fail
    refine (spec_patternOk _ _ _ _ (by omega)).mono ?_
    rintro e w1 ⟨rfl, hb1⟩; rw [HP.out]
    obtain ⟨hc_w1, hf_w1⟩ := bcell hb1; have HT_w1 : Below w.heap.size w w1 := below_step (by repeat (first | exact Below.refl _ _ | assumption | (refine Below.drew ?_) | (refine below_drewN ?_ _) | (refine Below.alloc ?_ (by first | omega | (simp; done) | (simp; omega)) _) | (refine Below.setCell ?_ (by first | omega | (simp; done) | (simp; omega)) _))) hb1; have hy0_w1 : w.heap.size < w1.heap.size := (by have h1 := hb1.size; (try simp at h1); omega); have hy1_w1 : w.heap.size + 1 < w1.heap.size := (by have h1 := hb1.size; (try simp at h1); omega)
    go_wp2_with fail
    go_ret
    exact ⟨by rw [HR.out]; rfl, HT_w1⟩
  · obtain ⟨hs0, hs1, hk0, hk1⟩ := (patOk_iff s k).1 hp
    have HP := Lib.hid hp
    cases hB : inB x 0 s.size
    · have hA : ¬ (0 ≤ x ∧ x ≤ s.size) := fun h => by rw [inB_yes h] at hB; cases hB
      have HR := Lib.hid (show cutOkB s k L x = false from cutOkB_no (fun h => hA ⟨h.2.1, h.2.2.1⟩))
      have HB := Lib.hid hB
      clear hp hB hA
      go_enter Try.func68, Try.ntmps68
      go_wp2_with fail
      refine (spec_patternOk _ _ _ _ (by omega)).mono ?_
      rintro e w1 ⟨rfl, hb1⟩; rw [HP.out]
      obtain ⟨hc_w1, hf_w1⟩ := bcell hb1; have HT_w1 : Below w.heap.size w w1 := below_step (by repeat (first | exact Below.refl _ _ | assumption | (refine Below.drew ?_) | (refine below_drewN ?_ _) | (refine Below.alloc ?_ (by first | omega | (simp; done) | (simp; omega)) _) | (refine Below.setCell ?_ (by first | omega | (simp; done) | (simp; omega)) _))) hb1; have hy0_w1 : w.heap.size < w1.heap.size := (by have h1 := hb1.size; (try simp at h1); omega); have hy1_w1 : w.heap.size + 1 < w1.heap.size := (by have h1 := hb1.size; (try simp at h1); omega)
      go_wp2_with (go_at_call 83; refine (spec_l1In _ _ _ _).mono ?_; rintro e w' ⟨rfl, rfl⟩; rw [HB.out])
      go_ret
      exact ⟨by rw [HR.out]; rfl, HT_w1⟩
    · have hA : 0 ≤ x ∧ x ≤ s.size := by simpa [inB] using hB
      obtain ⟨hx2, hx3⟩ := hA
      have HB := Lib.hid hB
      clear hB
      by_cases hx4 : (n : Int) = x + 1
      · obtain ⟨q, rfl⟩ := Int.eq_ofNat_of_zero_le hx2
        have hq : n = q + 1 := by omega
        subst hq
        have hl2 : (((q + 1 : Nat) : Int) != (q : Int) + 1) = false := by simp
        have hl3 : ((q : Int) + 1 != (q : Int) + 1) = false := by simp
        have HN := Lib.hid hn
        obtain ⟨b, off, rfl, hpp⟩ := h.at 0 (by omega)
        have c0 := hpp 0 (by omega)
        rw [Nat.add_zero] at c0
        have hbl := block_lt_of_cell c0
        simp only at hbl
        have n0 : 0 < q + 1 := by omega
        by_cases hz0 : intAt L 0 = 0
        · have HR := Lib.hid (show cutOkB s k L q = (stepsB L (q + 1) && allLe L (k + 1) (q + 1) && lastOkB s k L q) by
            unfold cutOkB
            rw [hp, hn]
            simp [hx3, Bool.and_assoc])
          have hst1 : stepsB L 1 = true := by simp [stepsB, okAt_zero, hz0]
          have hal1 : allLe L (k + 1) 1 = true := by simp [allLe, hz0]; omega
          have HST1 := Lib.hid hst1; have HAL1 := Lib.hid hal1
          rw [hz0] at c0
          clear hp hn hx4 hx0 hx1 hpp hst1 hal1 hz0
          go_enter Try.func68, Try.ntmps68
          go_wp2_with (first | (go_at_call 37; refine (spec_patternOk _ _ _ _ (by omega)).mono ?_; rintro e w1 ⟨rfl, hb1⟩; rw [HP.out]; obtain ⟨hc_w1, hf_w1⟩ := bcell hb1; have HT_w1 : Below w.heap.size w w1 := below_step (by repeat (first | exact Below.refl _ _ | assumption | (refine Below.drew ?_) | (refine below_drewN ?_ _) | (refine Below.alloc ?_ (by first | omega | (simp; done) | (simp; omega)) _) | (refine Below.setCell ?_ (by first | omega | (simp; done) | (simp; omega)) _))) hb1; have hy0_w1 : w.heap.size < w1.heap.size := (by have h1 := hb1.size; (try simp at h1); omega); have hy1_w1 : w.heap.size + 1 < w1.heap.size := (by have h1 := hb1.size; (try simp at h1); omega); have c1 := (HT_w1.cell (p := ⟨b, off, none⟩) hbl).trans c0) | (go_at_call 83; refine (spec_l1In _ _ _ _).mono ?_; rintro e w' ⟨rfl, rfl⟩; rw [HB.out]))
          have m1 : w1.cell? ⟨w.heap.size, 1, none⟩ = some (.int .i64 k) := by go_simp
          have m0 : w1.cell? ⟨w.heap.size, 0, none⟩ = some (.string s) := by go_simp
          have r0 : w1.cell? ⟨w.heap.size + 1, 0, none⟩ = some (.slice (some ⟨b, off, none⟩) (q + 1) cap) := by go_simp
          have r1 : w1.cell? ⟨w.heap.size + 1, 1, none⟩ = some (.int .i64 q) := by go_simp
          have hI := h.kept HT_w1
          clear h hc_w1 hf_w1 c0 c1
          go_loopw [5] (fun i wr => ∃ j : Nat, 1 ≤ j ∧ j ≤ q + 1 ∧ i = .int .i64 j ∧ stepsB L j = true ∧ allLe L (k + 1) j = true ∧ Below w1.heap.size w1 wr)
            (fun i _ => q + 1 - (intOf i).toNat)
          case atStart => exact ⟨1, by omega, by omega, rfl, HST1.out, HAL1.out, Below.refl _ _⟩
          case round =>
            obtain ⟨j, hj0, hj, rfl, hst, hal, hb⟩ := hrel
            have m1' := (hb.cell (p := ⟨w.heap.size, 1, none⟩) hy0_w1).trans m1
            have m0' := (hb.cell (p := ⟨w.heap.size, 0, none⟩) hy0_w1).trans m0
            have r0' := (hb.cell (p := ⟨w.heap.size + 1, 0, none⟩) hy1_w1).trans r0
            have r1' := (hb.cell (p := ⟨w.heap.size + 1, 1, none⟩) hy1_w1).trans r1
            clear m1 m0 r0 r1
            by_cases hlt : j < q + 1
            · obtain ⟨b', off', hbo, hpp⟩ := (hI.kept hb).at j (by rw [HN.out]; exact hlt)
              simp only [Option.some.injEq, Addr.mk.injEq, and_true] at hbo
              obtain ⟨rfl, rfl⟩ := hbo
              have d0 := hpp j (by rw [HN.out]; exact hlt)
              have d1 := hpp (j - 1) (by rw [HN.out]; omega)
              have hy := stepsB_bnd hst (j - 1) (by omega)
              have hokI := fun h0 => okAt_of (L := L) (j := j) (by omega) h0
              have hokN := fun (h0 : intAt L j < 0) => (show okAt L j = false by
                rw [okAt_succ (by omega)]; simp; omega)
              have HST := Lib.hid hst; have HAL := Lib.hid hal
              have j0 : (1 : Int) ≤ (j : Int) := by omega
              have j1 : (j : Int) - 1 < (q : Int) + 1 := by omega
              have j2 : j - 1 < q + 1 := by omega
              have j3 : (j : Int) < (q : Int) + 1 := by omega
              have jw : IntKind.i64.wrap ((j : Int) - 1) = (j : Int) - 1 := by rw [IntKind.wrap_i64]; omega
              have kw : IntKind.i64.wrap (k + 1) = k + 1 := by rw [IntKind.wrap_i64]; omega
              have JW := Lib.hid jw; have KW := Lib.hid kw
              clear jw kw hst hal hpp hI
              obtain ⟨u, huu⟩ : ∃ u, intAt L j = u := ⟨_, rfl⟩
              obtain ⟨v, hvv⟩ : ∃ v, intAt L (j - 1) = v := ⟨_, rfl⟩
              rw [huu] at d0 hokI hokN
              rw [hvv] at d1 hy hokI
              have HUU := Lib.hid huu; have HVV := Lib.hid hvv
              have HOK := Lib.hid hokI; have HON := Lib.hid hokN
              clear huu hvv hokI hokN
              cases hA : inB u 0 (k + 1)
              · have hno : (stepsB L (q + 1) && allLe L (k + 1) (q + 1)) = false := by
                  by_cases h0 : 0 ≤ u
                  · have : ¬ u ≤ k + 1 := fun h => by rw [inB_yes ⟨h0, h⟩] at hA; cases hA
                    rw [allLe_no (by rw [HUU.out]; exact this) hlt, Bool.and_false]
                  · rw [stepsB_no (HON.out (by omega)) hlt, Bool.false_and]
                have HNo := Lib.hid hno
                clear hno
                have jw := JW.out; have kw := KW.out
                go_wp2_with fail
                go_quiet ((go_at_call 83; exact quiet_of_eq (spec_l1In _ _ _ _)))
                clear jw kw
                go_wp2
                go_ret
                exact ⟨by rw [HR.out, HNo.out]; rfl, below_drewN (below_step HT_w1 hb) _⟩
              · have hu : 0 ≤ u ∧ u ≤ k + 1 := by simpa [inB] using hA
                obtain ⟨hu0, hu1⟩ := hu
                have uw : IntKind.i64.wrap (u - v) = u - v := by rw [IntKind.wrap_i64]; omega
                have UW := Lib.hid uw
                clear uw
                cases hD : inB (u - v) (-1) 1
                · have hno : (stepsB L (q + 1) && allLe L (k + 1) (q + 1)) = false := by
                    have : okAt L j = false := by
                      cases e : okAt L j
                      · rfl
                      · rw [(HOK.out hu0).1 e] at hD; cases hD
                    rw [stepsB_no this hlt, Bool.false_and]
                  have HNo := Lib.hid hno
                  clear hno
                  have jw := JW.out; have kw := KW.out; have uw := UW.out
                  go_wp2_with fail
                  go_quiet ((go_at_call 83; exact quiet_of_eq (spec_l1In _ _ _ _)))
                  clear jw kw uw
                  go_wp2
                  go_ret
                  exact ⟨by rw [HR.out, HNo.out]; rfl, below_drewN (below_step HT_w1 hb) _⟩
                · have HS2 := Lib.hid (stepsB_succ HST.out ((HOK.out hu0).2 hD))
                  have HA2 := Lib.hid (allLe_succ HAL.out (by rw [HUU.out]; exact hu1))
                  have jw := JW.out; have kw := KW.out; have uw := UW.out
                  go_wp2_with fail
                  go_quiet ((go_at_call 83; exact quiet_of_eq (spec_l1In _ _ _ _)))
                  clear jw kw uw
                  go_wp2
                  go_roundw
                  case rel => exact ⟨j + 1, by omega, by omega, by go_num, HS2.out, HA2.out, below_drewN hb _⟩
                  case measure => simp [intOf]; omega
            · obtain rfl : j = q + 1 := by omega
              obtain ⟨b', off', hbo, hpp⟩ := (hI.kept hb).at q (by rw [HN.out]; omega)
              simp only [Option.some.injEq, Addr.mk.injEq, and_true] at hbo
              obtain ⟨rfl, rfl⟩ := hbo
              have d0 := hpp q (by rw [HN.out]; omega)
              have HST := Lib.hid hst; have HAL := Lib.hid hal
              have hLast : lastOkB s k L q = (decide (intAt L q = k) || (decide (intAt L q < k) && decide ((q : Int) = s.size))) := rfl
              have q1 : (q : Int) < (q : Int) + 1 := by omega
              have q2 : q < q + 1 := by omega
              have q3 : (0 : Int) ≤ (q : Int) := by omega
              clear hpp hI hst hal
              generalize intAt L q = y at *
              have HL := Lib.hid hLast; clear hLast
              by_cases e1 : y = k
              · have b1 : (y == k) = true := by simp [e1]
                have HF := Lib.hid (show lastOkB s k L q = true by rw [HL.out]; simp [e1])
                clear e1
                go_wp2_with fail
                go_quiet (fail)
                go_wp2
                go_ret
                exact ⟨by rw [HR.out, HST.out, HAL.out, HF.out]; rfl, below_drewN (below_step HT_w1 hb) _⟩
              · have b1 : (y == k) = false := by simp [e1]
                by_cases e3 : (q : Int) = s.size
                · have b3 : ((q : Int) == (s.size : Int)) = true := by simp [e3]
                  have HF := Lib.hid (show lastOkB s k L q = decide (y < k) by rw [HL.out]; simp [e1, e3])
                  clear e1 e3
                  go_wp2_with fail
                  go_quiet (fail)
                  go_wp2
                  go_ret
                  exact ⟨by rw [HR.out, HST.out, HAL.out, HF.out]; rfl, below_drewN (below_step HT_w1 hb) _⟩
                · have b3 : ((q : Int) == (s.size : Int)) = false := by simpa using e3
                  have HF := Lib.hid (show lastOkB s k L q = false by rw [HL.out]; simp [e1, e3])
                  clear e1 e3
                  go_wp2_with fail
                  go_quiet (fail)
                  go_wp2
                  go_ret
                  exact ⟨by rw [HR.out, HST.out, HAL.out, HF.out]; rfl, below_drewN (below_step HT_w1 hb) _⟩
        · have HR := Lib.hid (show cutOkB s k L q = false from cutOkB_no (fun h => by
            have := (stepsB_at h.2.2.2.2.1) 0 (by omega)
            rw [okAt_zero] at this; exact hz0 (by simpa using this)))
          have b0 : (intAt L 0 != 0) = true := by simp [hz0]
          clear hp hn hx4 hx0 hx1 hpp hz0 h
          generalize intAt L 0 = y at *
          go_enter Try.func68, Try.ntmps68
          go_wp2_with (first | (go_at_call 37; refine (spec_patternOk _ _ _ _ (by omega)).mono ?_; rintro e w1 ⟨rfl, hb1⟩; rw [HP.out]; obtain ⟨hc_w1, hf_w1⟩ := bcell hb1; have HT_w1 : Below w.heap.size w w1 := below_step (by repeat (first | exact Below.refl _ _ | assumption | (refine Below.drew ?_) | (refine below_drewN ?_ _) | (refine Below.alloc ?_ (by first | omega | (simp; done) | (simp; omega)) _) | (refine Below.setCell ?_ (by first | omega | (simp; done) | (simp; omega)) _))) hb1; have hy0_w1 : w.heap.size < w1.heap.size := (by have h1 := hb1.size; (try simp at h1); omega); have hy1_w1 : w.heap.size + 1 < w1.heap.size := (by have h1 := hb1.size; (try simp at h1); omega); have c1 := (HT_w1.cell (p := ⟨b, off, none⟩) hbl).trans c0) | (go_at_call 83; refine (spec_l1In _ _ _ _).mono ?_; rintro e w' ⟨rfl, rfl⟩; rw [HB.out]))
          go_ret
          exact ⟨by rw [HR.out]; rfl, HT_w1⟩
      · have HR := Lib.hid (show cutOkB s k L x = false from cutOkB_no (fun h => hx4 (by rw [← hn]; exact h.2.2.2.1)))
        have c3 : ((n : Int) != x + 1) = true := by simp; omega
        clear hp hx4
        go_enter Try.func68, Try.ntmps68
        go_wp2_with (first | (go_at_call 37; refine (spec_patternOk _ _ _ _ (by omega)).mono ?_; rintro e w1 ⟨rfl, hb1⟩; rw [HP.out]; obtain ⟨hc_w1, hf_w1⟩ := bcell hb1; have HT_w1 : Below w.heap.size w w1 := below_step (by repeat (first | exact Below.refl _ _ | assumption | (refine Below.drew ?_) | (refine below_drewN ?_ _) | (refine Below.alloc ?_ (by first | omega | (simp; done) | (simp; omega)) _) | (refine Below.setCell ?_ (by first | omega | (simp; done) | (simp; omega)) _))) hb1; have hy0_w1 : w.heap.size < w1.heap.size := (by have h1 := hb1.size; (try simp at h1); omega); have hy1_w1 : w.heap.size + 1 < w1.heap.size := (by have h1 := hb1.size; (try simp at h1); omega)) | (go_at_call 83; refine (spec_l1In _ _ _ _).mono ?_; rintro e w' ⟨rfl, rfl⟩; rw [HB.out]))
        go_ret
        exact ⟨by rw [HR.out]; rfl, HT_w1⟩
end Go.Proofs.Ytglldmfhjipacaa

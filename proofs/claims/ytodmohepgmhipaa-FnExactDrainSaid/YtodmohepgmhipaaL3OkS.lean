/-
  Chapter 3: ColOk's model; FnExactColOk's walk.
-/
import Derived.Test.YtodmohepgmhipaaL3Ok
namespace Go.Proofs.Ytodmohepgmhipaa
open Go.RowKit
set_option linter.unusedVariables false
set_option maxRecDepth 100000
set_option maxHeartbeats 2000000 in
theorem spec_colOk (s : ByteArray) (k : Int) (f : Bool) (L : List Int) (a : Option Addr) (n cap : Nat) (w : World) (hs : s.size ≤ 1048576) (hn : L.length = n) (h : Ints w a L) (hlen : n ≤ 1048577) (hwf : ∀ i, i < n → -9223372036854775808 ≤ intAt L i ∧ intAt L i ≤ 9223372036854775807) :
    Calls Try.prog 112 #[.agg #[.string s, .int .i64 k, .bool f], .slice a n cap] w fun e w' => e = .returned (.bool (colOkB (patOk s k) s.size L)) ∧ Below w.heap.size w w' := by
  cases hp : patOk s k
  · have HR := Lib.hid (show colOkB false s.size L = false from rfl)
    have HP := Lib.hid hp; clear hp hwf
    go_enter Try.func112, Try.ntmps112
    go_wp2_with (go_at_call 90; refine (spec_patternOk _ _ _ _ (by omega)).mono ?_; rintro e w1 ⟨rfl, hb1⟩; rw [HP.out]; obtain ⟨hc1, hf1⟩ := bcell hb1; have hz1 : w.heap.size < w1.heap.size := (by have := hb1.size; (try simp at this); omega); have HB1 : Below w.heap.size w w1 := below_step (by repeat (first | exact Below.refl _ _ | assumption | (refine Below.drew ?_) | (refine below_drewN ?_ _) | (refine Below.alloc ?_ (by first | omega | (simp; done) | (simp; omega)) _) | (refine Below.setCell ?_ (by first | omega | (simp; done) | (simp; omega)) _))) hb1)
    go_ret
    exact ⟨by rw [HR.out]; rfl, HB1⟩
  · have hs1 : 1 ≤ s.size := ((patOk_iff s k).1 hp).1
    have HP := Lib.hid hp; clear hp
    by_cases hl : n = s.size + 1
    · have HR := Lib.hid (show colOkB true s.size L = stepsB L n by unfold colOkB; rw [hn, hl]; simp)
      have hl2 : ((n : Int) != (s.size : Int) + 1) = false := by simp; omega
      have hn1 : 2 ≤ n := by omega
      have hn0 : 0 < n := by omega
      clear hl
      have HW := Lib.hid hwf; clear hwf
      have HN := Lib.hid hn; clear hn
      obtain ⟨b, off, rfl, hp⟩ := h.at 0 (by have := HN.out; omega)
      have c0 := hp 0 (by have := HN.out; omega)
      rw [Nat.add_zero] at c0
      have hbl := block_lt_of_cell c0
      simp only at hbl
      by_cases hx : intAt L 0 = 0
      · have hk0 : okAt L 0 = true := by rw [okAt_zero]; simp [hx]
        have hst1 : stepsB L 1 = true := by simp [stepsB, hk0]
        rw [hx] at c0
        have HX := Lib.hid hx
        clear hx hk0 hp
        go_enter Try.func112, Try.ntmps112
        go_wp2_with (go_at_call 90; refine (spec_patternOk _ _ _ _ (by omega)).mono ?_; rintro e w1 ⟨rfl, hb1⟩; rw [HP.out]; obtain ⟨hc1, hf1⟩ := bcell hb1; have hz1 : w.heap.size < w1.heap.size := (by have := hb1.size; (try simp at this); omega); have HB1 : Below w.heap.size w w1 := below_step (by repeat (first | exact Below.refl _ _ | assumption | (refine Below.drew ?_) | (refine below_drewN ?_ _) | (refine Below.alloc ?_ (by first | omega | (simp; done) | (simp; omega)) _) | (refine Below.setCell ?_ (by first | omega | (simp; done) | (simp; omega)) _))) hb1; have c1 := (HB1.cell (p := ⟨b, off, none⟩) hbl).trans c0)
        have hI := h.kept HB1
        clear c0 c1 hb1 h hc1 hf1
        go_loopw [5] (fun i wr => ∃ j : Nat, 1 ≤ j ∧ j ≤ n ∧ i = .int .i64 j ∧ stepsB L j = true ∧ Below w1.heap.size w1 wr)
          (fun i _ => n - (intOf i).toNat)
        case atStart => exact ⟨1, by omega, by omega, rfl, hst1, Below.refl _ _⟩
        case round =>
          obtain ⟨j, hj0, hj, rfl, hst, hb⟩ := hrel
          clear hst1
          by_cases hlt : j < n
          · obtain ⟨b', off', hbo, hp⟩ := (hI.kept hb).at j (by rw [HN.out]; exact hlt)
            simp only [Option.some.injEq, Addr.mk.injEq, and_true] at hbo
            obtain ⟨rfl, rfl⟩ := hbo
            have d0 := hp j (by rw [HN.out]; exact hlt)
            have d1 := hp (j - 1) (by rw [HN.out]; omega)
            have hy := stepsB_bnd hst (j - 1) (by omega)
            have hx := HW.out j hlt
            have hok := okAt_succ (L := L) (k := j) (by omega)
            have HS := Lib.hid hst
            clear hst hp hI
            have hwx : ¬ intAt L j < 0 → IntKind.i64.wrap (intAt L j - intAt L (j - 1)) = intAt L j - intAt L (j - 1) := fun _ => by rw [IntKind.wrap_i64]; omega
            have HWX := Lib.hid hwx; clear hwx
            obtain ⟨x, hxx⟩ : ∃ x, intAt L j = x := ⟨_, rfl⟩
            obtain ⟨y, hyy⟩ : ∃ y, intAt L (j - 1) = y := ⟨_, rfl⟩
            rw [hxx] at hx d0 hok HWX
            rw [hyy] at hy d1 hok HWX
            have HXX := Lib.hid hxx; have HYY := Lib.hid hyy; have HOK := Lib.hid hok
            clear hxx hyy hok
            have j0 : (1 : Int) ≤ (j : Int) := by omega
            have j1 : (j : Int) - 1 < (n : Int) := by omega
            have j2 : j - 1 < n := by omega
            have jw : IntKind.i64.wrap ((j : Int) - 1) = (j : Int) - 1 := by rw [IntKind.wrap_i64]; omega
            have JW := Lib.hid jw; clear jw
            obtain ⟨z, hz⟩ : ∃ z, IntKind.i64.wrap (x - y) = z := ⟨_, rfl⟩
            rw [hz] at HWX
            have fin : (okAt L j = true ↔ inB z (-1) 1 = true ∧ ¬ x < 0) := by
              rw [HOK.out]
              simp only [inB, Bool.and_eq_true, decide_eq_true_eq]
              by_cases hx0 : x < 0
              · omega
              · have := HWX.out hx0; omega
            have FIN := Lib.hid fin
            clear fin
            cases hc : inB z (-1) 1
            · have hno : okAt L j = false := by
                cases e : okAt L j
                · rfl
                · have := (FIN.out.1 e).1; rw [hc] at this; cases this
              have HNo := Lib.hid (stepsB_no hno hlt)
              clear hno
              have jw := JW.out
              go_wp2_with fail
              go_quiet ((go_at_call 53; exact quiet_of_eq (spec_l1In _ _ _ _)))
              go_wp2
              go_ret
              exact ⟨by rw [HR.out, HNo.out]; rfl, below_drewN (below_step HB1 hb) _⟩
            · by_cases hx0 : x < 0
              · have hno : okAt L j = false := by
                  cases e : okAt L j
                  · rfl
                  · exact absurd hx0 (FIN.out.1 e).2
                have HNo := Lib.hid (stepsB_no hno hlt)
                have hd : decide (x < 0) = true := by simpa using hx0
                clear hno hx0
                have jw := JW.out
                go_wp2_with fail
                go_quiet ((go_at_call 53; exact quiet_of_eq (spec_l1In _ _ _ _)))
                go_wp2
                go_ret
                exact ⟨by rw [HR.out, HNo.out]; rfl, below_drewN (below_step HB1 hb) _⟩
              · have hyes : okAt L j = true := FIN.out.2 ⟨hc, hx0⟩
                have HST := Lib.hid (stepsB_succ HS.out hyes)
                have hd : decide (x < 0) = false := by simpa using hx0
                clear hyes hx0
                have jw := JW.out
                go_wp2_with fail
                go_quiet ((go_at_call 53; exact quiet_of_eq (spec_l1In _ _ _ _)))
                clear jw hz
                go_wp2
                go_roundw
                case rel => exact ⟨j + 1, by omega, by omega, by go_num, HST.out, below_drewN hb _⟩
                case measure => simp [intOf]; omega
          · obtain rfl : j = n := by omega
            have HSt := Lib.hid hst; clear hst
            go_wp2
            go_ret
            exact ⟨by rw [HR.out, HSt.out]; rfl, below_step HB1 hb⟩
      · have hk0 : okAt L 0 = false := by rw [okAt_zero]; simp [hx]
        have HNo := Lib.hid (stepsB_no hk0 (show 0 < n by omega))
        have hx2 : (intAt L 0 != 0) = true := by simp [hx]
        clear hx hk0 hp h
        generalize intAt L 0 = x at *
        go_enter Try.func112, Try.ntmps112
        go_wp2_with (go_at_call 90; refine (spec_patternOk _ _ _ _ (by omega)).mono ?_; rintro e w1 ⟨rfl, hb1⟩; rw [HP.out]; obtain ⟨hc1, hf1⟩ := bcell hb1; have hz1 : w.heap.size < w1.heap.size := (by have := hb1.size; (try simp at this); omega); have HB1 : Below w.heap.size w w1 := below_step (by repeat (first | exact Below.refl _ _ | assumption | (refine Below.drew ?_) | (refine below_drewN ?_ _) | (refine Below.alloc ?_ (by first | omega | (simp; done) | (simp; omega)) _) | (refine Below.setCell ?_ (by first | omega | (simp; done) | (simp; omega)) _))) hb1; have c1 := (HB1.cell (p := ⟨b, off, none⟩) hbl).trans c0)
        go_ret
        exact ⟨by rw [HR.out, HNo.out]; rfl, HB1⟩
    · have HR := Lib.hid (show colOkB true s.size L = false by unfold colOkB; rw [hn]; simp [hl])
      have hl2 : ((n : Int) != (s.size : Int) + 1) = true := by simp; omega
      clear hl hwf
      go_enter Try.func112, Try.ntmps112
      go_wp2_with (go_at_call 90; refine (spec_patternOk _ _ _ _ (by omega)).mono ?_; rintro e w1 ⟨rfl, hb1⟩; rw [HP.out]; obtain ⟨hc1, hf1⟩ := bcell hb1; have hz1 : w.heap.size < w1.heap.size := (by have := hb1.size; (try simp at this); omega); have HB1 : Below w.heap.size w w1 := below_step (by repeat (first | exact Below.refl _ _ | assumption | (refine Below.drew ?_) | (refine below_drewN ?_ _) | (refine Below.alloc ?_ (by first | omega | (simp; done) | (simp; omega)) _) | (refine Below.setCell ?_ (by first | omega | (simp; done) | (simp; omega)) _))) hb1)
      go_ret
      exact ⟨by rw [HR.out]; rfl, HB1⟩
end Go.Proofs.Ytodmohepgmhipaa

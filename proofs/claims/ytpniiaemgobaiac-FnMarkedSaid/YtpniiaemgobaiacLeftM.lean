/-
  Chapter 17: Leftmost's model.
-/
import Derived.Test.YtpniiaemgobaiacFdI
import Derived.Test.YtpniiaemgobaiacFoundIn
import Derived.Lib.QuietBelow
namespace Go.Proofs.Ytpniiaemgobaiac
open Go.RowKit
set_option linter.unusedVariables false
set_option maxRecDepth 100000
/-- which one of the first k is the best -/
def bestIx (l : List Fd) (e : Int) : Nat → Option Nat
  | 0 => none
  | k + 1 => if fromP e (fdAt l k) && (match bestIx l e k with | none => true | some j => ltF (fdAt l k) (fdAt l j)) then some k else bestIx l e k
def optI : Option Nat → Int
  | none => -1
  | some j => (j : Int)
theorem bestIx_lt {l : List Fd} {e : Int} {j : Nat} : ∀ {k}, bestIx l e k = some j → j < k ∧ e ≤ (fdAt l j).f
  | 0, h => by cases h
  | k + 1, h => by
    by_cases hf : e ≤ (fdAt l k).f
    · have hp : fromP e (fdAt l k) = true := decide_eq_true hf
      cases hb : bestIx l e k with
      | none =>
        rw [bestIx, hp, hb] at h
        simp only [Bool.and_self, if_true, Option.some.injEq] at h
        subst h
        exact ⟨by omega, hf⟩
      | some i =>
        rw [bestIx, hp, hb] at h
        simp only [Bool.true_and] at h
        split at h
        · injection h with h; subst h; exact ⟨by omega, hf⟩
        · injection h with h; subst h; have := bestIx_lt hb; exact ⟨by omega, this.2⟩
    · have hp : fromP e (fdAt l k) = false := decide_eq_false hf
      rw [bestIx, hp, Bool.false_and, if_neg Bool.false_ne_true] at h
      have := bestIx_lt h; exact ⟨by omega, this.2⟩
theorem bestIx_is (l : List Fd) (e : Int) : ∀ k, k ≤ l.length → bestP ltF (fromP e) (l.take k) = (bestIx l e k).map (fdAt l)
  | 0, _ => rfl
  | k + 1, h => by
    have ih := bestIx_is l e k (by omega)
    rw [fdAt_take l k (by omega), bestP_snoc, ih, bestIx]
    cases hb : bestIx l e k with
    | none => cases hp : fromP e (fdAt l k) <;> simp [aheadB]
    | some j =>
      cases hp : fromP e (fdAt l k)
      · simp
      · cases hl : ltF (fdAt l k) (fdAt l j) <;> simp [aheadB, hl]
theorem bestIx_no {l : List Fd} {e : Int} {k : Nat} (h : ¬ e ≤ (fdAt l k).f) : bestIx l e (k + 1) = bestIx l e k := by
  rw [bestIx, show fromP e (fdAt l k) = false from decide_eq_false h]; rfl
theorem bestIx_first {l : List Fd} {e : Int} {k : Nat} (h : e ≤ (fdAt l k).f) (hb : bestIx l e k = none) : bestIx l e (k + 1) = some k := by
  rw [bestIx, show fromP e (fdAt l k) = true from decide_eq_true h, hb]; rfl
theorem bestIx_next {l : List Fd} {e : Int} {k j : Nat} (h : e ≤ (fdAt l k).f) (hb : bestIx l e k = some j) : bestIx l e (k + 1) = if ltF (fdAt l k) (fdAt l j) = true then some k else some j := by
  rw [bestIx, show fromP e (fdAt l k) = true from decide_eq_true h, hb]; simp
set_option maxHeartbeats 1000000 in
theorem spec_l17Less (f1 t1 v1 f2 t2 v2 : Int) (w : World) :
    Calls Try.prog 49 #[.agg #[.int .i64 f1, .int .i64 t1, .int .i64 v1], .agg #[.int .i64 f2, .int .i64 t2, .int .i64 v2]] w fun e w' => e = .returned (.bool (ltF ⟨f1, t1, v1⟩ ⟨f2, t2, v2⟩)) ∧ Below w.heap.size w w' := by
  by_cases h : f1 = f2
  · subst h
    have HL : Hid (ltF ⟨f1, t1, v1⟩ ⟨f1, t2, v2⟩ = decide (t2 < t1)) := by
      show _ = _
      unfold ltF; rw [decide_eq_decide]; show (f1 < f1 ∨ (f1 = f1 ∧ t2 < t1)) ↔ t2 < t1; omega
    have e0 : (f1 != f1) = false := by simp
    go_enter Try.func49, Try.ntmps49
    go_wp2
    go_ret
    exact ⟨by rw [HL.out]; rfl, (by repeat (first | exact Below.refl _ _ | assumption | (refine Below.drew ?_) | (refine below_drewN ?_ _) | (refine Below.alloc ?_ (by first | omega | (simp; done) | (simp; omega)) _) | (refine Below.setCell ?_ (by first | omega | (simp; done) | (simp; omega)) _)))⟩
  · have HL : Hid (ltF ⟨f1, t1, v1⟩ ⟨f2, t2, v2⟩ = decide (f1 < f2)) := by
      show _ = _
      unfold ltF; rw [decide_eq_decide]; show (f1 < f2 ∨ (f1 = f2 ∧ t2 < t1)) ↔ f1 < f2; omega
    have e0 : (f1 != f2) = true := by simp [h]
    clear h
    go_enter Try.func49, Try.ntmps49
    go_wp2
    go_ret
    exact ⟨by rw [HL.out]; rfl, (by repeat (first | exact Below.refl _ _ | assumption | (refine Below.drew ?_) | (refine below_drewN ?_ _) | (refine Below.alloc ?_ (by first | omega | (simp; done) | (simp; omega)) _) | (refine Below.setCell ?_ (by first | omega | (simp; done) | (simp; omega)) _)))⟩
theorem less_at (x y : Fd) (b : Bool) (hb : ltF x y = b) (w : World) :
    Calls Try.prog 49 #[.agg #[.int .i64 x.f, .int .i64 x.t, .int .i64 x.w], .agg #[.int .i64 y.f, .int .i64 y.t, .int .i64 y.w]] w fun e w' => e = .returned (.bool b) ∧ Below w.heap.size w w' :=
  (spec_l17Less x.f x.t x.w y.f y.t y.w w).mono fun _ _ h => ⟨by rw [h.1, hb], h.2⟩
set_option maxHeartbeats 8000000 in
theorem spec_leftmost (l : List Fd) (n : Nat) (a : Option Addr) (cap : Nat) (w : World) (hl : l.length = n) (h : Ints w a (fdI l)) (hlen : n ≤ 1048576) :
    Calls Try.prog 14 #[.slice a n cap] w fun e w' => ∃ a' cap', e = .returned (.slice a' (leftV l).length cap') ∧ OwnM 30 3 w' w.heap.size a' (leftV l).length cap' (fdI (leftV l)) ∧ Below w.heap.size w w' := by
  obtain ⟨i0, hi, ht0, ht1, ht2⟩ := info_parts found_info
  have HF := Lib.hid (show (fdI l).length = n * 3 by rw [fdI_length, hl])
  have HL := Lib.hid hl
  have hV : leftV l = if foundOkB (fdI l) l.length = true then leftF l else [] := rfl
  have hfine := found_fine l
  rw [hl] at hV hfine
  obtain ⟨ok, hok⟩ : ∃ ok, foundOkB (fdI l) n = ok := ⟨_, rfl⟩
  rw [hok] at hV hfine
  have HOK := Lib.hid hok
  have hO0 : OwnM 30 3 (w.alloc (.cells #[] 30)) w.heap.size (some ⟨w.heap.size, 0, none⟩) 0 0 (fdI []) := ⟨rfl, World.ownsRow_made w #[] 0 (Nat.le_refl _) (by decide) rfl⟩
  have hB0 : Below w.heap.size w (w.alloc (.cells #[] 30)) := (Below.refl _ _).alloc (Nat.le_refl _) _
  have HH := Lib.hid (h.kept hB0)
  have HH0 := Lib.hid h
  have HO0 := Lib.hid hO0; have HB0 := Lib.hid hB0
  clear hl hok h hO0 hB0
  cases ok
  · have HV := Lib.hid (show leftV l = [] from hV)
    clear hV hfine
    go_enter Try.func14, Try.ntmps14
    go_wp2_with fail
    refine (spec_foundOk (fdI l) n a cap _ HF.out HH.out (by omega)).mono ?_
    rintro e w1 ⟨rfl, hb1⟩
    rw [HOK.out]
    have HO1 := Lib.hid (HO0.out.kept hb1)
    have HB1 := Lib.hid (below_step HB0.out hb1)
    clear hb1
    go_wp2_with fail
    go_ret
    rw [HV.out]
    exact ⟨_, _, rfl, HO1.out, HB1.out⟩
  · have HV := Lib.hid (show leftV l = passF (orderF l) 0 from hV)
    obtain ⟨hf, hn20⟩ := hfine.1 rfl
    have HFI := Lib.hid hf
    have HST := Lib.hid (fun e => left_step l (fun x hx => (hf x hx).2.1) e)
    have HIX := Lib.hid (fun e => bestIx_is l e n (by rw [HL.out]; exact Nat.le_refl _))
    rw [show l.take n = l from List.take_of_length_le (by rw [HL.out]; exact Nat.le_refl _)] at HIX
    clear hV hfine hf
    go_enter Try.func14, Try.ntmps14
    go_wp2_with fail
    refine (spec_foundOk (fdI l) n a cap _ HF.out HH.out (by omega)).mono ?_
    rintro e w1 ⟨rfl, hb1⟩
    rw [HOK.out]
    have HH1 := Lib.hid (HH.out.kept hb1)
    have HO1 := Lib.hid (HO0.out.kept hb1)
    have HB1 := Lib.hid (below_step HB0.out hb1)
    have hz1 : w.heap.size < w1.heap.size := by have := hb1.size; simp at this; omega
    clear hb1 HH HO0 HB0
    go_wp2_with fail
    go_loopw [3, 4, 5, 6] (fun c e _ _ wr => ∃ (m cp g : Nat) (e0 : Int) (out : List Fd), e = .int .i64 e0 ∧ 0 ≤ e0 ∧ e0 ≤ 200 ∧ c = .slice (some ⟨g, 0, none⟩) m cp ∧ out.length = m ∧ (m : Int) ≤ e0 ∧ OwnM 30 3 wr w.heap.size (some ⟨g, 0, none⟩) m cp (fdI out) ∧ Ints wr a (fdI l) ∧ leftV l = out ++ passF (orderF l) e0 ∧ Below w.heap.size w wr)
      (fun _ e _ _ _ => 201 - (intOf e).toNat)
    case atStart => exact ⟨0, 0, _, 0, [], rfl, by omega, by omega, rfl, rfl, by omega, HO1.out, HH1.out, HV.out, HB1.out⟩
    case round =>
      obtain ⟨m, cp, g, e0, out, rfl, he0, he1, rfl, hm, hme, hO, hA, hp, hb⟩ := hrel
      have HM := Lib.hid hm; have HO := Lib.hid hO; have HB := Lib.hid hb; have HP := Lib.hid hp; have HA := Lib.hid hA
      have hst := HST.out e0
      rw [HIX.out e0] at hst
      obtain ⟨B0, hB0⟩ : ∃ B0, bestIx l e0 n = B0 := ⟨_, rfl⟩
      rw [hB0] at hst
      have HBB := Lib.hid hB0
      have hblt : ∀ j, B0 = some j → j < n ∧ e0 ≤ (fdAt l j).f := fun j hj => bestIx_lt (hB0.trans hj)
      have HLT := Lib.hid hblt; have HST2 := Lib.hid hst
      clear hm hO hp hA hst hB0 hblt hb
      obtain ⟨wo, rfl⟩ : ∃ wo : World, wo = wr := ⟨_, rfl⟩
      go_wp2_with fail
      go_loopw [5, 6] (fun b i wi => ∃ k : Nat, k ≤ n ∧ i = .int .i64 (k : Int) ∧ b = .int .i64 (optI (bestIx l e0 k)) ∧ Below wo.heap.size wo wi)
        (fun _ i _ => n - (intOf i).toNat)
      case atStart => exact ⟨0, by omega, rfl, rfl, Below.refl _ _⟩
      case round =>
        obtain ⟨k, hk, rfl, rfl, hbi⟩ := hrel
        by_cases hlt : k < n
        · obtain ⟨b, off, rfl, hq⟩ := (HA.out.kept hbi).at (k * 3) (by rw [HF.out]; omega)
          have c0 := hq (k * 3) (by rw [HF.out]; omega)
          have c1 := hq (k * 3 + 1) (by rw [HF.out]; omega)
          have c2 := hq (k * 3 + 2) (by rw [HF.out]; omega)
          rw [← Nat.add_assoc] at c1 c2
          obtain ⟨q0, q1, q2⟩ := fdI_at l k (by rw [HL.out]; exact hlt)
          rw [q0] at c0; rw [q1] at c1; rw [q2] at c2
          have hno := bestIx_no (l := l) (e := e0) (k := k)
          have hfi := bestIx_first (l := l) (e := e0) (k := k)
          have hnx := fun j => bestIx_next (l := l) (e := e0) (k := k) (j := j)
          by_cases hf : e0 ≤ (fdAt l k).f
          · cases hbk : bestIx l e0 k with
            | none =>
              have HN := Lib.hid (hfi hf hbk)
              clear hno hfi hnx hbk hq q0 q1 q2
              generalize (fdAt l k).f = f at *
              generalize (fdAt l k).t = t at *
              generalize (fdAt l k).w = v at *
              have g0 : optI none = -1 := rfl
              rw [g0]
              have k0 := cell_regrown c0
              have f0 : decide (e0 ≤ f) = true := decide_eq_true hf
              clear g0 c0 c1 c2
              go_wp2_with fail
              refine wp_region_quiet_below (by kernel_rfl) (by kernel_rfl) ?_
              repeat (go_big_quiet_step (fail))
              refine wpQuiet_nil ?_
              intro _ hw'
              obtain ⟨⟨dq, osq⟩, hw''⟩ := hw'
              subst hw''
              have HBX := Lib.hid (hbi.trans ((below_regrown wr dq osq).mono hbi.size))
              clear k0
              go_wp2_with fail
              go_roundw
              case rel => exact ⟨k + 1, by omega, by go_num, by rw [HN.out]; rfl, HBX.out⟩
              case measure => simp [intOf]; omega
            | some j =>
              have hj := (bestIx_lt hbk).1
              obtain ⟨r0, r1, r2⟩ := fdI_at l j (by rw [HL.out]; omega)
              have d0 := hq (j * 3) (by rw [HF.out]; omega)
              have d1 := hq (j * 3 + 1) (by rw [HF.out]; omega)
              have d2 := hq (j * 3 + 2) (by rw [HF.out]; omega)
              rw [← Nat.add_assoc] at d1 d2
              rw [r0] at d0; rw [r1] at d1; rw [r2] at d2
              have hjn : j < n := by omega
              have g0 : optI (some j) = (j : Int) := rfl
              rw [g0]
              have f0 : decide (e0 ≤ (fdAt l k).f) = true := decide_eq_true hf
              have f1 : decide ((j : Int) < 0) = false := by simp
              obtain ⟨lb, hlb⟩ : ∃ lb, ltF (fdAt l k) (fdAt l j) = lb := ⟨_, rfl⟩
              have HN := Lib.hid (hnx j hf hbk)
              rw [hlb] at HN
              have C1 := Lib.hid (fun W => less_at (fdAt l k) (fdAt l j) lb hlb W)
              clear hno hfi hnx hbk hq q0 q1 q2 r0 r1 r2 g0 hlb
              generalize (fdAt l k).f = f at *
              generalize (fdAt l k).t = t at *
              generalize (fdAt l k).w = v at *
              generalize (fdAt l j).f = f2 at *
              generalize (fdAt l j).t = t2 at *
              generalize (fdAt l j).w = v2 at *
              have k0 := cell_regrown c0; have k1 := cell_regrown c1; have k2 := cell_regrown c2
              have k3 := cell_regrown d0; have k4 := cell_regrown d1; have k5 := cell_regrown d2
              clear c0 c1 c2 d0 d1 d2
              cases lb
              · go_wp2_with fail
                refine wp_region_quiet_below (by kernel_rfl) (by kernel_rfl) ?_
                repeat (go_big_quiet_step (((go_at_call 49; with_reducible exact Calls.regrown_of (C1.out _)))))
                refine wpQuiet_nil ?_
                intro _ hw'
                obtain ⟨⟨dq, osq⟩, hw''⟩ := hw'
                subst hw''
                have HBX := Lib.hid (hbi.trans ((below_regrown wr dq osq).mono hbi.size))
                clear k0 k1 k2 k3 k4 k5
                go_wp2_with fail
                go_roundw
                case rel => exact ⟨k + 1, by omega, by go_num, by rw [HN.out]; rfl, HBX.out⟩
                case measure => simp [intOf]; omega
              · go_wp2_with fail
                refine wp_region_quiet_below (by kernel_rfl) (by kernel_rfl) ?_
                repeat (go_big_quiet_step (((go_at_call 49; with_reducible exact Calls.regrown_of (C1.out _)))))
                refine wpQuiet_nil ?_
                intro _ hw'
                obtain ⟨⟨dq, osq⟩, hw''⟩ := hw'
                subst hw''
                have HBX := Lib.hid (hbi.trans ((below_regrown wr dq osq).mono hbi.size))
                clear k0 k1 k2 k3 k4 k5
                go_wp2_with fail
                go_roundw
                case rel => exact ⟨k + 1, by omega, by go_num, by rw [HN.out]; rfl, HBX.out⟩
                case measure => simp [intOf]; omega
          · have HN := Lib.hid (hno hf)
            clear hno hfi hnx hq q0 q1 q2
            generalize (fdAt l k).f = f at *
            generalize (fdAt l k).t = t at *
            generalize (fdAt l k).w = v at *
            obtain ⟨bi, hbi2⟩ : ∃ bi, optI (bestIx l e0 k) = bi := ⟨_, rfl⟩
            have HBI2 := Lib.hid hbi2
            rw [hbi2]
            have k0 := cell_regrown c0
            have f0 : decide (e0 ≤ f) = false := decide_eq_false hf
            clear hbi2 c0 c1 c2
            go_wp2_with fail
            refine wp_region_quiet_below (by kernel_rfl) (by kernel_rfl) ?_
            repeat (go_big_quiet_step (fail))
            refine wpQuiet_nil ?_
            intro _ hw'
            obtain ⟨⟨dq, osq⟩, hw''⟩ := hw'
            subst hw''
            have HBX := Lib.hid (hbi.trans ((below_regrown wr dq osq).mono hbi.size))
            clear k0
            go_wp2_with fail
            go_roundw
            case rel => exact ⟨k + 1, by omega, by go_num, by rw [HN.out, HBI2.out], HBX.out⟩
            case measure => simp [intOf]; omega
        · obtain rfl : k = n := by omega
          rw [HBB.out]
          cases B0 with
          | none =>
            have g0 : optI none = -1 := rfl
            rw [g0]
            have HE := Lib.hid (show leftV l = out by rw [HP.out, HST2.out]; simp)
            have HBF := Lib.hid (HB.out.trans (hbi.mono HB.out.size))
            have HOF := Lib.hid (HO.out.kept hbi)
            clear g0 hbi
            go_wp2_with fail
            go_ret
            rw [HE.out, HM.out]
            exact ⟨_, _, rfl, HOF.out, HBF.out⟩
          | some j =>
            obtain ⟨hj, hje⟩ := HLT.out j rfl
            have g0 : optI (some j) = (j : Int) := rfl
            rw [g0]
            obtain ⟨b, off, rfl, hq⟩ := (HA.out.kept hbi).at (j * 3) (by rw [HF.out]; omega)
            have c0 := hq (j * 3) (by rw [HF.out]; omega)
            have c1 := hq (j * 3 + 1) (by rw [HF.out]; omega)
            have c2 := hq (j * 3 + 2) (by rw [HF.out]; omega)
            rw [← Nat.add_assoc] at c1 c2
            obtain ⟨q0, q1, q2⟩ := fdI_at l j (by rw [HL.out]; exact hj)
            rw [q0] at c0; rw [q1] at c1; rw [q2] at c2
            have hx := HFI.out _ (fdAt_mem (l := l) (i := j) (by rw [HL.out]; exact hj))
            have hP2 : leftV l = out ++ (fdAt l j :: passF (orderF l) (fdAt l j).t) := by rw [HP.out, HST2.out]; simp
            obtain ⟨x, hxe⟩ : ∃ x, fdAt l j = x := ⟨_, rfl⟩
            rw [hxe] at hx hP2 c0 c1 c2 q1
            rw [hxe] at hje
            obtain ⟨f, t, v⟩ := x
            simp only at c0 c1 c2 q1 hx hje
            have hbz : Below wr.heap.size wr (wr.alloc (.cells #[.int .i64 f, .int .i64 t, .int .i64 v] 30)) := (Below.refl _ _).alloc (Nat.le_refl _) _
            have hBW := HB.out.trans (hbi.mono HB.out.size)
            have hzw := hBW.size
            have HBW := Lib.hid (hBW.trans (hbz.mono hBW.size))
            have HK := Lib.hid ((HO.out.kept hbi).kept hbz)
            have HCC := Lib.hid (cells_new wr #[Value.int .i64 f, .int .i64 t, .int .i64 v] 30)
            have HRL := Lib.hid (show (fdI (out ++ [⟨f, t, v⟩])).length = (m + 1) * 3 by rw [fdI_length, List.length_append, HM.out]; rfl)
            have HR := Lib.hid (show fdI (out ++ [⟨f, t, v⟩]) = fdI out ++ [f, t, v] from fdI_append _ _)
            have HQ1 := Lib.hid q1
            have HP2 := Lib.hid hP2
            obtain ⟨x0, x1, x2, x3, x4⟩ := hx
            clear hq q0 q1 q2 hP2 hxe hbz hBW hbi g0
            go_wp2_with (at_builtin; go_must (refine wpList_append_own _ rfl _ _ 24 rfl w.heap.size 30 i0 (.agg #[.int .i64 0, .int .i64 0, .int .i64 0]) 3 24 Try.underlying24 hi ht0 ht1 ht2 rfl (by decide) _ _ _ rfl HK.out.2 ⟨wr.heap.size, 0, none⟩ 1 1 [.int .i64 f, .int .i64 t, .int .i64 v] rfl rfl HCC.out (by simp [Value.oneCell']) (by unfold maxLen; omega) (by omega) (by simp; omega) ?_; intro v' w4 hown' hg _; replace hg : World.grownBy _ w4 (Value.slice (some ⟨g, 0, none⟩) m cp).ownBlock := hg; obtain ⟨g4, hg4, cap4, hO4⟩ : ∃ g4, ∃ _ : True, ∃ cap4, v' = .slice (some ⟨g4, 0, none⟩) (m + 1) cap4 ∧ OwnM 30 3 w4 w.heap.size (some ⟨g4, 0, none⟩) (m + 1) cap4 (fdI (out ++ [⟨f, t, v⟩])) := (by obtain ⟨a4, cap4, e4, hO'⟩ := OwnM.shape HRL.out (by rw [HR.out, List.map_append]; exact hown'); obtain ⟨g4, rfl, _⟩ := hO'.head 0 (by omega); exact ⟨g4, trivial, cap4, e4, hO'⟩); obtain ⟨rfl, hO4⟩ := hO4; have hB4 := HBW.out.trans (HK.out.turn (by simp; omega) hg); obtain ⟨b5, off5, hbe, hq5⟩ := (HH0.out.kept hB4).at (j * 3 + 1) (by rw [HF.out]; omega); cases hbe; have c5 := hq5 (j * 3 + 1) (by rw [HF.out]; omega); rw [← Nat.add_assoc, HQ1.out] at c5; have HO4 := Lib.hid hO4; have HB4 := Lib.hid hB4; clear hown' hg hO4 hB4 hq5 hg4))
            go_roundw
            case rel => exact ⟨m + 1, cap4, g4, t, out ++ [⟨f, t, v⟩], rfl, by omega, by omega, rfl, by rw [List.length_append, HM.out]; rfl, by omega, HO4.out, HH0.out.kept HB4.out, by rw [HP2.out]; simp, HB4.out⟩
            case measure => simp [intOf]; omega
end Go.Proofs.Ytpniiaemgobaiac

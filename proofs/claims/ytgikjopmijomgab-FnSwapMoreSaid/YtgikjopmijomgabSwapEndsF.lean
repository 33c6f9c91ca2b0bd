/-
  FnSwapEnds: the walk (as XEnds, by names; by hand: the drawer, the last line).
-/
import Derived.Test.YtgikjopmijomgabSwapLeast
import Derived.Test.YtgikjopmijomgabL18Es
import Derived.Test.YtgikjopmijomgabEndsPre
import Derived.Test.YtgikjopmijomgabSameEnds
import Derived.Test.YtgikjopmijomgabSwapDraw
namespace Go.Proofs.Ytgikjopmijomgab
open Go.RowKit
set_option linter.unusedVariables false
set_option maxRecDepth 100000
theorem swEndsL_len (s : ByteArray) (K : Int) (f : Bool) (r : ByteArray) : (swEndsL s K f r).length ≤ 402 := by
  unfold swEndsL; split
  · rename_i h
    simp only [Bool.and_eq_true, decide_eq_true_eq] at h
    rw [endF_length]
    have := endN_le (swD s r f) K (r.size + 1)
    omega
  · simp
theorem swEnds_all {s : ByteArray} {K : Int} {f : Bool} {r : ByteArray} (hp : patOk s K = true) (hr : r.size ≤ 200) : swEndsL s K f r = endF (swD s r f) K (r.size + 1) := by
  unfold swEndsL; rw [hp]; simp [hr]
theorem endsL_count {s : ByteArray} {K : Int} {f : Bool} {r : ByteArray} : (endsL s K f r).length ≤ endN (lastD s r f) K (r.size + 1) * 2 := by
  unfold endsL; split
  · rw [endF_length]; exact Nat.le_refl _
  · simp
/-- the end at a place, in the list of all -/
theorem endF_at (d : Nat → Int) (K : Int) (k : Nat) (hk : d k ≤ K) : ∀ m, k < m → endN d K k < endN d K m ∧ intAt (endF d K m) (endN d K k * 2) = k ∧ intAt (endF d K m) (endN d K k * 2 + 1) = d k := by
  intro m
  induction m with
  | zero => intro h; omega
  | succ m ih =>
    intro hm
    by_cases e : k = m
    · subst e
      have e0 : endN d K (k + 1) = endN d K k + 1 := by simp only [endN]; rw [if_pos hk]
      have e1 : endF d K (k + 1) = endF d K k ++ [(k : Int), d k] := by simp only [endF]; rw [if_pos hk]
      have hl := endF_length d K k
      refine ⟨by omega, ?_, ?_⟩
      · rw [e1, intAt_right' (j := 0) (by omega)]; rfl
      · rw [e1, intAt_right' (j := 1) (by omega)]; rfl
    · obtain ⟨h1, h2, h3⟩ := ih (by omega)
      have hl := endF_length d K m
      by_cases c : d m ≤ K
      · have e0 : endN d K (m + 1) = endN d K m + 1 := by simp only [endN]; rw [if_pos c]
        have e1 : endF d K (m + 1) = endF d K m ++ [(m : Int), d m] := by simp only [endF]; rw [if_pos c]
        refine ⟨by omega, ?_, ?_⟩
        · rw [e1, intAt_left (by omega)]; exact h2
        · rw [e1, intAt_left (by omega)]; exact h3
      · have e0 : endN d K (m + 1) = endN d K m := by simp only [endN]; rw [if_neg c]
        have e1 : endF d K (m + 1) = endF d K m := by simp only [endF]; rw [if_neg c]
        rw [e0, e1]; exact ⟨h1, h2, h3⟩
theorem endN_yes {d : Nat → Int} {K : Int} {k : Nat} (h : d k ≤ K) : endN d K (k + 1) = endN d K k + 1 := by simp only [endN]; rw [if_pos h]
theorem endN_no {d : Nat → Int} {K : Int} {k : Nat} (h : ¬ d k ≤ K) : endN d K (k + 1) = endN d K k := by simp only [endN]; rw [if_neg h]
theorem leastW_yes {s r : ByteArray} {f : Bool} {e j : Nat} {d x : Int} (hd : swDI s (r.extract j e) f = d) (hx : leastW s r f e j = x) (h : d < x) : leastW s r f e (j + 1) = d := by simp only [leastW]; rw [hd, hx, if_pos h]
theorem leastW_no {s r : ByteArray} {f : Bool} {e j : Nat} {d x : Int} (hd : swDI s (r.extract j e) f = d) (hx : leastW s r f e j = x) (h : ¬ d < x) : leastW s r f e (j + 1) = x := by simp only [leastW]; rw [hd, hx, if_neg h]
theorem swDist_of (s t : ByteArray) (f : Bool) (d : Int) (hs : s.size ≤ 1048576) (ht : t.size ≤ 1048576) (hd : swDI s t f = d) (w : World) :
    Calls Try.prog 16 #[.string s, .string t, .bool f] w fun e w' => e = .returned (.int .i64 d) ∧ Below w.heap.size w w' :=
  (impl_swapDist s t f w hs ht).mono fun _ _ h => ⟨by rw [h.1, hd], h.2⟩
set_option maxHeartbeats 4000000 in
theorem law_FnSwapEnds (a : Option Addr) (len cap : Nat) (z : List Int) (w : World) (hr : IsRow .u8 w a len cap z) :
    Calls Try.prog 7 #[.slice a len cap] w fun e w' => e = .returned (.bool true) ∧ Below w.heap.size w w' := by
  by_cases hl : len ≤ 1048576
  · have hbig : decide (1048576 < (len : Int)) = false := by simp; omega
    go_enter Try.func7, Try.ntmps7
    go_wp2_with (go_at_call 9; refine (laws_big _ _ _ _ (by omega)).mono ?_; rintro e w' ⟨rfl, rfl⟩)
    refine (drawSwapEnds _ _ _ _ _ hr hl).mono ?_
    rintro e w1 ⟨s, k, f, t, rfl, hs, hk, ht, hb1⟩
    go_wp2_with fail
    have hn0 : (w1.alloc (.cells #[.string s, .int .i64 k, .bool f] 36)).cell? ⟨w1.heap.size, 0, none⟩ = some (.string s) := by go_simp
    have hn1 : (w1.alloc (.cells #[.string s, .int .i64 k, .bool f] 36)).cell? ⟨w1.heap.size, 1, none⟩ = some (.int .i64 k) := by go_simp
    have hn2 : (w1.alloc (.cells #[.string s, .int .i64 k, .bool f] 36)).cell? ⟨w1.heap.size, 2, none⟩ = some (.bool f) := by go_simp
    have HB := hb1.alloc hb1.size (.cells #[.string s, .int .i64 k, .bool f] 36)
    have hBl : w1.heap.size < (w1.alloc (.cells #[.string s, .int .i64 k, .bool f] 36)).heap.size := by simp
    generalize (w1.alloc (.cells #[.string s, .int .i64 k, .bool f] 36)) = V at *
    generalize w1.heap.size = B at *
    have hln := swEndsL_len s k f t
    have hs1 : s.size ≤ 1048576 := by omega
    have ht1 : t.size ≤ 1048576 := by omega
    clear hb1
    refine (impl_swapEnds s k f t _ hs1 ht1).mono ?_
    rintro e w3 ⟨a3, n3, cap3, rfl, hL, hb3⟩
    have hn0 := (hb3.cell (p := ⟨B, 0, none⟩) (by show B < _; omega)).trans hn0
    have hn1 := (hb3.cell (p := ⟨B, 1, none⟩) (by show B < _; omega)).trans hn1
    have hn2 := (hb3.cell (p := ⟨B, 2, none⟩) (by show B < _; omega)).trans hn2
    have HB := HB.trans (hb3.mono HB.size)
    have hBl : B < w3.heap.size := by have := hb3.size; omega
    have hn : n3 ≤ 201 := by have := hL.len; omega
    have hln2 : n3 ≤ 1048577 := by omega
    have HLN := Lib.hid hL.len
    go_wp2_with fail
    refine (spec_swapEnds s k f t _ hs1 ht1).mono ?_
    rintro e w4 ⟨a4, n4, cap4, rfl, hZ, hb4⟩
    have hn4 : n4 = n3 := by have h1 := hZ.len; have h2 := HLN.out; omega
    subst hn4
    have hL := hL.kept hb4
    have hn0 := (hb4.cell (p := ⟨B, 0, none⟩) (by show B < _; omega)).trans hn0
    have hn1 := (hb4.cell (p := ⟨B, 1, none⟩) (by show B < _; omega)).trans hn1
    have hn2 := (hb4.cell (p := ⟨B, 2, none⟩) (by show B < _; omega)).trans hn2
    have HB := HB.trans (hb4.mono HB.size)
    have hBl : B < w4.heap.size := by have := hb4.size; omega
    go_wp2_with fail
    refine (laws_sameEnds _ _ _ _ _ _ _ hL.len hL.ints hZ.ints hln2).mono ?_
    rintro e w5 ⟨rfl, hb5⟩
    have hL := hL.kept hb5
    have hn0 := (hb5.cell (p := ⟨B, 0, none⟩) (by show B < _; omega)).trans hn0
    have hn1 := (hb5.cell (p := ⟨B, 1, none⟩) (by show B < _; omega)).trans hn1
    have hn2 := (hb5.cell (p := ⟨B, 2, none⟩) (by show B < _; omega)).trans hn2
    have HB := HB.trans (hb5.mono HB.size)
    have hBl : B < w5.heap.size := by have := hb5.size; omega
    clear hb3 hb4 hb5 hZ
    cases hp : patOk s k
    · have HP := Lib.hid hp; clear hp
      go_wp2_with fail
      refine (spec_patternOk s k f _ (by omega)).mono ?_
      rintro e w6 ⟨rfl, hb6⟩
      rw [HP.out]
      have hL := hL.kept hb6
      have hn0 := (hb6.cell (p := ⟨B, 0, none⟩) (by show B < _; omega)).trans hn0
      have hn1 := (hb6.cell (p := ⟨B, 1, none⟩) (by show B < _; omega)).trans hn1
      have hn2 := (hb6.cell (p := ⟨B, 2, none⟩) (by show B < _; omega)).trans hn2
      have HB := HB.trans (hb6.mono HB.size)
      have hBl : B < w6.heap.size := by have := hb6.size; omega
      go_wp2_with fail
      refine (spec_swapEnds s k f t _ hs1 ht1).mono ?_
      rintro e w8 ⟨a8, n8, cap8, rfl, hZ, hb8⟩
      have hn8 : n8 = n4 := by have h1 := hZ.len; have h2 := HLN.out; omega
      subst hn8
      have hL := hL.kept hb8
      have HB := HB.trans (hb8.mono HB.size)
      go_wp2_with fail
      refine (laws_sameEnds _ _ _ _ _ _ _ hL.len hL.ints hZ.ints hln2).mono ?_
      rintro e w9 ⟨rfl, hb9⟩
      have HB := HB.trans (hb9.mono HB.size)
      go_wp2_with fail
      go_ret
      exact ⟨rfl, HB⟩
    · obtain ⟨hp0, hp1, hk0, hk1⟩ := (patOk_iff s k).1 hp
      have HP := Lib.hid hp
      have eL := swEnds_all (f := f) (r := t) hp (by omega)
      rw [eL] at hL
      have lE := endF_length (swD s t f) k (t.size + 1)
      have hnE : n4 = endN (swD s t f) k (t.size + 1) := by have := hL.len; omega
      have HNE := Lib.hid hnE
      have bE := endN_le (swD s t f) k (t.size + 1)
      have HL := Lib.hid hL
      have LE := Lib.hid lE
      have ht40 : decide (40 < (t.size : Int)) = false := by simp; omega
      clear hp eL hL HLN hln hnE lE
      go_wp2_with fail
      refine (spec_patternOk s k f _ (by omega)).mono ?_
      rintro e w6 ⟨rfl, hb6⟩
      rw [HP.out]
      have HL := Lib.hid (HL.out.kept hb6)
      have hn0 := (hb6.cell (p := ⟨B, 0, none⟩) (by show B < _; omega)).trans hn0
      have hn1 := (hb6.cell (p := ⟨B, 1, none⟩) (by show B < _; omega)).trans hn1
      have hn2 := (hb6.cell (p := ⟨B, 2, none⟩) (by show B < _; omega)).trans hn2
      have HB := HB.trans (hb6.mono HB.size)
      have hBl : B < w6.heap.size := by have := hb6.size; omega
      clear hb6
      go_wp2
      go_loopw [6, 7] (fun c i wr => ∃ e : Nat, e ≤ t.size + 1 ∧ i = .int .i64 e ∧ c = .int .i64 (endN (swD s t f) k e) ∧ Below w6.heap.size w6 wr)
        (fun _ i _ => t.size + 1 - (intOf i).toNat)
      case atStart => exact ⟨0, by omega, rfl, rfl, Below.refl _ _⟩
      case round =>
        obtain ⟨q, hq, rfl, rfl, hb⟩ := hrel
        by_cases hqt : q ≤ t.size
        · have m0 := (hb.cell (p := ⟨B, 0, none⟩) (by show B < _; omega)).trans hn0
          have m1 := (hb.cell (p := ⟨B, 1, none⟩) (by show B < _; omega)).trans hn1
          have m2 := (hb.cell (p := ⟨B, 2, none⟩) (by show B < _; omega)).trans hn2
          have hszr := hb.size
          have hBr : B < wr.heap.size := by omega
          have HLR := Lib.hid (sw_least s t f q hqt (by omega) (by omega))
          have HF := Lib.hid (endF_at (swD s t f) k q)
          have HY := Lib.hid (endN_yes (d := swD s t f) (K := k) (k := q))
          have HNo := Lib.hid (endN_no (d := swD s t f) (K := k) (k := q))
          obtain ⟨ct, hct⟩ : ∃ ct, endN (swD s t f) k q = ct := ⟨_, rfl⟩
          have hcb := endN_le (swD s t f) k q
          rw [hct] at HF HY HNo hcb ⊢
          clear hct
          generalize wr = wo at *
          go_wp2_with fail
          go_loopw [8, 9] (fun v i wi => ∃ j : Nat, j ≤ q + 1 ∧ i = .int .i64 j ∧ v = .int .i64 (leastW s t f q j) ∧ Below wo.heap.size wo wi)
            (fun _ i _ => q + 1 - (intOf i).toNat)
          case atStart => exact ⟨0, by omega, rfl, rfl, Below.refl _ _⟩
          case round =>
            obtain ⟨j, hj, rfl, rfl, hbi⟩ := hrel
            have q0 := (hbi.cell (p := ⟨B, 0, none⟩) hBr).trans m0
            have q1 := (hbi.cell (p := ⟨B, 1, none⟩) hBr).trans m1
            have q2 := (hbi.cell (p := ⟨B, 2, none⟩) hBr).trans m2
            by_cases hjq : j ≤ q
            · have hz1 : (t.extract j q).size ≤ 100 := by rw [ByteArray.size_extract]; omega
              obtain ⟨A, hA⟩ : ∃ A, t.extract j q = A := ⟨_, rfl⟩
              obtain ⟨d, hd⟩ : ∃ d, swDI s (t.extract j q) f = d := ⟨_, rfl⟩
              obtain ⟨x, hx⟩ : ∃ x, leastW s t f q j = x := ⟨_, rfl⟩
              have HL1 := Lib.hid (leastW_yes hd hx)
              have HL2 := Lib.hid (leastW_no hd hx)
              rw [hx]
              rw [hA] at hd hz1
              have C1 := Lib.hid (fun W => swDist_of s A f d (by omega) (by omega) hd W)
              have j0 : (j : Int) ≤ (q : Int) := by omega
              have j1 : (q : Int) ≤ (t.size : Int) := by omega
              have c0 := cell_regrown q0
              have c2 := cell_regrown q2
              clear hd hx q0 q1 q2
              by_cases hlt : d < x
              · have HS := Lib.hid (HL1.out hlt)
                go_wp2_with fail
                refine wp_region_quiet_below (by kernel_rfl) (by kernel_rfl) ?_
                repeat (go_big_quiet_step (((go_at_call 16; with_reducible exact Calls.regrown_of (C1.out _)))))
                refine wpQuiet_nil ?_
                intro _ hw'
                obtain ⟨⟨dq, osq⟩, hw''⟩ := hw'
                subst hw''
                go_wp2
                go_roundw
                case rel => exact ⟨j + 1, by omega, by go_num, by rw [HS.out], hbi.trans ((below_regrown wr dq osq).mono hbi.size)⟩
                case measure => simp [intOf]; omega
              · have HS := Lib.hid (HL2.out hlt)
                go_wp2_with fail
                refine wp_region_quiet_below (by kernel_rfl) (by kernel_rfl) ?_
                repeat (go_big_quiet_step (((go_at_call 16; with_reducible exact Calls.regrown_of (C1.out _)))))
                refine wpQuiet_nil ?_
                intro _ hw'
                obtain ⟨⟨dq, osq⟩, hw''⟩ := hw'
                subst hw''
                go_wp2
                go_roundw
                case rel => exact ⟨j + 1, by omega, by go_num, by rw [HS.out], hbi.trans ((below_regrown wr dq osq).mono hbi.size)⟩
                case measure => simp [intOf]; omega
            · obtain rfl : j = q + 1 := by omega
              rw [HLR.out]
              have hB2 := hb.trans (hbi.mono hb.size)
              obtain ⟨y, hy⟩ : ∃ y, swD s t f q = y := ⟨_, rfl⟩
              rw [hy] at HF HY HNo ⊢
              clear hy m0 m1 m2 q0 q2
              by_cases hyk : y ≤ k
              · have HS := Lib.hid (HY.out hyk)
                obtain ⟨g1, g2, g3⟩ := HF.out hyk (t.size + 1) (by omega)
                rw [← HNE.out] at g1
                obtain ⟨b2, off2, rfl, hq2⟩ := (HL.out.ints.kept hB2).at (ct * 2) (by rw [LE.out, ← HNE.out]; omega)
                have c2 := hq2 (ct * 2) (by rw [LE.out, ← HNE.out]; omega)
                have d2 := hq2 (ct * 2 + 1) (by rw [LE.out, ← HNE.out]; omega)
                rw [← Nat.add_assoc] at d2
                rw [g2] at c2
                rw [g3] at d2
                have hat : ((ct : Nat) : Int) < (n4 : Int) := by omega
                have hne : ((ct : Int) == (n4 : Int)) = false := by simp; omega
                clear g2 g3 hq2
                go_wp2_with fail
                go_roundw
                case rel => exact ⟨q + 1, by omega, by go_num, by rw [HS.out]; go_num, hB2⟩
                case measure => simp [intOf]; omega
              · have HS := Lib.hid (HNo.out (by first | exact hyk | omega))
                go_wp2_with fail
                go_roundw
                case rel => exact ⟨q + 1, by omega, by go_num, by rw [HS.out], hB2⟩
                case measure => simp [intOf]; omega
        · obtain rfl : q = t.size + 1 := by omega
          rw [← HNE.out]
          have e9 : ((n4 : Int) == (n4 : Int)) = true := by simp
          have m0 := (hb.cell (p := ⟨B, 0, none⟩) (by show B < _; omega)).trans hn0
          have m1 := (hb.cell (p := ⟨B, 1, none⟩) (by show B < _; omega)).trans hn1
          have m2 := (hb.cell (p := ⟨B, 2, none⟩) (by show B < _; omega)).trans hn2
          have HBB := HB.trans (hb.mono HB.size)
          clear hn0 hn1 hn2 hb
          go_wp2_with fail
          refine (impl_endsOf s k f t _ hs1 ht1).mono ?_
          rintro e w7 ⟨a7, n7, cap7, rfl, hE, hb7⟩
          have hn7 : n7 ≤ n4 := by
            have h1 := hE.len
            have h2 := endsL_count (s := s) (K := k) (f := f) (r := t)
            have h3 := endN_dom (swD_le s t f) k (t.size + 1)
            have h4 := HNE.out
            omega
          have hn7d : decide ((n7 : Int) ≤ (n4 : Int)) = true := by simp; omega
          have HB7 := below_step HBB hb7
          clear hE hb7 HBB
          go_wp2_with fail
          go_ret
          exact ⟨rfl, HB7⟩
  · have hbig : decide (1048576 < (len : Int)) = true := by simp; omega
    go_enter Try.func7, Try.ntmps7
    go_wp2_with (go_at_call 9; go_in)
    go_ret
    exact ⟨rfl, Below.refl _ _⟩
end Go.Proofs.Ytgikjopmijomgab

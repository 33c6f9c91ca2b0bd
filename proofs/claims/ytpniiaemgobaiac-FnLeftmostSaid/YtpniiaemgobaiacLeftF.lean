/-
  FnLeftmost: the walk.
-/
import Derived.Test.YtpniiaemgobaiacLeftI
import Derived.Test.YtpniiaemgobaiacLeftM
import Derived.Test.YtpniiaemgobaiacFoundDr
import Derived.Test.YtpniiaemgobaiacAnyB
import Derived.Test.YtpniiaemgobaiacL3Draw
namespace Go.Proofs.Ytpniiaemgobaiac
open Go.RowKit
set_option linter.unusedVariables false
set_option maxRecDepth 100000
def metB (M : List Fd) (f : Int) (k : Nat) : Bool := decide ((fdAt M k).f ≤ f) && decide (f < (fdAt M k).t)
theorem left_facts {l : List Fd} (h : foundOkB (fdI l) l.length = true) : ApartF 0 (leftV l) ∧ leftV (leftV l) = leftV l ∧ (∀ i, i < l.length → anyB (metB (leftV l) (fdAt l i).f) (leftV l).length = true) := by
  have e : leftV l = leftF l := if_pos h
  obtain ⟨hf, h20⟩ := (found_fine l).1 h
  have hs : ∀ x ∈ leftF l, x ∈ l := fun x hx => (orderF_perm l).mem_iff.1 (passF_sub _ _ hx)
  have h2 : foundOkB (fdI (leftF l)) (leftF l).length = true := (found_fine _).2 ⟨fun x hx => hf x (hs x hx), by have := leftF_len l; omega⟩
  rw [e]
  refine ⟨passF_apart _ _, ?_, fun i hi => ?_⟩
  · rw [show leftV (leftF l) = leftF (leftF l) from if_pos h2]
    exact leftF_again l fun x hx => (hf x hx).2.1
  · have hm := fdAt_mem hi
    obtain ⟨c, hc, h1, h3⟩ := passF_met (orderF l) 0 (fdAt l i) (fun x hx => (hf x ((orderF_perm l).mem_iff.1 hx)).2.1) (orderF_up l) ((orderF_perm l).mem_iff.2 hm) (hf _ hm).1
    obtain ⟨k, hk, e2⟩ := List.getElem_of_mem hc
    refine anyB_iff.2 ⟨k, hk, ?_⟩
    have e3 : fdAt (leftF l) k = c := by unfold fdAt leftF; rw [List.getD_eq_getElem?_getD, List.getElem?_eq_getElem hk]; exact e2
    unfold metB
    rw [e3, decide_eq_true h1, decide_eq_true h3]; rfl
set_option maxHeartbeats 16000000 in
theorem law_FnLeftmost (a : Option Addr) (len cap : Nat) (z : List Int) (w : World) (hr : IsRow .u8 w a len cap z) :
    Calls Try.prog 3 #[.slice a len cap] w fun e w' => e = .returned (.bool true) ∧ Below w.heap.size w w' := by
  by_cases hl : len ≤ 1048576
  · have hbig : decide (1048576 < (len : Int)) = false := by simp; omega
    go_enter Try.func3, Try.ntmps3
    go_wp2_with (go_at_call 9; refine (laws_big _ _ _ _ (by omega)).mono ?_; rintro e w' ⟨rfl, rfl⟩)
    refine (drawLeftmost _ _ _ _ _ hr hl).mono ?_
    rintro e w1 ⟨l, m, a1, c1, rfl, hlm, hm, hO1, hb1⟩
    have HL := Lib.hid hlm
    have HV := Lib.hid hO1.ints
    have HB := hb1
    have HLF := Lib.hid (show (fdI l).length = m * 3 by rw [fdI_length, hlm])
    have hvl := leftV_len l
    have hfa := left_facts (l := l)
    have HLV2 := Lib.hid (show (fdI (leftV l)).length = (leftV l).length * 3 from fdI_length _)
    rw [hlm] at hvl hfa
    obtain ⟨G, hG⟩ : ∃ G, leftV l = G := ⟨_, rfl⟩
    obtain ⟨n, hn⟩ : ∃ n, G.length = n := ⟨_, rfl⟩
    have HG := Lib.hid hG; have HN := Lib.hid hn
    rw [hG] at hvl hfa HLV2
    rw [hn] at hvl hfa HLV2
    have hn7 : n ≤ 7 := by omega
    obtain ⟨ok, hok⟩ : ∃ ok, foundOkB (fdI l) m = ok := ⟨_, rfl⟩
    rw [hok] at hfa
    have HOK := Lib.hid hok; have HFA := Lib.hid hfa
    clear hlm hO1 hb1 hvl hG hn hok hfa
    go_wp2_with fail
    refine (impl_leftmost l m a1 c1 _ HL.out HV.out (by omega)).mono ?_
    rintro e w2 ⟨a2, c2, rfl, hO2, hb2⟩
    rw [HG.out, HN.out] at hO2 ⊢
    have HV2 := Lib.hid (HV.out.kept hb2)
    have HM2 := Lib.hid hO2.ints
    replace HB := below_step HB hb2
    clear hO2 hb2 HV
    go_wp2_with fail
    refine (drawFoundOk _ _ _ _ _ (isRow_below hr HB) hl).mono ?_
    rintro e w3 ⟨X, xm, a3, c3, rfl, hX, hxm, hO3, hb3⟩
    have HX := Lib.hid (show (fdI X).length = xm * 3 by rw [fdI_length, hX])
    have HX3 := Lib.hid hO3.ints
    have HV3 := Lib.hid (HV2.out.kept hb3)
    have HM3 := Lib.hid (HM2.out.kept hb3)
    replace HB := below_step HB hb3
    obtain ⟨xo, hxo⟩ : ∃ xo, foundOkB (fdI X) xm = xo := ⟨_, rfl⟩
    have HXO := Lib.hid hxo
    have ex : (xo != xo) = false := by simp
    have ex2 : (xo == xo) = true := by simp
    clear hX hO3 hb3 HV2 HM2 hxo
    go_wp2_with fail
    refine (spec_leftmost l m a1 c1 _ HL.out HV3.out (by omega)).mono ?_
    rintro e w4 ⟨a4, c4, rfl, hO4, hb4⟩
    rw [HG.out, HN.out] at hO4 ⊢
    have HX4 := Lib.hid (HX3.out.kept hb4)
    have HV4 := Lib.hid (HV3.out.kept hb4)
    have HM4 := Lib.hid (HM3.out.kept hb4)
    have HW4 := Lib.hid hO4.ints
    replace HB := below_step HB hb4
    clear hO4 hb4 HX3 HV3 HM3
    go_wp2_with fail
    refine (laws_sameFound _ _ _ n _ _ _ HLV2.out HM4.out HW4.out (by omega)).mono ?_
    rintro e w5 ⟨rfl, hb5⟩
    have HX5 := Lib.hid (HX4.out.kept hb5)
    have HV5 := Lib.hid (HV4.out.kept hb5)
    have HM5 := Lib.hid (HM4.out.kept hb5)
    replace HB := below_step HB hb5
    clear hb5 HX4 HV4 HM4 HW4
    go_wp2_with fail
    refine (impl_foundOk (fdI X) xm a3 c3 _ HX.out HX5.out (by omega)).mono ?_
    rintro e w6 ⟨rfl, hb6⟩
    rw [HXO.out]
    have HX6 := Lib.hid (HX5.out.kept hb6)
    have HV6 := Lib.hid (HV5.out.kept hb6)
    have HM6 := Lib.hid (HM5.out.kept hb6)
    replace HB := below_step HB hb6
    clear hb6 HX5 HV5 HM5
    go_wp2_with fail
    refine (spec_foundOk (fdI X) xm a3 c3 _ HX.out HX6.out (by omega)).mono ?_
    rintro e w7 ⟨rfl, hb7⟩
    rw [HXO.out]
    have HX7 := Lib.hid (HX6.out.kept hb7)
    have HV7 := Lib.hid (HV6.out.kept hb7)
    have HM7 := Lib.hid (HM6.out.kept hb7)
    replace HB := below_step HB hb7
    clear hb7 HX6 HV6 HM6
    go_wp2_with fail
    refine (spec_foundOk (fdI l) m a1 c1 _ HLF.out HV7.out (by omega)).mono ?_
    rintro e w8 ⟨rfl, hb8⟩
    rw [HOK.out]
    have HX8 := Lib.hid (HX7.out.kept hb8)
    have HV8 := Lib.hid (HV7.out.kept hb8)
    have HM8 := Lib.hid (HM7.out.kept hb8)
    replace HB := below_step HB hb8
    clear hb8 HX7 HV7 HM7
    cases ok
    · go_wp2_with fail
      refine (spec_leftmost l m a1 c1 _ HL.out HV8.out (by omega)).mono ?_
      rintro e w9 ⟨a9, c9, rfl, hO9, hb9⟩
      rw [HG.out, HN.out] at hO9 ⊢
      have HX9 := Lib.hid (HX8.out.kept hb9)
      have HM9 := Lib.hid (HM8.out.kept hb9)
      have HW9 := Lib.hid hO9.ints
      replace HB := below_step HB hb9
      clear hO9 hb9
      go_wp2_with fail
      refine (laws_sameFound _ _ _ n _ _ _ HLV2.out HM9.out HW9.out (by omega)).mono ?_
      rintro e w10 ⟨rfl, hb10⟩
      have HX10 := Lib.hid (HX9.out.kept hb10)
      replace HB := below_step HB hb10
      clear hb10
      go_wp2_with fail
      refine (impl_foundOk (fdI X) xm a3 c3 _ HX.out HX10.out (by omega)).mono ?_
      rintro e w11 ⟨rfl, hb11⟩
      rw [HXO.out]
      have HX11 := Lib.hid (HX10.out.kept hb11)
      replace HB := below_step HB hb11
      clear hb11
      go_wp2_with fail
      refine (spec_foundOk (fdI X) xm a3 c3 _ HX.out HX11.out (by omega)).mono ?_
      rintro e w12 ⟨rfl, hb12⟩
      rw [HXO.out]
      replace HB := below_step HB hb12
      go_wp2_with fail
      go_ret
      exact ⟨rfl, HB⟩
    · obtain ⟨F1, F2, F3⟩ := HFA.out rfl
      have F1 := Lib.hid F1; have F2 := Lib.hid F2; have F3 := Lib.hid F3
      clear HFA
      go_wp2_with fail
      go_loopw [6, 7, 8] (fun i _ _ wr => ∃ q : Nat, q ≤ m ∧ i = .int .i64 q ∧ Below w8.heap.size w8 wr)
        (fun i _ _ _ => m - (intOf i).toNat)
      case atStart => exact ⟨0, by omega, rfl, Below.refl _ _⟩
      case round =>
        obtain ⟨q, hq, rfl, hb⟩ := hrel
        by_cases hlt : q < m
        · have hany := F3.out q hlt
          obtain ⟨b, off, rfl, hp⟩ := (HV8.out.kept hb).at (q * 3) (by rw [HLF.out]; omega)
          have c0 := hp (q * 3) (by rw [HLF.out]; omega)
          obtain ⟨q0, _, _⟩ := fdI_at l q (by rw [HL.out]; exact hlt)
          rw [q0] at c0
          generalize (fdAt l q).f = f at *
          have hbl := block_lt_of_cell c0
          have HANY := Lib.hid hany; have HBQ := Lib.hid hb
          clear hp q0 hany hb
          obtain ⟨wo, rfl⟩ : ∃ wo : World, wo = wr := ⟨_, rfl⟩
          go_wp2_with fail
          go_loopw [7, 8] (fun c x wi => ∃ j : Nat, j ≤ n ∧ x = .int .i64 j ∧ c = .bool (anyB (metB G f) j) ∧ Below wo.heap.size wo wi)
            (fun _ x _ => n - (intOf x).toNat)
          case atStart => exact ⟨0, by omega, rfl, rfl, Below.refl _ _⟩
          case round =>
            obtain ⟨j, hj, rfl, rfl, hbi⟩ := hrel
            by_cases hjl : j < n
            · obtain ⟨b2, off2, rfl, hp2⟩ := (HM8.out.kept (HBQ.out.trans (hbi.mono HBQ.out.size))).at (j * 3) (by rw [HLV2.out]; omega)
              have d0 := hp2 (j * 3) (by rw [HLV2.out]; omega)
              have d1 := hp2 (j * 3 + 1) (by rw [HLV2.out]; omega)
              obtain ⟨r0, r1, _⟩ := fdI_at G j (by rw [HN.out]; exact hjl)
              rw [← Nat.add_assoc] at d1
              rw [r0] at d0; rw [r1] at d1
              have e0 := (hbi.cell (p := ⟨b, off + q * 3, none⟩) hbl).trans c0
              have hst : anyB (metB G f) (j + 1) = (anyB (metB G f) j || (decide ((fdAt G j).f ≤ f) && decide (f < (fdAt G j).t))) := rfl
              generalize (fdAt G j).f = gf at *
              generalize (fdAt G j).t = gt at *
              generalize anyB (metB G f) j = b0 at *
              have HST := Lib.hid hst
              clear hst hp2 r0 r1
              cases b0
              · cases hb0 : decide (gf ≤ f)
                · have HS := Lib.hid (show anyB (metB G f) (j + 1) = false by rw [HST.out, hb0]; rfl)
                  clear HST c0
                  go_wp2_with fail
                  go_quiet (fail)
                  go_wp2
                  go_roundw
                  case rel => exact ⟨j + 1, by omega, by go_num, by rw [HS.out], below_drewN hbi _⟩
                  case measure => simp [intOf]; omega
                · cases hb1 : decide (f < gt)
                  · have HS := Lib.hid (show anyB (metB G f) (j + 1) = false by rw [HST.out, hb0, hb1]; rfl)
                    clear HST c0
                    go_wp2_with fail
                    go_quiet (fail)
                    go_wp2
                    go_roundw
                    case rel => exact ⟨j + 1, by omega, by go_num, by rw [HS.out], below_drewN hbi _⟩
                    case measure => simp [intOf]; omega
                  · have HS := Lib.hid (show anyB (metB G f) (j + 1) = true by rw [HST.out, hb0, hb1]; rfl)
                    clear HST c0
                    go_wp2_with fail
                    go_quiet (fail)
                    go_wp2
                    go_roundw
                    case rel => exact ⟨j + 1, by omega, by go_num, by rw [HS.out], below_drewN hbi _⟩
                    case measure => simp [intOf]; omega
              · have HS := Lib.hid (show anyB (metB G f) (j + 1) = true by rw [HST.out]; rfl)
                clear HST c0
                go_wp2_with fail
                go_quiet (fail)
                go_wp2
                go_roundw
                case rel => exact ⟨j + 1, by omega, by go_num, by rw [HS.out], below_drewN hbi _⟩
                case measure => simp [intOf]; omega
            · obtain rfl : j = n := by omega
              rw [HANY.out]
              have HB9 := HBQ.out.trans (hbi.mono HBQ.out.size)
              clear c0
              go_wp2_with fail
              go_roundw
              case rel => exact ⟨q + 1, by omega, by go_num, HB9⟩
              case measure => simp [intOf]; omega
        · obtain rfl : q = m := by omega
          have HM9 := Lib.hid (HM8.out.kept hb)
          have HB9 := Lib.hid (below_step HB hb)
          clear hb
          go_wp2_with fail
          refine (laws_apart G 0 _ n _ _ HN.out F1.out HM9.out (by omega)).mono ?_
          rintro e w10 ⟨rfl, hb10⟩
          have HM10 := Lib.hid (HM9.out.kept hb10)
          have HB10 := Lib.hid (below_step HB9.out hb10)
          clear hb10
          go_wp2_with fail
          refine (impl_leftmost G n _ _ _ HN.out HM10.out (by omega)).mono ?_
          rintro e w11 ⟨a11, c11, rfl, hO11, hb11⟩
          rw [F2.out, HN.out] at hO11 ⊢
          have HM11 := Lib.hid (HM10.out.kept hb11)
          have HB11 := Lib.hid (below_step HB10.out hb11)
          clear hb11
          go_wp2_with fail
          refine (laws_sameFound _ _ _ n _ _ _ HLV2.out hO11.ints HM11.out (by omega)).mono ?_
          rintro e w12 ⟨rfl, hb12⟩
          go_wp2_with fail
          go_ret
          exact ⟨rfl, below_step HB11.out hb12⟩
  · have hbig : decide (1048576 < (len : Int)) = true := by simp; omega
    go_enter Try.func3, Try.ntmps3
    go_wp2_with (go_at_call 9; go_in)
    go_ret
    exact ⟨rfl, Below.refl _ _⟩
end Go.Proofs.Ytpniiaemgobaiac

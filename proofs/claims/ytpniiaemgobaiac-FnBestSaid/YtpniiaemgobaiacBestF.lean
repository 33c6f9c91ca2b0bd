/-
  FnBest: the walk.
-/
import Derived.Test.YtpniiaemgobaiacLeftI
import Derived.Test.YtpniiaemgobaiacBestI
import Derived.Test.YtpniiaemgobaiacBestM
import Derived.Test.YtpniiaemgobaiacFoundDr
import Derived.Test.YtpniiaemgobaiacL3Draw
namespace Go.Proofs.Ytpniiaemgobaiac
open Go.RowKit
set_option linter.unusedVariables false
set_option maxRecDepth 100000
/-- what the first k weigh -/
def sumTo (l : List Fd) : Nat → Int
  | 0 => 0
  | k + 1 => sumTo l k + (fdAt l k).w
theorem sumTo_take (l : List Fd) : ∀ k, k ≤ l.length → sumTo l k = sumF (l.take k)
  | 0, _ => rfl
  | k + 1, h => by
    have e : ∀ (a : List Fd) (x : Fd), sumF (a ++ [x]) = sumF a + x.w := by
      intro a x
      induction a with
      | nil => simp [sumF]
      | cons y ys ih => rw [List.cons_append, sumF, sumF, ih]; omega
    rw [fdAt_take l k (by omega), e, sumTo, sumTo_take l k (by omega)]
theorem sumTo_all (l : List Fd) : sumTo l l.length = sumF l := by rw [sumTo_take l _ (Nat.le_refl _), List.take_of_length_le (Nat.le_refl _)]
theorem sumTo_bnd {l : List Fd} (h : FineF l) : ∀ k, k ≤ l.length → 0 ≤ sumTo l k ∧ sumTo l k ≤ (k : Int) * 1000
  | 0, _ => by simp [sumTo]
  | k + 1, hk => by
    have := sumTo_bnd h k (by omega)
    have hx := h _ (fdAt_mem (l := l) (i := k) (by omega))
    rw [sumTo]; omega
theorem best_facts {l : List Fd} (h : foundOkB (fdI l) l.length = true) :
    (ApartF 0 (bestV l) ∧ sumF (bestV l) = bestW l ∧ FineF (bestV l)) ∧ 0 ≤ bestW l ∧ (sumF (leftV l) ≤ bestW l ∧ FineF (leftV l)) ∧
    (∀ i, i < l.length → 0 ≤ (fdAt l i).w ∧ (fdAt l i).w ≤ 1000 ∧ (fdAt l i).w ≤ bestW l) ∧ (∀ i k, i < l.length → k < l.length → (fdAt l i).t ≤ (fdAt l k).f → (fdAt l i).w + (fdAt l k).w ≤ bestW l) := by
  obtain ⟨hf, h20⟩ := (found_fine l).1 h
  rw [show bestV l = bestF l from if_pos h, show bestW l = wB l 0 from if_pos h, show leftV l = leftF l from if_pos h]
  obtain ⟨t1, t2, t3, _⟩ := takeB_all hf 200 0 (by omega)
  have hs : ∀ x ∈ leftF l, x ∈ l := fun x hx => (orderF_perm l).mem_iff.1 (passF_sub _ _ hx)
  have hm := wB_most hf
  refine ⟨⟨t2, t1, fun x hx => hf x (t3 x hx)⟩, (dpB_bnd hf 200 0).1, ⟨hm (leftF l) 0 (by omega) (passF_apart _ _) hs, fun x hx => hf x (hs x hx)⟩, fun i hi => ?_, fun i k hi hk hik => ?_⟩
  · have hx := hf _ (fdAt_mem hi)
    have := hm [fdAt l i] 0 (by omega) ⟨hx.1, trivial⟩ (fun x hx2 => by rw [List.mem_singleton.1 hx2]; exact fdAt_mem hi)
    simp only [sumF] at this
    exact ⟨hx.2.2.2.1, hx.2.2.2.2, by omega⟩
  · have hx := hf _ (fdAt_mem hi)
    have := hm [fdAt l i, fdAt l k] 0 (by omega) ⟨hx.1, hik, trivial⟩ (fun x hx2 => by
      rcases List.mem_cons.1 hx2 with e | e
      · rw [e]; exact fdAt_mem hi
      · rw [List.mem_singleton.1 e]; exact fdAt_mem hk)
    simp only [sumF] at this
    omega
theorem bestW_no {l : List Fd} (h : foundOkB (fdI l) l.length = false) : bestW l = -1 := if_neg (by rw [h]; exact Bool.false_ne_true)
set_option maxHeartbeats 16000000 in
theorem law_FnBest (a : Option Addr) (len cap : Nat) (z : List Int) (w : World) (hr : IsRow .u8 w a len cap z) :
    Calls Try.prog 4 #[.slice a len cap] w fun e w' => e = .returned (.bool true) ∧ Below w.heap.size w w' := by
  by_cases hl : len ≤ 1048576
  · have hbig : decide (1048576 < (len : Int)) = false := by simp; omega
    go_enter Try.func4, Try.ntmps4
    go_wp2_with (go_at_call 9; refine (laws_big _ _ _ _ (by omega)).mono ?_; rintro e w' ⟨rfl, rfl⟩)
    refine (drawBestOf _ _ _ _ _ hr hl).mono ?_
    rintro e w1 ⟨l, m, a1, c1, rfl, hlm, hm, hO1, hb1⟩
    have HL := Lib.hid hlm
    have HV := Lib.hid hO1.ints
    have HB := hb1
    have HLF := Lib.hid (show (fdI l).length = m * 3 by rw [fdI_length, hlm])
    have hvl : (bestV l).length ≤ 200 := by have := bestV_len l; omega
    have hll := leftV_len l
    have hfa := best_facts (l := l)
    have hno := bestW_no (l := l)
    have HLV2 := Lib.hid (show (fdI (bestV l)).length = (bestV l).length * 3 from fdI_length _)
    have HLV3 := Lib.hid (show (fdI (leftV l)).length = (leftV l).length * 3 from fdI_length _)
    rw [hlm] at hfa hno hll
    obtain ⟨G, hG⟩ : ∃ G, bestV l = G := ⟨_, rfl⟩
    obtain ⟨n, hn⟩ : ∃ n, G.length = n := ⟨_, rfl⟩
    obtain ⟨D, hD⟩ : ∃ D, leftV l = D := ⟨_, rfl⟩
    obtain ⟨d, hd⟩ : ∃ d, D.length = d := ⟨_, rfl⟩
    obtain ⟨b, hb⟩ : ∃ b, bestW l = b := ⟨_, rfl⟩
    have HG := Lib.hid hG; have HN := Lib.hid hn; have HD := Lib.hid hD; have HDN := Lib.hid hd; have HBW := Lib.hid hb
    rw [hG] at hvl hfa HLV2
    rw [hD] at hfa HLV3 hll
    rw [hb] at hfa hno
    rw [hn] at hvl HLV2
    rw [hd] at HLV3 hll
    obtain ⟨ok, hok⟩ : ∃ ok, foundOkB (fdI l) m = ok := ⟨_, rfl⟩
    rw [hok] at hfa hno
    have HOK := Lib.hid hok; have HFA := Lib.hid hfa
    have eb : (b != b) = false := by simp
    have eb2 : (b == b) = true := by simp
    clear hlm hO1 hb1 hG hn hD hd hb hok hfa
    go_wp2_with fail
    refine (impl_bestOf l m a1 c1 _ HL.out HV.out (by omega)).mono ?_
    rintro e w2 ⟨a2, c2, rfl, hO2, hb2⟩
    rw [HG.out, HN.out] at hO2 ⊢
    rw [HBW.out]
    have HV2 := Lib.hid (HV.out.kept hb2)
    have HM2 := Lib.hid hO2.ints
    replace HB := below_step HB hb2
    clear hO2 hb2 HV
    go_wp2_with fail
    refine (spec_bestOf l m a1 c1 _ HL.out HV2.out (by omega)).mono ?_
    rintro e w3 ⟨a3, c3, rfl, hO3, hb3⟩
    rw [HG.out, HN.out] at hO3 ⊢
    rw [HBW.out]
    have HV3 := Lib.hid (HV2.out.kept hb3)
    have HM3 := Lib.hid (HM2.out.kept hb3)
    have HW3 := Lib.hid hO3.ints
    replace HB := below_step HB hb3
    clear hO3 hb3 HV2 HM2
    go_wp2_with fail
    refine (laws_sameFound _ _ _ n _ _ _ HLV2.out HM3.out HW3.out (by omega)).mono ?_
    rintro e w4 ⟨rfl, hb4⟩
    have HV4 := Lib.hid (HV3.out.kept hb4)
    have HM4 := Lib.hid (HM3.out.kept hb4)
    have HW4 := Lib.hid (HW3.out.kept hb4)
    replace HB := below_step HB hb4
    clear hb4 HV3 HM3 HW3
    cases ok
    · have hb0 : b = -1 := hno rfl
      subst hb0
      clear hno HFA
      go_wp2_with fail
      refine (laws_sameFound _ _ _ n _ _ _ HLV2.out HM4.out HW4.out (by omega)).mono ?_
      rintro e w5 ⟨rfl, hb5⟩
      replace HB := below_step HB hb5
      go_wp2_with fail
      go_ret
      exact ⟨rfl, HB⟩
    · obtain ⟨⟨F1, F2, F3⟩, F4, ⟨F5, F6⟩, F7, F8⟩ := HFA.out rfl
      have hb0 : decide (b < 0) = false := by simp; exact F4
      have FA := Lib.hid F1
      have FS := Lib.hid (show sumTo G n = b by rw [← HN.out, sumTo_all]; exact F2)
      have FG := Lib.hid (fun k (hk : k ≤ n) => sumTo_bnd F3 k (by rw [HN.out]; exact hk))
      have FD := Lib.hid (fun k (hk : k ≤ d) => sumTo_bnd F6 k (by rw [HDN.out]; exact hk))
      have FL := Lib.hid (show sumTo D d ≤ b by rw [← HDN.out, sumTo_all]; exact F5)
      replace F7 := Lib.hid F7; replace F8 := Lib.hid F8
      clear hno HFA F1 F2 F3 F5 F6
      go_wp2_with fail
      go_loopw [8, 9] (fun s i wr => ∃ q : Nat, q ≤ n ∧ i = .int .i64 q ∧ s = .int .i64 (sumTo G q) ∧ Below w4.heap.size w4 wr)
        (fun _ i _ => n - (intOf i).toNat)
      case atStart => exact ⟨0, by omega, rfl, rfl, Below.refl _ _⟩
      case round =>
        obtain ⟨q, hq, rfl, rfl, hb⟩ := hrel
        by_cases hlt : q < n
        · obtain ⟨b1, off, rfl, hp⟩ := (HM4.out.kept hb).at (q * 3) (by rw [HLV2.out]; omega)
          have c0 := hp (q * 3 + 2) (by rw [HLV2.out]; omega)
          obtain ⟨_, _, q2⟩ := fdI_at G q (by rw [HN.out]; exact hlt)
          rw [q2, ← Nat.add_assoc] at c0
          have g1 := FG.out q (by omega)
          have g2 := FG.out (q + 1) (by omega)
          have hst : sumTo G (q + 1) = sumTo G q + (fdAt G q).w := rfl
          rw [hst] at g2
          have HS := Lib.hid hst
          generalize sumTo G q = s0 at *
          generalize (fdAt G q).w = v at *
          have kw : IntKind.i64.wrap (s0 + v) = s0 + v := by rw [IntKind.wrap_i64]; omega
          clear hp q2 hst
          go_wp2_with fail
          go_roundw
          case rel => exact ⟨q + 1, by omega, by go_num, by rw [HS.out], hb⟩
          case measure => simp [intOf]; omega
        · obtain rfl : q = n := by omega
          rw [FS.out]
          have HB5 := Lib.hid (below_step HB hb)
          have HV5 := Lib.hid (HV4.out.kept hb)
          have HM5 := Lib.hid (HM4.out.kept hb)
          clear hb HB
          go_wp2_with fail
          refine (impl_leftmost l m a1 c1 _ HL.out HV5.out (by omega)).mono ?_
          rintro e w6 ⟨a6, c6, rfl, hO6, hb6⟩
          rw [HD.out, HDN.out] at hO6 ⊢
          have HB6 := Lib.hid (below_step HB5.out hb6)
          have HV6 := Lib.hid (HV5.out.kept hb6)
          have HM6 := Lib.hid (HM5.out.kept hb6)
          have HX6 := Lib.hid hO6.ints
          clear hb6 hO6 HB5 HV5 HM5
          go_wp2_with fail
          go_loopw [10, 12] (fun s i wi => ∃ p : Nat, p ≤ d ∧ i = .int .i64 p ∧ s = .int .i64 (sumTo D p) ∧ Below w6.heap.size w6 wi)
            (fun _ i _ => d - (intOf i).toNat)
          case atStart => exact ⟨0, by omega, rfl, rfl, Below.refl _ _⟩
          case round =>
            obtain ⟨p, hp0, rfl, rfl, hb⟩ := hrel
            by_cases hlt2 : p < d
            · obtain ⟨b1, off, rfl, hp⟩ := (HX6.out.kept hb).at (p * 3) (by rw [HLV3.out]; omega)
              have c0 := hp (p * 3 + 2) (by rw [HLV3.out]; omega)
              obtain ⟨_, _, q2⟩ := fdI_at D p (by rw [HDN.out]; exact hlt2)
              rw [q2, ← Nat.add_assoc] at c0
              have g1 := FD.out p (by omega)
              have g2 := FD.out (p + 1) (by omega)
              have hst : sumTo D (p + 1) = sumTo D p + (fdAt D p).w := rfl
              rw [hst] at g2
              have HS := Lib.hid hst
              generalize sumTo D p = s0 at *
              generalize (fdAt D p).w = v at *
              have kw : IntKind.i64.wrap (s0 + v) = s0 + v := by rw [IntKind.wrap_i64]; omega
              clear hp q2 hst
              go_wp2_with fail
              go_roundw
              case rel => exact ⟨p + 1, by omega, by go_num, by rw [HS.out], hb⟩
              case measure => simp [intOf]; omega
            · obtain rfl : p = d := by omega
              have hfl := FL.out
              generalize sumTo D p = left at *
              have hl2 : decide (left ≤ b) = true := decide_eq_true hfl
              have HB7 := Lib.hid (below_step HB6.out hb)
              have HV7 := Lib.hid (HV6.out.kept hb)
              have HM7 := Lib.hid (HM6.out.kept hb)
              clear hb hfl
              obtain ⟨wo, rfl⟩ : ∃ wo : World, wo = wr := ⟨_, rfl⟩
              go_wp2_with fail
              go_loopw [13, 14] (fun i _ wi => ∃ x : Nat, x ≤ m ∧ i = .int .i64 x ∧ Below wo.heap.size wo wi)
                (fun i _ _ => m - (intOf i).toNat)
              case atStart => exact ⟨0, by omega, rfl, Below.refl _ _⟩
              case round =>
                obtain ⟨x, hx, rfl, hbx⟩ := hrel
                by_cases hxm : x < m
                · have HBX := Lib.hid hbx
                  clear hbx
                  go_wp2_with fail
                  go_loopw [14] (fun k wk => ∃ y : Nat, y ≤ m ∧ k = .int .i64 y ∧ Below wo.heap.size wo wk)
                    (fun k _ => m - (intOf k).toNat)
                  case atStart => exact ⟨0, by omega, rfl, HBX.out⟩
                  case round =>
                    obtain ⟨y, hy, rfl, hby⟩ := hrel
                    by_cases hym : y < m
                    · obtain ⟨b1, off, rfl, hp⟩ := (HV7.out.kept hby).at (x * 3) (by rw [HLF.out]; omega)
                      have c1 := hp (x * 3 + 1) (by rw [HLF.out]; omega)
                      have c2 := hp (x * 3 + 2) (by rw [HLF.out]; omega)
                      have d0 := hp (y * 3) (by rw [HLF.out]; omega)
                      have d2 := hp (y * 3 + 2) (by rw [HLF.out]; omega)
                      obtain ⟨_, q1, q2⟩ := fdI_at l x (by rw [HL.out]; exact hxm)
                      obtain ⟨r0, _, r2⟩ := fdI_at l y (by rw [HL.out]; exact hym)
                      rw [← Nat.add_assoc] at c1 c2 d2
                      rw [q1] at c1; rw [q2] at c2; rw [r0] at d0; rw [r2] at d2
                      obtain ⟨v0, v1, v2⟩ := F7.out x hxm
                      obtain ⟨u0, u1, u2⟩ := F7.out y hym
                      have hpr := F8.out x y hxm hym
                      generalize (fdAt l x).t = xt at *
                      generalize (fdAt l x).w = xw at *
                      generalize (fdAt l y).f = yf at *
                      generalize (fdAt l y).w = yw at *
                      have e1 : decide (b < xw) = false := by simp; exact v2
                      have kw : IntKind.i64.wrap (xw + yw) = xw + yw := by rw [IntKind.wrap_i64]; omega
                      clear hp q1 q2 r0 r2
                      by_cases hc : xt ≤ yf
                      · have e2 : decide (xt ≤ yf) = true := decide_eq_true hc
                        have e3 : decide (b < xw + yw) = false := by simp; exact hpr hc
                        clear hpr v0 v1 v2 u0 u1 u2 hc
                        go_wp2_with fail
                        go_quiet (fail)
                        go_wp2
                        go_roundw
                        case rel => exact ⟨y + 1, by omega, by go_num, below_drewN hby _⟩
                        case measure => simp [intOf]; omega
                      · have e2 : decide (xt ≤ yf) = false := decide_eq_false hc
                        clear hpr v0 v1 v2 u0 u1 u2 hc
                        go_wp2_with fail
                        go_quiet (fail)
                        go_wp2
                        go_roundw
                        case rel => exact ⟨y + 1, by omega, by go_num, below_drewN hby _⟩
                        case measure => simp [intOf]; omega
                    · obtain rfl : y = m := by omega
                      go_wp2_with fail
                      go_roundw
                      case rel => exact ⟨x + 1, by omega, by go_num, hby⟩
                      case measure => simp [intOf]; omega
                · obtain rfl : x = m := by omega
                  have HM8 := Lib.hid (HM7.out.kept hbx)
                  have HB8 := Lib.hid (below_step HB7.out hbx)
                  clear hbx
                  go_wp2_with fail
                  refine (laws_apart G 0 _ _ _ _ HN.out FA.out HM8.out (by omega)).mono ?_
                  rintro e w9 ⟨rfl, hb9⟩
                  have HB9 := Lib.hid (below_step HB8.out hb9)
                  go_wp2_with fail
                  go_ret
                  exact ⟨rfl, HB9.out⟩
  · have hbig : decide (1048576 < (len : Int)) = true := by simp; omega
    go_enter Try.func4, Try.ntmps4
    go_wp2_with (go_at_call 9; go_in)
    go_ret
    exact ⟨rfl, Below.refl _ _⟩
end Go.Proofs.Ytpniiaemgobaiac

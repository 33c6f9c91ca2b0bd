/-
  Chapter 18's model: the next column, where two bytes side by side may be changed for each other (by wip/tools/mk_swaps.py).
-/
import Derived.Test.YtgikjopmijomgabL3NextS
import Derived.Test.YtgikjopmijomgabL1Alike
import Derived.Test.YtgikjopmijomgabL18W
namespace Go.Proofs.Ytgikjopmijomgab
open Go.RowKit
set_option linter.unusedVariables false
set_option maxRecDepth 100000
def mnI (a b : Int) : Int := if b < a then b else a
theorem mnI_spec (a b : Int) : mnI a b ≤ a ∧ mnI a b ≤ b ∧ (mnI a b = a ∨ mnI a b = b) := by unfold mnI; split <;> omega
theorem sw_fix {A B c g o : Int} (h : g ≤ c) (y : Bool) : swapMin y (min3 A B (g + 1)) o = mnI (if y then mnI (min3 A B (c + 1)) (o + 1) else min3 A B (c + 1)) (g + 1) := by
  have m1 := min3_spec A B (g + 1)
  have m2 := min3_spec A B (c + 1)
  cases y
  · have m3 := mnI_spec (min3 A B (c + 1)) (g + 1)
    simp only [swapMin, Bool.false_eq_true, if_false]
    omega
  · have m3 := mnI_spec (min3 A B (c + 1)) (o + 1)
    have m4 := mnI_spec (mnI (min3 A B (c + 1)) (o + 1)) (g + 1)
    simp only [swapMin, if_true]
    split <;> omega
theorem sw_fix_le {A B c g o : Int} (h : g ≤ c) (y : Bool) : swapMin y (min3 A B (g + 1)) o ≤ min3 A B (c + 1) := by
  have m1 := min3_spec A B (g + 1)
  have m2 := min3_spec A B (c + 1)
  cases y
  · simp only [swapMin, Bool.false_eq_true, if_false]
    omega
  · simp only [swapMin, if_true]
    split <;> omega
theorem mnV0 {X Y Z : Int} (hz : Z + 1 < X) : mnI (if false = true then mnI X (Y + 1) else X) (Z + 1) = Z + 1 := by rw [if_neg (by decide), mnI, if_pos hz]
theorem mnV1 {X Y Z : Int} (hz : ¬ Z + 1 < X) : mnI (if false = true then mnI X (Y + 1) else X) (Z + 1) = X := by rw [if_neg (by decide), mnI, if_neg hz]
theorem mnV2 {X Y Z : Int} (hy : Y + 1 < X) (hz : Z + 1 < Y + 1) : mnI (if true = true then mnI X (Y + 1) else X) (Z + 1) = Z + 1 := by rw [if_pos rfl, mnI, mnI, if_pos hy, if_pos hz]
theorem mnV3 {X Y Z : Int} (hy : Y + 1 < X) (hz : ¬ Z + 1 < Y + 1) : mnI (if true = true then mnI X (Y + 1) else X) (Z + 1) = Y + 1 := by rw [if_pos rfl, mnI, mnI, if_pos hy, if_neg hz]
theorem mnV4 {X Y Z : Int} (hy : ¬ Y + 1 < X) (hz : Z + 1 < X) : mnI (if true = true then mnI X (Y + 1) else X) (Z + 1) = Z + 1 := by rw [if_pos rfl, mnI, mnI, if_neg hy, if_pos hz]
theorem mnV5 {X Y Z : Int} (hy : ¬ Y + 1 < X) (hz : ¬ Z + 1 < X) : mnI (if true = true then mnI X (Y + 1) else X) (Z + 1) = X := by rw [if_pos rfl, mnI, mnI, if_neg hy, if_neg hz]
def dI (G C : Nat → Int) (i j : Nat) : Int := if j < i then G j else C j
theorem dI_set (G C : Nat → Int) (i n : Nat) (hi : i < n) : (tab (dI G C i) n).set i (G i) = tab (dI G C (i + 1)) n := by
  refine tab_of (by rw [List.length_set, tab_length]) fun j hj => ?_
  rw [intAt_set _ _ _ _ (by rw [tab_length]; exact hi)]
  by_cases e : i = j
  · subst e; rw [if_pos rfl, dI, if_pos (by omega)]
  · rw [if_neg e, intAt_tab _ _ _ hj, dI, dI]
    by_cases h : j < i
    · rw [if_pos h, if_pos (by omega)]
    · rw [if_neg h, if_neg (by omega)]
set_option maxHeartbeats 8000000 in
theorem spec_l18Next (s : ByteArray) (f : Bool) (OL LL : List Int) (ao a : Option Addr) (no co cap : Nat) (last b head : Int) (G : Nat → Int) (w : World) (hs : s.size ≤ 200) (hno : no = 0 ∨ no = s.size + 1)
    (hO : Ints w ao OL) (hOl : OL.length = no) (hL : Ints w a LL) (hLl : LL.length = s.size + 1) (bL : Bnd (intAt LL) s.size 1000) (bO : ∀ i, i < no → 0 ≤ intAt OL i ∧ intAt OL i ≤ 1000) (bG : ∀ i, i ≤ s.size → 0 ≤ G i ∧ G i ≤ 1001)
    (h0 : 0 ≤ head) (h1 : head ≤ 1001) (hl0 : 0 ≤ last) (hl1 : last ≤ 255) (hb0 : 0 ≤ b) (hb1 : b ≤ 255) (hG0 : G 0 = head)
    (hGs : ∀ i, i < s.size → G (i + 1) = swapMin (decide (0 < i) && decide (0 < no) && eqI ((byteAt s i).toNat) last f && eqI ((byteAt s (i - 1)).toNat) b f) (min3 (if maskG s f b i then intAt LL i else intAt LL i + 1) (intAt LL (i + 1) + 1) (G i + 1)) (intAt OL (i - 1))) :
    Calls Try.prog 41 #[.string s, .bool f, .slice ao no co, .slice a (s.size + 1) cap, .int .u8 last, .int .u8 b, .int .i64 head] w fun e w' => ∃ a' cap', e = .returned (.slice a' (s.size + 1) cap') ∧ OwnN w' w.heap.size a' (s.size + 1) cap' (tab G (s.size + 1)) ∧ Below w.heap.size w w' := by
  obtain ⟨C, hCe⟩ : ∃ C, nextAt (maskG s f b) (intAt LL) head = C := ⟨_, rfl⟩
  have hC0 : C 0 = head := by rw [← hCe]; rfl
  have hCs : ∀ i, C (i + 1) = min3 (if maskG s f b i then intAt LL i else intAt LL i + 1) (intAt LL (i + 1) + 1) (C i + 1) := fun i => by rw [← hCe]; exact nextAt_succ _ _ _ i
  have hGC : ∀ i, i ≤ s.size → G i ≤ C i := by
    intro i
    induction i with
    | zero => intro _; rw [hG0, hC0]; exact Int.le_refl _
    | succ i ih => intro hi; rw [hGs i (by omega), hCs i]; exact sw_fix_le (ih (by omega)) _
  have hCb : ∀ i, i ≤ s.size → 0 ≤ C i ∧ C i ≤ 1001 := fun i hi => by rw [← hCe]; exact nextAt_bnd bL h0 h1 i hi
  have hG1 : 1 ≤ s.size → G 1 = C 1 := fun h => by
    rw [hGs 0 (by omega), hCs 0, hG0, hC0]; simp [swapMin]
  have hGno : no = 0 → ∀ i, i ≤ s.size → G i = C i := by
    intro hn i
    induction i with
    | zero => intro _; rw [hG0, hC0]
    | succ i ih => intro hi; rw [hGs i (by omega), hCs i, ih (by omega), hn]; simp [swapMin]
  have HG1 := Lib.hid hG1; have HGN := Lib.hid hGno; have HCB := Lib.hid hCb; have HGC := Lib.hid hGC; have HCS := Lib.hid hCs; have HGS := Lib.hid hGs; have HBO := Lib.hid bO; have HBG := Lib.hid bG
  have HC00 : Hid (G 0 = C 0) := hG0.trans hC0.symm
  go_enter Try.func41, Try.ntmps41
  go_wp2_with fail
  refine (spec_l3Next s f LL a (s.size + 1) cap head b 1000 _ (by omega) rfl hLl hL bL (by omega) h0 (by omega) hb0 hb1).mono ?_
  rw [hCe]
  rintro e w1 ⟨a1, cap1, rfl, hC, hb1'⟩
  obtain ⟨g, rfl, hg1, hg2⟩ := hC.head 0 (by omega)
  have HCI : Hid (OwnN w1 w.heap.size (some ⟨g, 0, none⟩) (s.size + 1) cap1 (tab (dI G C 2) (s.size + 1))) := by
    have e : tab (dI G C 2) (s.size + 1) = tab C (s.size + 1) := tab_congr fun i hi => by
      unfold dI
      split
      · have : i = 0 ∨ i = 1 := by omega
        rcases this with rfl | rfl
        · exact HC00.out
        · exact HG1.out (by omega)
      · rfl
    show OwnN _ _ _ _ _ _
    rw [e]; exact hC
  have HB1 := Lib.hid hb1'
  have HO := Lib.hid hO
  clear hC hb1' hO hL bL bO bG hG0 hGs hC0 hCs hGC hCb hG1 hGno hCe
  go_wp2
  go_loopw [16] (fun i wr => ∃ k : Nat, 2 ≤ k ∧ (k ≤ s.size + 1 ∨ k = 2) ∧ i = .int .i64 (k : Int) ∧ OwnN wr w.heap.size (some ⟨g, 0, none⟩) (s.size + 1) cap1 (tab (dI G C k) (s.size + 1)) ∧ Below w.heap.size w wr)
    (fun i _ => s.size + 2 - (intOf i).toNat)
  case atStart => exact ⟨2, by omega, .inr rfl, rfl, HCI.out, HB1.out⟩
  case round =>
    obtain ⟨k, hk2, hks, rfl, hC, hb⟩ := hrel
    by_cases hi : k ≤ s.size
    · rcases hno with hn | hn
      · subst hn
        have HR : Hid (tab (dI G C k) (s.size + 1) = tab G (s.size + 1)) := tab_congr fun i hi => by
          unfold dI; split
          · rfl
          · exact (HGN.out rfl i (by omega)).symm
        have ki : (k : Int) ≤ (s.size : Int) := by omega
        have HC := Lib.hid hC
        clear hC HCI
        go_wp2
        go_ret
        exact ⟨_, _, rfl, by rw [← HR.out]; exact HC.out, hb⟩
      · have HNO := Lib.hid hn
        have hno1 : (0 : Int) < (no : Int) := by omega
        obtain ⟨m, rfl⟩ : ∃ m, k = m + 2 := ⟨k - 2, by omega⟩
        have ki : (m : Int) + 2 ≤ (s.size : Int) := by omega
        have hIO := HO.out.kept hb
        obtain ⟨go, off, rfl, hp⟩ := hIO.at m (by omega)
        have cO := hp m (by omega)
        have cX := hC.cell (m + 2) (by omega)
        have cZ := hC.cell (m + 1) (by omega)
        rw [intAt_tab _ _ _ (by omega), dI, if_neg (by omega)] at cX
        rw [intAt_tab _ _ _ (by omega), dI, if_pos (by omega)] at cZ
        have hf := hC.frozen (m + 2)
        obtain ⟨y0, y1⟩ := HBO.out m (by omega)
        obtain ⟨x0, x1⟩ := HCB.out (m + 2) (by omega)
        obtain ⟨z0, z1⟩ := HBG.out (m + 1) (by omega)
        have hfix := HGS.out (m + 1) (by omega)
        have e0 : decide (0 < m + 1) = true := by simp
        have e1 : decide (0 < no) = true := by simp; omega
        rw [e0, e1, Bool.true_and, Bool.true_and, sw_fix (HGC.out (m + 1) (by omega)), ← HCS.out (m + 1), Nat.add_sub_cancel, byteAt_eq s (m + 1) (by omega), byteAt_eq s m (by omega)] at hfix
        have HST := Lib.hid (fun (v : Int) (hv : G (m + 1 + 1) = v) => (show (tab (dI G C (m + 2)) (s.size + 1)).set (m + 2) v = tab (dI G C (m + 2 + 1)) (s.size + 1) by rw [← hv]; exact dI_set G C (m + 2) _ (by omega)))
        have hch1 := s[m + 1].toNat_lt
        have hch0 := s[m].toNat_lt
        have HC := Lib.hid hC
        have i1 : IntKind.i64.wrap ((m : Int) + 2 - 1) = (m : Int) + 1 := by rw [IntKind.wrap_i64]; omega
        have i2 : IntKind.i64.wrap ((m : Int) + 2 - 2) = (m : Int) := by rw [IntKind.wrap_i64]; omega
        have i3 : IntKind.i64.wrap ((m : Int) + 2 + 1) = (m : Int) + 2 + 1 := by rw [IntKind.wrap_i64]; omega
        have j0 : (0 : Int) ≤ (m : Int) + 1 := by omega
        have j1 : (m : Int) + 1 < (s.size : Int) := by omega
        have j2 : (m : Int) < (s.size : Int) := by omega
        have j3 : (0 : Int) ≤ (m : Int) + 2 := by omega
        have j4 : (m : Int) + 2 < (s.size : Int) + 1 := by omega
        have j5 : (m : Int) + 1 < (s.size : Int) + 1 := by omega
        have j6 : (m : Int) < (no : Int) := by omega
        have j7 : ((m : Int) + 1).toNat = m + 1 := by omega
        have j8 : ((m : Int) + 2).toNat = m + 2 := by omega
        have HFX := Lib.hid hfix
        have m0 : (0 : Int) ≤ (m : Int) := by omega
        clear hC hp hIO hfix HCI e0 e1 hn
        obtain ⟨b1, hb1e⟩ : ∃ c, (s[m + 1].toNat : Int) = c := ⟨_, rfl⟩
        obtain ⟨b2, hb2e⟩ : ∃ c, (s[m].toNat : Int) = c := ⟨_, rfl⟩
        have u10 : 0 ≤ b1 := by omega
        have u11 : b1 ≤ 255 := by omega
        have u20 : 0 ≤ b2 := by omega
        have u21 : b2 ≤ 255 := by omega
        rw [hb1e, hb2e] at HFX
        clear hch1 hch0
        generalize intAt OL m = Y at *
        generalize C (m + 1 + 1) = X at *
        generalize G (m + 1) = Z at *
        have yw : IntKind.i64.wrap (Y + 1) = Y + 1 := by rw [IntKind.wrap_i64]; omega
        have zw : IntKind.i64.wrap (Z + 1) = Z + 1 := by rw [IntKind.wrap_i64]; omega
        cases hA : eqI b1 last f with
        | false =>
          have HA := Lib.hid hA; clear hA
          cases hB : eqI b2 b f with
          | false =>
            have HB2 := Lib.hid hB; clear hB
            by_cases hz : Z + 1 < X
            · have HV := Lib.hid (HST.out (Z + 1) (by have := HFX.out; rw [HA.out, HB2.out] at this; exact this.trans (mnV0 hz)))
              have HS2 := Lib.hid (HC.out.set (m + 2) (Z + 1))
              go_wp2_with (first | (go_at_call 59; with_reducible refine (spec_l1Eq b1 last f _ u10 u11 hl0 hl1).mono ?_; rintro e w2 ⟨rfl, rfl⟩; rw [HA.out]) | (go_at_call 59; with_reducible refine (spec_l1Eq b2 b f _ u20 u21 hb0 hb1).mono ?_; rintro e w2 ⟨rfl, rfl⟩; rw [HB2.out]))
              go_roundw
              case rel => exact ⟨m + 2 + 1, by omega, .inl (by omega), by go_num, by rw [← HV.out]; exact HS2.out, hb.setCell (p := ⟨g, m + 2, none⟩) hg1 _⟩
              case measure => simp [intOf]; omega
            · have HV := Lib.hid (HST.out (X) (by have := HFX.out; rw [HA.out, HB2.out] at this; exact this.trans (mnV1 hz)))
              have HS2 := Lib.hid (HC.out.set (m + 2) (X))
              go_wp2_with (first | (go_at_call 59; with_reducible refine (spec_l1Eq b1 last f _ u10 u11 hl0 hl1).mono ?_; rintro e w2 ⟨rfl, rfl⟩; rw [HA.out]) | (go_at_call 59; with_reducible refine (spec_l1Eq b2 b f _ u20 u21 hb0 hb1).mono ?_; rintro e w2 ⟨rfl, rfl⟩; rw [HB2.out]))
              go_roundw
              case rel => exact ⟨m + 2 + 1, by omega, .inl (by omega), by go_num, by rw [← HV.out]; exact HS2.out, hb.setCell (p := ⟨g, m + 2, none⟩) hg1 _⟩
              case measure => simp [intOf]; omega
          | true =>
            have HB2 := Lib.hid hB; clear hB
            by_cases hz : Z + 1 < X
            · have HV := Lib.hid (HST.out (Z + 1) (by have := HFX.out; rw [HA.out, HB2.out] at this; exact this.trans (mnV0 hz)))
              have HS2 := Lib.hid (HC.out.set (m + 2) (Z + 1))
              go_wp2_with (first | (go_at_call 59; with_reducible refine (spec_l1Eq b1 last f _ u10 u11 hl0 hl1).mono ?_; rintro e w2 ⟨rfl, rfl⟩; rw [HA.out]) | (go_at_call 59; with_reducible refine (spec_l1Eq b2 b f _ u20 u21 hb0 hb1).mono ?_; rintro e w2 ⟨rfl, rfl⟩; rw [HB2.out]))
              go_roundw
              case rel => exact ⟨m + 2 + 1, by omega, .inl (by omega), by go_num, by rw [← HV.out]; exact HS2.out, hb.setCell (p := ⟨g, m + 2, none⟩) hg1 _⟩
              case measure => simp [intOf]; omega
            · have HV := Lib.hid (HST.out (X) (by have := HFX.out; rw [HA.out, HB2.out] at this; exact this.trans (mnV1 hz)))
              have HS2 := Lib.hid (HC.out.set (m + 2) (X))
              go_wp2_with (first | (go_at_call 59; with_reducible refine (spec_l1Eq b1 last f _ u10 u11 hl0 hl1).mono ?_; rintro e w2 ⟨rfl, rfl⟩; rw [HA.out]) | (go_at_call 59; with_reducible refine (spec_l1Eq b2 b f _ u20 u21 hb0 hb1).mono ?_; rintro e w2 ⟨rfl, rfl⟩; rw [HB2.out]))
              go_roundw
              case rel => exact ⟨m + 2 + 1, by omega, .inl (by omega), by go_num, by rw [← HV.out]; exact HS2.out, hb.setCell (p := ⟨g, m + 2, none⟩) hg1 _⟩
              case measure => simp [intOf]; omega
        | true =>
          have HA := Lib.hid hA; clear hA
          cases hB : eqI b2 b f with
          | false =>
            have HB2 := Lib.hid hB; clear hB
            by_cases hz : Z + 1 < X
            · have HV := Lib.hid (HST.out (Z + 1) (by have := HFX.out; rw [HA.out, HB2.out] at this; exact this.trans (mnV0 hz)))
              have HS2 := Lib.hid (HC.out.set (m + 2) (Z + 1))
              go_wp2_with (first | (go_at_call 59; with_reducible refine (spec_l1Eq b1 last f _ u10 u11 hl0 hl1).mono ?_; rintro e w2 ⟨rfl, rfl⟩; rw [HA.out]) | (go_at_call 59; with_reducible refine (spec_l1Eq b2 b f _ u20 u21 hb0 hb1).mono ?_; rintro e w2 ⟨rfl, rfl⟩; rw [HB2.out]))
              go_roundw
              case rel => exact ⟨m + 2 + 1, by omega, .inl (by omega), by go_num, by rw [← HV.out]; exact HS2.out, hb.setCell (p := ⟨g, m + 2, none⟩) hg1 _⟩
              case measure => simp [intOf]; omega
            · have HV := Lib.hid (HST.out (X) (by have := HFX.out; rw [HA.out, HB2.out] at this; exact this.trans (mnV1 hz)))
              have HS2 := Lib.hid (HC.out.set (m + 2) (X))
              go_wp2_with (first | (go_at_call 59; with_reducible refine (spec_l1Eq b1 last f _ u10 u11 hl0 hl1).mono ?_; rintro e w2 ⟨rfl, rfl⟩; rw [HA.out]) | (go_at_call 59; with_reducible refine (spec_l1Eq b2 b f _ u20 u21 hb0 hb1).mono ?_; rintro e w2 ⟨rfl, rfl⟩; rw [HB2.out]))
              go_roundw
              case rel => exact ⟨m + 2 + 1, by omega, .inl (by omega), by go_num, by rw [← HV.out]; exact HS2.out, hb.setCell (p := ⟨g, m + 2, none⟩) hg1 _⟩
              case measure => simp [intOf]; omega
          | true =>
            have HB2 := Lib.hid hB; clear hB
            by_cases hy : Y + 1 < X
            · by_cases hz : Z + 1 < Y + 1
              · have HV := Lib.hid (HST.out (Z + 1) (by have := HFX.out; rw [HA.out, HB2.out] at this; exact this.trans (mnV2 hy hz)))
                have HS2 := Lib.hid (HC.out.set (m + 2) (Z + 1))
                go_wp2_with (first | (go_at_call 59; with_reducible refine (spec_l1Eq b1 last f _ u10 u11 hl0 hl1).mono ?_; rintro e w2 ⟨rfl, rfl⟩; rw [HA.out]) | (go_at_call 59; with_reducible refine (spec_l1Eq b2 b f _ u20 u21 hb0 hb1).mono ?_; rintro e w2 ⟨rfl, rfl⟩; rw [HB2.out]))
                go_roundw
                case rel => exact ⟨m + 2 + 1, by omega, .inl (by omega), by go_num, by rw [← HV.out]; exact HS2.out, hb.setCell (p := ⟨g, m + 2, none⟩) hg1 _⟩
                case measure => simp [intOf]; omega
              · have HV := Lib.hid (HST.out (Y + 1) (by have := HFX.out; rw [HA.out, HB2.out] at this; exact this.trans (mnV3 hy hz)))
                have HS2 := Lib.hid (HC.out.set (m + 2) (Y + 1))
                go_wp2_with (first | (go_at_call 59; with_reducible refine (spec_l1Eq b1 last f _ u10 u11 hl0 hl1).mono ?_; rintro e w2 ⟨rfl, rfl⟩; rw [HA.out]) | (go_at_call 59; with_reducible refine (spec_l1Eq b2 b f _ u20 u21 hb0 hb1).mono ?_; rintro e w2 ⟨rfl, rfl⟩; rw [HB2.out]))
                go_roundw
                case rel => exact ⟨m + 2 + 1, by omega, .inl (by omega), by go_num, by rw [← HV.out]; exact HS2.out, hb.setCell (p := ⟨g, m + 2, none⟩) hg1 _⟩
                case measure => simp [intOf]; omega
            · by_cases hz : Z + 1 < X
              · have HV := Lib.hid (HST.out (Z + 1) (by have := HFX.out; rw [HA.out, HB2.out] at this; exact this.trans (mnV4 hy hz)))
                have HS2 := Lib.hid (HC.out.set (m + 2) (Z + 1))
                go_wp2_with (first | (go_at_call 59; with_reducible refine (spec_l1Eq b1 last f _ u10 u11 hl0 hl1).mono ?_; rintro e w2 ⟨rfl, rfl⟩; rw [HA.out]) | (go_at_call 59; with_reducible refine (spec_l1Eq b2 b f _ u20 u21 hb0 hb1).mono ?_; rintro e w2 ⟨rfl, rfl⟩; rw [HB2.out]))
                go_roundw
                case rel => exact ⟨m + 2 + 1, by omega, .inl (by omega), by go_num, by rw [← HV.out]; exact HS2.out, hb.setCell (p := ⟨g, m + 2, none⟩) hg1 _⟩
                case measure => simp [intOf]; omega
              · have HV := Lib.hid (HST.out (X) (by have := HFX.out; rw [HA.out, HB2.out] at this; exact this.trans (mnV5 hy hz)))
                have HS2 := Lib.hid (HC.out.set (m + 2) (X))
                go_wp2_with (first | (go_at_call 59; with_reducible refine (spec_l1Eq b1 last f _ u10 u11 hl0 hl1).mono ?_; rintro e w2 ⟨rfl, rfl⟩; rw [HA.out]) | (go_at_call 59; with_reducible refine (spec_l1Eq b2 b f _ u20 u21 hb0 hb1).mono ?_; rintro e w2 ⟨rfl, rfl⟩; rw [HB2.out]))
                go_roundw
                case rel => exact ⟨m + 2 + 1, by omega, .inl (by omega), by go_num, by rw [← HV.out]; exact HS2.out, hb.setCell (p := ⟨g, m + 2, none⟩) hg1 _⟩
                case measure => simp [intOf]; omega
    · have HR : Hid (tab (dI G C k) (s.size + 1) = tab G (s.size + 1)) := tab_congr fun i hi => by
        unfold dI; rw [if_pos (by omega)]
      have ki : ¬ (k : Int) ≤ (s.size : Int) := by omega
      have HC := Lib.hid hC
      clear hC HCI
      go_wp2
      go_ret
      exact ⟨_, _, rfl, by rw [← HR.out]; exact HC.out, hb⟩
end Go.Proofs.Ytgikjopmijomgab

/-
  Chapter 7, the model: l7Right, TrieStep.
-/
import Derived.Test.YtodmohepgmhipaaL7Right
namespace Go.Proofs.Ytodmohepgmhipaa
open Go.RowKit
set_option linter.unusedVariables false
set_option maxRecDepth 100000
theorem WellTo.succ {L : List Nd} {j : Nat} (h : WellTo L j) (hp : inB (ndAt L j).p 0 ((j : Int) - 1) = true) (hb : inB (ndAt L j).b 0 255 = true) : WellTo L (j + 1) := by
  intro i h0 hi
  by_cases e : i = j
  · subst e
    simp only [inB, Bool.and_eq_true, decide_eq_true_eq] at hp hb
    exact ⟨hp, hb⟩
  · exact h i h0 (by omega)
set_option maxHeartbeats 2000000 in
theorem spec_l7Right (L : List Nd) (a : Option Addr) (cap : Nat) (w : World) (h : Nds w a L) (hlen : L.length ≤ 1048576) (hK : ∀ i, i < L.length → (ndAt L i).K.length ≤ 1048576) :
    Calls Try.prog 52 #[.slice a L.length cap] w fun e w' => ∃ r : Bool, e = .returned (.bool r) ∧ (r = true ↔ Right L) ∧ Below w.heap.size w w' := by
  obtain ⟨i0, hi, ht0, ht1, ht2⟩ := info_parts int_info
  have HKL := Lib.hid hK
  clear hK
  go_enter Try.func52, Try.ntmps52
  go_wp2
  go_loopw [3] (fun i wr => ∃ j : Nat, 1 ≤ j ∧ (j ≤ L.length ∨ j = 1) ∧ i = .int .i64 j ∧ WellTo L j ∧ Below w.heap.size w wr)
    (fun i _ => L.length - (intOf i).toNat)
  case atStart => exact ⟨1, by omega, .inr rfl, rfl, fun i h0 hi => by omega, Below.refl _ _⟩
  case round =>
    obtain ⟨j, hj1, hjn, rfl, hW, hb⟩ := hrel
    by_cases hlt : j < L.length
    · obtain ⟨b, off, rfl, hA⟩ := (h.kept hb).at j hlt
      obtain ⟨c0, c1, c2, _, _⟩ := hA j hlt
      have jw : IntKind.i64.wrap ((j : Int) - 1) = (j : Int) - 1 := by rw [IntKind.wrap_i64]; omega
      have HNo := Lib.hid (show inB (ndAt L j).p 0 ((j : Int) - 1) = false ∨ inB (ndAt L j).b 0 255 = false → ¬ Right L from fun hn hR => by
        obtain ⟨hp, hb⟩ := hR.well j (by omega) hlt
        rcases hn with hn | hn
        · rw [inB_yes hp] at hn; exact Bool.noConfusion hn
        · rw [inB_yes hb] at hn; exact Bool.noConfusion hn)
      have HYes := Lib.hid (hW.succ)
      clear hA h hW
      cases hq : inB (ndAt L j).p 0 ((j : Int) - 1)
      · have HN := Lib.hid (HNo.out (.inl hq))
        have HQ := Lib.hid hq
        clear hq HNo HYes
        generalize (ndAt L j).p = pp at *
        generalize (ndAt L j).b = bb at *
        go_wp2_with (go_at_call 53; refine (spec_l1In _ _ _ _).mono ?_; rintro e w' ⟨rfl, rfl⟩; rw [HQ.out])
        go_ret
        exact ⟨false, rfl, ⟨fun e => Bool.noConfusion e, fun hR => absurd hR HN.out⟩, hb⟩
      · cases hq2 : inB (ndAt L j).b 0 255
        · have HN := Lib.hid (HNo.out (.inr hq2))
          have HQ := Lib.hid hq
          have HQ2 := Lib.hid hq2
          clear hq hq2 HNo HYes
          generalize (ndAt L j).p = pp at *
          generalize (ndAt L j).b = bb at *
          go_wp2_with (go_at_call 53; refine (spec_l1In _ _ _ _).mono ?_; rintro e w' ⟨rfl, rfl⟩; first | rw [HQ.out] | rw [HQ2.out])
          go_ret
          exact ⟨false, rfl, ⟨fun e => Bool.noConfusion e, fun hR => absurd hR HN.out⟩, hb⟩
        · have HW := Lib.hid (HYes.out hq hq2)
          have HQ := Lib.hid hq
          have HQ2 := Lib.hid hq2
          clear hq hq2 HNo HYes
          generalize (ndAt L j).p = pp at *
          generalize (ndAt L j).b = bb at *
          go_wp2_with (go_at_call 53; refine (spec_l1In _ _ _ _).mono ?_; rintro e w' ⟨rfl, rfl⟩; first | rw [HQ.out] | rw [HQ2.out])
          go_roundw
          case rel => exact ⟨j + 1, by omega, .inl (by omega), by go_num, HW.out, hb⟩
          case measure => simp [intOf]; omega
    · have HW := Lib.hid (show WellP L from fun i h0 hi => hW i h0 (by omega))
      clear hW hj1 hjn
      go_wp2
      go_loopw [4] (fun i wi => ∃ m : Nat, m ≤ L.length ∧ i = .int .i64 m ∧ (∀ i, i < m → NodeOk L i) ∧ Below w.heap.size w wi)
        (fun i _ => L.length - (intOf i).toNat)
      case atStart => exact ⟨0, by omega, rfl, fun i hi => by omega, hb⟩
      case round =>
        obtain ⟨m, hm, rfl, hN, hb2⟩ := hrel
        by_cases hlm : m < L.length
        · go_wp2_with fail
          go_loopw [5, 6] (fun v k wk => ∃ (q n : Nat) (a' : Option Addr) (cap' : Nat), m + 1 ≤ q ∧ q ≤ L.length ∧ k = .int .i64 q ∧ v = .slice a' n cap' ∧ OwnN wk w.heap.size a' n cap' (kidsFrom L m (q - (m + 1)) (m + 1)) ∧ Below w.heap.size w wk)
            (fun _ k _ => L.length - (intOf k).toNat)
          case atStart =>
            refine ⟨m + 1, 0, _, 0, Nat.le_refl _, hlm, by go_num, rfl, ?_, hb2.alloc hb2.size _⟩
            rw [Nat.sub_self]
            exact ⟨rfl, World.ownsRow_made _ #[] 0 hb2.size (by decide) rfl⟩
          case round =>
            obtain ⟨q, n, a', cap', hq0, hq1, rfl, rfl, hO, hb3⟩ := hrel
            by_cases hlq : q < L.length
            · obtain ⟨b, off, rfl, hA⟩ := (h.kept hb3).at q hlq
              obtain ⟨c0, c1, c2, _, _⟩ := hA q hlq
              have hsn := kidsFrom_snoc L m (q - (m + 1)) (m + 1)
              rw [show m + 1 + (q - (m + 1)) = q by omega, show q - (m + 1) + 1 = q + 1 - (m + 1) by omega] at hsn
              have hkl := kidsFrom_length L m (q - (m + 1)) (m + 1)
              have hnl := hO.len
              have HO := Lib.hid hO
              have HN := Lib.hid hN
              clear hA h hO hN
              generalize (ndAt L q).p = pp at *
              by_cases hp : pp = (m : Int)
              · subst hp
                rw [if_pos rfl] at hsn
                have HS := Lib.hid hsn
                clear hsn
                go_wp2_with (at_builtin; refine wpList_append_own _ rfl _ _ 56 rfl w.heap.size 2 i0 (.int .i64 0) 1 8 Try.underlying56 hi ht0 ht1 ht2 rfl (by decide) _ _ _ rfl (HO.out.2.alloc _) ⟨_, 0, none⟩ 1 1 [.int .i64 q] rfl rfl (one_new _ _ _) (int_one _) (by unfold maxLen; omega) (by omega) (by simp; have := hb3.size; omega) ?_; intro v' w1 hown' hg _)
                obtain ⟨a2, cap2, rfl, hO2⟩ := OwnN.shape (L := kidsFrom L m (q + 1 - (m + 1)) (m + 1)) (by rw [HS.out, List.map_append]; exact hown')
                have hB1 := (hb3.alloc hb3.size (.cells #[.int .i64 q] 2)).grown hg (by have := hb3.size; simp; omega) (fun j hj => (HO.out.2.lt j hj).1)
                have HO2 := Lib.hid hO2
                clear hown' hg hO2
                go_roundw
                case rel => exact ⟨q + 1, _, _, _, by omega, by omega, by go_num, rfl, HO2.out, hB1⟩
                case measure => simp [intOf]; omega
              · rw [if_neg hp] at hsn
                have HS := Lib.hid hsn
                have e1 : (pp == (m : Int)) = false := by simp [hp]
                clear hsn
                go_wp2_with fail
                go_roundw
                case rel => exact ⟨q + 1, n, a', cap', by omega, by omega, by go_num, rfl, by rw [HS.out]; exact HO.out, hb3⟩
                case measure => simp [intOf]; omega
            · obtain rfl : q = L.length := by omega
              obtain ⟨b, off, rfl, hA⟩ := (h.kept hb3).at m hlm
              obtain ⟨c0, c1, c2, ⟨a3, z3, c3, i3⟩, _⟩ := hA m hlm
              obtain rfl : (kidsL L m).length = n := hO.len
              have hI1 : Ints _ a' (kidsL L m) := hO.ints
              have hkl : (kidsL L m).length ≤ 1048576 := by have := kidsFrom_length L m (L.length - (m + 1)) (m + 1); unfold kidsL; omega
              have HKs := HKL.out m hlm
              have HNo := Lib.hid (show Right L → NodeOk L m from fun hR => hR.node m hlm)
              have HYes := Lib.hid (show NodeOk L m → ∀ i, i < m + 1 → NodeOk L i from fun hx i hi => by
                by_cases e : i = m
                · rw [e]; exact hx
                · exact hN i (by omega))
              have lw : IntKind.i64.wrap ((L.length : Int) - 1) = (L.length : Int) - 1 := by rw [IntKind.wrap_i64]; omega
              have LW := Lib.hid lw
              clear h hO hN lw
              go_wp2_with fail
              refine (spec_l1Same (kidsL L m) (ndAt L m).K _ _ _ _ _ hI1 i3 (by omega)).mono ?_
              rintro e w1 ⟨rfl, hb4⟩
              have f2 := (hb4.cell (p := ⟨b, _, none⟩) (block_lt_of_cell c2)).trans c2
              have hA1 : NdsAt w1 b off L := fun q hq => (hA q hq).kept hb4
              have hB5 := below_step hb3 hb4
              have HA1 := Lib.hid hA1
              clear hA hA1 hI1 i3 hkl HKs c0 c1 c2 c3 hb4
              have lw := LW.out
              by_cases hk : kidsL L m = (ndAt L m).K
              · rw [decide_eq_true hk]
                cases hq : inB (ndAt L m).f 0 ((L.length : Int) - 1)
                · have HN := Lib.hid (show ¬ Right L from fun hR => by
                    rw [inB_yes (HNo.out hR).2.1] at hq; exact Bool.noConfusion hq)
                  have HQ := Lib.hid hq
                  clear hq HNo HYes hk
                  generalize (ndAt L m).f = ff at *
                  go_wp2_with (go_at_call 53; refine (spec_l1In _ _ _ _).mono ?_; rintro e w' ⟨rfl, rfl⟩; rw [HQ.out])
                  go_ret
                  exact ⟨false, rfl, ⟨fun e => Bool.noConfusion e, fun hR => absurd hR HN.out⟩, hB5⟩
                · have hf : 0 ≤ (ndAt L m).f ∧ (ndAt L m).f ≤ (L.length : Int) - 1 := by simpa [inB] using hq
                  have HQ := Lib.hid hq
                  clear hq
                  by_cases h0 : m = 0
                  · subst h0
                    have f3 : w1.cell? ⟨b, off + 2, none⟩ = some (.int .i64 (ndAt L 0).f) := by rw [← f2]
                    by_cases hz : (ndAt L 0).f = 0
                    · have HN := Lib.hid (HYes.out ⟨hk.symm, hf, fun h => by omega, fun _ => hz⟩)
                      clear HNo HYes hk
                      rw [hz] at f3 f2 HQ
                      have HQ' := HQ
                      clear hf hz
                      go_wp2_with (go_at_call 53; refine (spec_l1In _ _ _ _).mono ?_; rintro e w' ⟨rfl, rfl⟩; rw [HQ'.out])
                      go_roundw
                      case rel => exact ⟨1, by omega, by go_num, HN.out, hB5⟩
                      case measure => simp [intOf]; omega
                    · have HN := Lib.hid (show ¬ Right L from fun hR => hz hR.none)
                      clear HNo HYes hk
                      generalize (ndAt L 0).f = ff at *
                      have hz2 : (ff != 0) = true := by simp [hz]
                      go_wp2_with (go_at_call 53; refine (spec_l1In _ _ _ _).mono ?_; rintro e w' ⟨rfl, rfl⟩; rw [HQ.out])
                      go_ret
                      exact ⟨false, rfl, ⟨fun e => Bool.noConfusion e, fun hR => absurd hR HN.out⟩, hB5⟩
                  · obtain ⟨F, hF⟩ := Int.eq_ofNat_of_zero_le hf.1
                    rw [hF] at f2 HQ
                    have hFl : F < L.length := by omega
                    have HD := Lib.hid (show deepN L F < deepN L m → NodeOk L m from fun hd => ⟨hk.symm, hf, fun _ => by rw [hF, Int.toNat_natCast]; exact hd, fun e => absurd e h0⟩)
                    have HD2 := Lib.hid (show Right L → deepN L F < deepN L m from fun hR => by have := (HNo.out hR).2.2.1 (by omega); rwa [hF, Int.toNat_natCast] at this)
                    clear HNo hk hf hF
                    have m0 : (0 : Int) < (m : Int) := by omega
                    have m1 : ((m : Int) == 0) = false := by simp; omega
                    go_wp2_with (go_at_call 53; refine (spec_l1In _ _ _ _).mono ?_; rintro e w' ⟨rfl, rfl⟩; rw [HQ.out])
                    refine (spec_l7Deep L b off cap F _ HA1.out hFl HW.out hlen).mono ?_
                    rintro e w2 ⟨rfl, hb6⟩
                    go_wp2_with fail
                    refine (spec_l7Deep L b off cap m _ (fun q hq => (HA1.out q hq).kept hb6) hlm HW.out hlen).mono ?_
                    rintro e w3 ⟨rfl, hb7⟩
                    have hB7 := below_step (below_step hB5 hb6) hb7
                    clear hb6 hb7
                    by_cases hd : deepN L F < deepN L m
                    · have HN := Lib.hid (HYes.out (HD.out hd))
                      clear HD HD2 HYes
                      generalize deepN L F = x at *
                      generalize deepN L m = y at *
                      have g1 : decide ((y : Int) ≤ (x : Int)) = false := decide_eq_false (by omega)
                      have g2 : decide (y ≤ x) = false := decide_eq_false (by omega)
                      go_wp2_with fail
                      go_roundw
                      case rel => exact ⟨m + 1, by omega, by go_num, HN.out, hB7⟩
                      case measure => simp [intOf]; omega
                    · have HN := Lib.hid (show ¬ Right L from fun hR => hd (HD2.out hR))
                      clear HD HD2 HYes
                      generalize deepN L F = x at *
                      generalize deepN L m = y at *
                      have g1 : decide ((y : Int) ≤ (x : Int)) = true := decide_eq_true (by omega)
                      have g2 : decide (y ≤ x) = true := decide_eq_true (by omega)
                      go_wp2_with fail
                      go_ret
                      exact ⟨false, rfl, ⟨fun e => Bool.noConfusion e, fun hR => absurd hR HN.out⟩, hB7⟩
              · rw [decide_eq_false hk]
                have HN := Lib.hid (show ¬ Right L from fun hR => hk (HNo.out hR).1.symm)
                clear HNo HYes hk
                go_wp2_with fail
                go_ret
                exact ⟨false, rfl, ⟨fun e => Bool.noConfusion e, fun hR => absurd hR HN.out⟩, hB5⟩
        · obtain rfl : m = L.length := by omega
          have HN := Lib.hid (right_of · · HW.out hN)
          have HI := fun h => Lib.hid (inB_yes (n := (L.length : Int)) (lo := 1) (hi := 400) h)
          have HI2 := fun h => Lib.hid (inB_no (n := (L.length : Int)) (lo := 1) (hi := 400) h)
          clear hN h
          by_cases hz : 1 ≤ (L.length : Int) ∧ (L.length : Int) ≤ 400
          · have HQ := HI hz
            clear HI HI2
            go_wp2_with (go_at_call 53; refine (spec_l1In _ _ _ _).mono ?_; rintro e w' ⟨rfl, rfl⟩; rw [HQ.out])
            go_ret
            exact ⟨true, rfl, ⟨fun _ => HN.out (by omega) (by omega), fun _ => rfl⟩, hb2⟩
          · have HQ := HI2 hz
            clear HI HI2
            go_wp2_with (go_at_call 53; refine (spec_l1In _ _ _ _).mono ?_; rintro e w' ⟨rfl, rfl⟩; rw [HQ.out])
            go_ret
            exact ⟨false, rfl, ⟨fun e => Bool.noConfusion e, fun hR => absurd hR (fun hR => by have := hR.low; have := hR.high; omega)⟩, hb2⟩
open Classical in
/-- what TrieStep gives -/
noncomputable def stepI (L : List Nd) (i x : Int) : Int := if Right L ∧ (0 ≤ i ∧ i ≤ (L.length : Int) - 1) ∧ 0 ≤ x ∧ x ≤ 255 then goN L i.toNat x else -1
theorem stepI_yes {L : List Nd} {i x : Int} (h : Right L ∧ (0 ≤ i ∧ i ≤ (L.length : Int) - 1) ∧ 0 ≤ x ∧ x ≤ 255) : stepI L i x = goN L i.toNat x := by unfold stepI; rw [if_pos h]
theorem stepI_no {L : List Nd} {i x : Int} (h : ¬ (Right L ∧ (0 ≤ i ∧ i ≤ (L.length : Int) - 1) ∧ 0 ≤ x ∧ x ≤ 255)) : stepI L i x = -1 := by unfold stepI; rw [if_neg h]
set_option maxHeartbeats 1000000 in
theorem spec_trieStep (L : List Nd) (a : Option Addr) (cap : Nat) (i x : Int) (w : World) (h : Nds w a L) (hlen : L.length ≤ 1048576) (hK : ∀ i, i < L.length → (ndAt L i).K.length ≤ 1048576) :
    Calls Try.prog 15 #[.slice a L.length cap, .int .i64 i, .int .i64 x] w fun e w' => e = .returned (.int .i64 (stepI L i x)) ∧ Below w.heap.size w w' := by
  have LW := Lib.hid (show IntKind.i64.wrap ((L.length : Int) - 1) = (L.length : Int) - 1 by rw [IntKind.wrap_i64]; omega)
  have HKL := Lib.hid hK
  clear hK
  go_enter Try.func15, Try.ntmps15
  go_wp2_with fail
  refine (spec_l7Right L a cap w h hlen HKL.out).mono ?_
  rintro e w1 ⟨r, rfl, hr, hb⟩
  have lw := LW.out
  cases r
  · have HN := Lib.hid (stepI_no (L := L) (i := i) (x := x) (fun hc => Bool.noConfusion (hr.2 hc.1)))
    clear hr
    go_wp2_with fail
    go_ret
    exact ⟨by rw [HN.out]; rfl, hb⟩
  · have hR := hr.1 rfl
    clear hr
    cases hq : inB i 0 ((L.length : Int) - 1)
    · have HN := Lib.hid (stepI_no (L := L) (i := i) (x := x) (fun hc => by rw [inB_yes hc.2.1] at hq; exact Bool.noConfusion hq))
      have HQ := Lib.hid hq
      clear hq hR
      go_wp2_with (go_at_call 53; refine (spec_l1In _ _ _ _).mono ?_; rintro e w' ⟨rfl, rfl⟩; rw [HQ.out])
      go_ret
      exact ⟨by rw [HN.out]; rfl, hb⟩
    · have hi : 0 ≤ i ∧ i ≤ (L.length : Int) - 1 := by simpa [inB] using hq
      have HQ := Lib.hid hq
      clear hq
      cases hq2 : inB x 0 255
      · have HN := Lib.hid (stepI_no (L := L) (i := i) (x := x) (fun hc => by rw [inB_yes hc.2.2] at hq2; exact Bool.noConfusion hq2))
        have HQ2 := Lib.hid hq2
        clear hq2 hR
        go_wp2_with (go_at_call 53; refine (spec_l1In _ _ _ _).mono ?_; rintro e w' ⟨rfl, rfl⟩; first | rw [HQ.out] | rw [HQ2.out])
        go_ret
        exact ⟨by rw [HN.out]; rfl, hb⟩
      · have hx : 0 ≤ x ∧ x ≤ 255 := by simpa [inB] using hq2
        obtain ⟨I, rfl⟩ := Int.eq_ofNat_of_zero_le hi.1
        have HN := Lib.hid (stepI_yes ⟨hR, hi, hx⟩)
        have HQ2 := Lib.hid hq2
        have hI : I < L.length := by omega
        obtain ⟨b, off, rfl, hA⟩ := (h.kept hb).at I hI
        have HA := Lib.hid hA
        have HR := Lib.hid hR
        clear hq2 hR hA h
        go_wp2_with (go_at_call 53; refine (spec_l1In _ _ _ _).mono ?_; rintro e w' ⟨rfl, rfl⟩; first | rw [HQ.out] | rw [HQ2.out])
        refine (spec_l7Go L b off cap I x _ HA.out hI HR.out HKL.out).mono ?_
        rintro e w2 ⟨rfl, hb2⟩
        go_wp2_with fail
        go_ret
        exact ⟨by rw [HN.out, Int.toNat_natCast]; rfl, below_step hb hb2⟩
end Go.Proofs.Ytodmohepgmhipaa

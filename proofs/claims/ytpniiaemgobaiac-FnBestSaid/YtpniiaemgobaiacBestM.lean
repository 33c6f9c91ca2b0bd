/-
  Chapter 17: BestOf's model.
-/
import Derived.Test.YtpniiaemgobaiacBestP
import Derived.Test.YtpniiaemgobaiacFoundIn
import Derived.BigRegion
namespace Go.Proofs.Ytpniiaemgobaiac
open Go.RowKit
set_option linter.unusedVariables false
set_option maxRecDepth 100000
theorem int0_info : (Try.prog.info? 3).map (fun i => (i.zero, i.size, i.bytes)) = some (some (.int .i64 0), 1, 8) := by kernel_rfl
theorem OwnM.made1 {w : World} {e B g n : Nat} (h : w.ownsRow B e 1 (.slice (some ⟨g, 0, none⟩) n n) n (madeCells (Value.int .i64 0).cells (n * 1)).toList) : OwnM e 1 w B (some ⟨g, 0, none⟩) n n (List.replicate n 0) := by
  refine ⟨by simp, ?_⟩
  have e : (madeCells (Value.int .i64 0).cells (n * 1)).toList = (List.replicate n (0 : Int)).map (Value.int .i64) := by
    rw [Nat.mul_one, List.map_replicate]; exact toList_madeCells_one _ _
  rw [← e]; exact h
theorem OwnM.beside {e m : Nat} {w w1 : World} {B g n cap : Nat} {L : List Int} {r : Nat} (h : OwnM e m w B (some ⟨g, 0, none⟩) n cap L) (hg : w.grownBy w1 (some r)) (hr : ¬ r = g) : OwnM e m w1 B (some ⟨g, 0, none⟩) n cap L :=
  ⟨h.1, h.2.kept hg (.inr fun e => hr (by cases e; rfl))⟩
theorem stepTo_200 {l : List Fd} (hl : FineF l) (W : Nat → Int) : ∀ j, j ≤ l.length → stepTo l W 200 j = (W 201, 0)
  | 0, _ => rfl
  | j + 1, h => by
    obtain ⟨f0, f1, f2, _⟩ := hl _ (getD_mem (l := l) (i := j) (by omega))
    rw [stepTo, if_neg (fun x => by have := x.1; omega), stepTo_200 hl W j (by omega)]
theorem wB_step {l : List Fd} (hl : FineF l) {q : Nat} (hq : q ≤ 200) : stepTo l (wB l) q l.length = (wB l q, cB l q) := by
  by_cases h : q < 200
  · obtain ⟨h1, h2⟩ := wB_at hl h
    rw [h1, h2]
  · obtain rfl : q = 200 := by omega
    rw [stepTo_200 hl _ _ (Nat.le_refl _), (wB_end l 201 (by omega)).1, (wB_end l 200 (by omega)).1, (wB_end l 200 (by omega)).2]
def sumsF (l : List Fd) (m i : Nat) : Int := if m ≤ i then wB l i else 0
def takeF (l : List Fd) (m i : Nat) : Int := if m ≤ i ∧ i ≤ 200 then (cB l i : Int) - 1 else 0
theorem tab_set (f g : Nat → Int) (n q : Nat) (x : Int) (hq : q < n) (hx : g q = x) (h : ∀ i, i < n → ¬ i = q → f i = g i) : (tab f n).set q x = tab g n := by
  refine tab_of (by rw [List.length_set, tab_length]) fun i hi => ?_
  rw [intAt_set _ _ _ _ (by rw [tab_length]; exact hq)]
  split
  · rename_i e; rw [← e, hx]
  · rename_i e; rw [intAt_tab _ _ _ hi]; exact h i hi (fun h => e h.symm)
theorem sums_set (l : List Fd) (q : Nat) (hq : q ≤ 200) : (tab (sumsF l (q + 1)) 202).set q (wB l q) = tab (sumsF l q) 202 :=
  tab_set _ _ _ _ _ (by omega) (if_pos (Nat.le_refl _)) fun i hi hne => by
    unfold sumsF
    by_cases h : q + 1 ≤ i
    · rw [if_pos h, if_pos (by omega)]
    · rw [if_neg h, if_neg (by omega)]
theorem take_set (l : List Fd) (q : Nat) (hq : q ≤ 200) : (tab (takeF l (q + 1)) 202).set q ((cB l q : Int) - 1) = tab (takeF l q) 202 :=
  tab_set _ _ _ _ _ (by omega) (if_pos ⟨Nat.le_refl _, hq⟩) fun i hi hne => by
    unfold takeF
    by_cases h : q + 1 ≤ i ∧ i ≤ 200
    · rw [if_pos h, if_pos (by omega)]
    · rw [if_neg h, if_neg (by omega)]
theorem sums_start (l : List Fd) : List.replicate 202 (0 : Int) = tab (sumsF l 201) 202 := by
  refine tab_of (by simp) fun i hi => ?_
  unfold sumsF intAt
  rw [List.getD_eq_getElem?_getD, List.getElem?_replicate, if_pos hi]
  split
  · rw [(wB_end l i (by omega)).1]; rfl
  · rfl
theorem take_start (l : List Fd) : List.replicate 202 (0 : Int) = tab (takeF l 201) 202 := by
  refine tab_of (by simp) fun i hi => ?_
  unfold takeF intAt
  rw [List.getD_eq_getElem?_getD, List.getElem?_replicate, if_pos hi, if_neg (by omega)]; rfl
theorem set_twice (L : List Int) (i : Nat) (x y : Int) : (L.set i x).set i y = L.set i y := by simp
def ChosenAt (l : List Fd) (w0 : World) (c x : Value) (wi : World) : Prop :=
  ∃ (q m cp g : Nat) (out : List Fd), q ≤ 201 ∧ x = .int .i64 (q : Int) ∧ c = .slice (some ⟨g, 0, none⟩) m cp ∧ out.length = m ∧ m ≤ q ∧ OwnM 30 3 wi w0.heap.size (some ⟨g, 0, none⟩) m cp (fdI out) ∧ bestF l = out ++ tailB l q ∧ Below w0.heap.size w0 wi
set_option maxHeartbeats 8000000 in
theorem spec_l17Best (l : List Fd) (n : Nat) (a : Option Addr) (cap : Nat) (w : World) (hl : l.length = n) (h : Ints w a (fdI l)) (hn20 : n ≤ 20) (hf : FineF l) :
    Calls Try.prog 54 #[.slice a n cap] w fun e w' => ∃ a' m cap', e = .returned (.tuple #[.slice a' m cap', .int .i64 (wB l 0)]) ∧ (bestF l).length = m ∧ OwnM 30 3 w' w.heap.size a' m cap' (fdI (bestF l)) ∧ Below w.heap.size w w' := by
  obtain ⟨i0, hi, ht0, ht1, ht2⟩ := info_parts found_info
  obtain ⟨i1, hi1, hu0, hu1, hu2⟩ := info_parts int_info
  obtain ⟨i2, hi2, hv0, hv1, hv2⟩ := info_parts int0_info
  have HL := Lib.hid hl; have HF := Lib.hid hf; have HH := Lib.hid h
  have HFL := Lib.hid (show (fdI l).length = n * 3 by rw [fdI_length, hl])
  clear hl hf h
  go_enter Try.func54, Try.ntmps54
  go_wp2_with (first
    | (at_make; refine wpList_make_full _ rfl _ _ 93 rfl w.heap.size 2 i1 (.int .i64 0) 1 Try.underlying93 hi1 hu0 hu1 _ _ _ _ 202 rfl rfl rfl rfl (by rw [hu2]; omega) (by unfold maxLen; omega) (Nat.le_refl _) ?_; intro w1 hown1 hg1; have hb1 : Below w.heap.size w w1 := ((Below.refl _ w).grown hg1 (Nat.le_refl _) (fun k hk => by cases hk)); have hO1 := OwnM.made1 hown1; have hz1 : w.heap.size < w1.heap.size := (hO1.2.lt w.heap.size rfl).2; clear hown1 hg1)
    | (at_make; refine wpList_make_full _ rfl _ _ 105 rfl w1.heap.size 3 i2 (.int .i64 0) 1 Try.underlying105 hi2 hv0 hv1 _ _ _ _ 202 rfl rfl rfl rfl (by rw [hv2]; omega) (by unfold maxLen; omega) (Nat.le_refl _) ?_; intro w2 hown2 hg2; have hb2 : Below w1.heap.size w1 w2 := ((Below.refl _ w1).grown hg2 (Nat.le_refl _) (fun k hk => by cases hk)); have hO2 := OwnM.made1 hown2; clear hown2 hg2))
  have hS := hO1.kept hb2
  rw [sums_start l] at hS
  rw [take_start l] at hO2
  have HS := Lib.hid hS; have HT := Lib.hid hO2; have HB2 := Lib.hid (below_step hb1 hb2)
  have hne : ¬ w.heap.size = w1.heap.size := by omega
  have hne2 : ¬ w1.heap.size = w.heap.size := by omega
  clear hO1 hO2 hS hb1 hb2
  generalize w1.heap.size = gT at *
  go_wp2_with fail
  go_loopw [6, 7] (fun x _ wr => ∃ m : Nat, m ≤ 201 ∧ x = .int .i64 ((m : Int) - 1) ∧ OwnM 2 1 wr w.heap.size (some ⟨w.heap.size, 0, none⟩) 202 202 (tab (sumsF l m) 202) ∧ OwnM 3 1 wr gT (some ⟨gT, 0, none⟩) 202 202 (tab (takeF l m) 202) ∧ Below w.heap.size w wr)
    (fun x _ _ => (intOf x + 1).toNat)
  case atStart => exact ⟨201, by omega, rfl, HS.out, HT.out, HB2.out⟩
  case round =>
    obtain ⟨m, hm, rfl, hS, hT, hb⟩ := hrel
    by_cases hm0 : m = 0
    · subst hm0
      have hbT : gT < wr.heap.size := (hT.2.lt gT rfl).2
      have hbS : w.heap.size < wr.heap.size := (hS.2.lt w.heap.size rfl).2
      have HS0 := Lib.hid hS; have HT0 := Lib.hid hT; have HB0 := Lib.hid hb
      have HO0 := Lib.hid (show OwnM 30 3 (wr.alloc (.cells #[] 30)) wr.heap.size (some ⟨wr.heap.size, 0, none⟩) 0 0 (fdI []) from ⟨rfl, World.ownsRow_made wr #[] 0 (Nat.le_refl _) (by decide) rfl⟩)
      have HBA := Lib.hid (show Below wr.heap.size wr (wr.alloc (.cells #[] 30)) from (Below.refl _ _).alloc (Nat.le_refl _) _)
      clear hS hT hb hm
      obtain ⟨wo, rfl⟩ : ∃ wo : World, wo = wr := ⟨_, rfl⟩
      go_wp2_with fail
      go_loopw [8, 9] (fun c x wi => ChosenAt l wo c x wi)
        (fun _ x _ => 201 - (intOf x).toNat)
      case atStart => exact ⟨0, 0, 0, _, [], by omega, rfl, rfl, rfl, by omega, HO0.out, rfl, HBA.out⟩
      case round =>
        obtain ⟨q, m, cp, g, out, hq, rfl, rfl, hm, hmq, hO, hp, hb⟩ := hrel
        have HM := Lib.hid hm; have HO := Lib.hid hO; have HB := Lib.hid hb; have HP := Lib.hid hp
        have hzw := hb.size
        have hT := HT0.out.kept hb
        clear hm hO hp
        by_cases hq2 : q ≤ 200
        · have c0 := hT.cell q (by omega)
          rw [intAt_tab _ _ _ (by omega), show takeF l 0 q = (cB l q : Int) - 1 from if_pos ⟨Nat.zero_le _, hq2⟩] at c0
          have hnx : cB l q = 0 → tailB l q = tailB l (q + 1) := fun e => by
            by_cases h : q < 200
            · exact tailB_none HF.out h e
            · rw [tailB_end l (by omega), tailB_end l (by omega)]
          have hq5 : ∀ i, cB l q = i + 1 → q < 200 := fun i e => by
            by_cases h : q < 200
            · exact h
            · rw [(wB_end l q (by omega)).2] at e; omega
          have hsm := fun i (e : cB l q = i + 1) => tailB_some (i := i) HF.out (hq5 i e) e
          obtain ⟨ci, hci⟩ : ∃ ci, cB l q = ci := ⟨_, rfl⟩
          rw [hci] at c0 hnx
          cases ci with
          | zero =>
            have HP2 := Lib.hid (show bestF l = out ++ tailB l (q + 1) by rw [HP.out, hnx rfl])
            rw [show ((0 : Nat) : Int) - 1 = -1 from rfl] at c0
            clear hnx hsm hq5 hci hb hT HP
            go_wp2_with fail
            go_roundw
            case rel => exact ⟨q + 1, m, cp, g, out, by omega, by go_num, rfl, HM.out, by omega, HO.out, HP2.out, HB.out⟩
            case measure => simp [intOf]; omega
          | succ i =>
            rw [show ((i + 1 : Nat) : Int) - 1 = (i : Int) by omega] at c0
            have hq6 := hq5 i hci
            obtain ⟨hil, hfq, htl⟩ := hsm i hci
            have hin : i < n := by rw [HL.out] at hil; exact hil
            obtain ⟨b, off, rfl, hq3⟩ := (HH.out.kept (HB0.out.trans (hb.mono HB0.out.size))).at (i * 3) (by rw [HFL.out]; omega)
            have d0 := hq3 (i * 3) (by rw [HFL.out]; omega)
            have d1 := hq3 (i * 3 + 1) (by rw [HFL.out]; omega)
            have d2 := hq3 (i * 3 + 2) (by rw [HFL.out]; omega)
            rw [← Nat.add_assoc] at d1 d2
            obtain ⟨q0, q1, q2⟩ := fdI_at l i hil
            rw [q0] at d0; rw [q1] at d1; rw [q2] at d2
            have hx := HF.out _ (fdAt_mem hil)
            obtain ⟨x, hxe⟩ : ∃ x, fdAt l i = x := ⟨_, rfl⟩
            rw [hxe] at hx htl d0 d1 d2 hfq
            obtain ⟨f, t, v⟩ := x
            simp only at d0 d1 d2 hx htl hfq
            obtain ⟨x0, x1, x2, x3, x4⟩ := hx
            obtain ⟨tn, rfl⟩ : ∃ tn : Nat, t = (tn : Int) := ⟨t.toNat, by omega⟩
            have HP2 := Lib.hid (show bestF l = (out ++ [⟨f, (tn : Int), v⟩]) ++ tailB l tn by rw [HP.out, htl, Int.toNat_natCast]; simp)
            have e0 : decide ((i : Int) < 0) = false := by simp
            have hbz : Below wr.heap.size wr (wr.alloc (.cells #[.int .i64 f, .int .i64 (tn : Int), .int .i64 v] 30)) := (Below.refl _ _).alloc (Nat.le_refl _) _
            have HBZ := Lib.hid (HB.out.trans (hbz.mono HB.out.size))
            have HK := Lib.hid (HO.out.kept hbz)
            have HCC := Lib.hid (cells_new wr #[Value.int .i64 f, .int .i64 (tn : Int), .int .i64 v] 30)
            have HRL := Lib.hid (show (fdI (out ++ [⟨f, (tn : Int), v⟩])).length = (m + 1) * 3 by rw [fdI_length, List.length_append, HM.out]; rfl)
            have HR := Lib.hid (show fdI (out ++ [⟨f, (tn : Int), v⟩]) = fdI out ++ [f, (tn : Int), v] from fdI_append _ _)
            have HQ1 := Lib.hid (show intAt (fdI l) (i * 3 + 1) = (tn : Int) by rw [q1, hxe])
            have HTQ := Lib.hid (show intAt (tab (takeF l 0) 202) q = (i : Int) by rw [intAt_tab _ _ _ (by omega), show takeF l 0 q = (cB l q : Int) - 1 from if_pos ⟨Nat.zero_le _, hq2⟩, hci]; omega)
            have htq : q < tn := by omega
            clear hq3 q0 q1 q2 hxe hbz hb hsm hnx hq5 hci htl hfq hil HP x0 x1 x3 x4 hT
            go_wp2_with (at_builtin; go_must (refine wpList_append_own _ rfl _ _ 24 rfl wo.heap.size 30 i0 (.agg #[.int .i64 0, .int .i64 0, .int .i64 0]) 3 24 Try.underlying24 hi ht0 ht1 ht2 rfl (by decide) _ _ _ rfl HK.out.2 ⟨wr.heap.size, 0, none⟩ 1 1 [.int .i64 f, .int .i64 (tn : Int), .int .i64 v] rfl rfl HCC.out (by simp [Value.oneCell']) (by unfold maxLen; omega) (by omega) (by simp; omega) ?_; intro v' w4 hown' hg _; replace hg : World.grownBy _ w4 (Value.slice (some ⟨g, 0, none⟩) m cp).ownBlock := hg; obtain ⟨g4, cap4, e4, hO4⟩ : ∃ g4 cap4, v' = .slice (some ⟨g4, 0, none⟩) (m + 1) cap4 ∧ OwnM 30 3 w4 wo.heap.size (some ⟨g4, 0, none⟩) (m + 1) cap4 (fdI (out ++ [⟨f, (tn : Int), v⟩])) := (by obtain ⟨a4, cap4, e4, hO'⟩ := OwnM.shape HRL.out (by rw [HR.out, List.map_append]; exact hown'); obtain ⟨g4, rfl, _⟩ := hO'.head 0 (by omega); exact ⟨g4, cap4, e4, hO'⟩); subst e4; have hB4 := HBZ.out.trans (HK.out.turn (by simp; omega) hg); obtain ⟨b5, off5, hbe, hq5⟩ := (HH.out.kept (HB0.out.trans (hB4.mono HB0.out.size))).at (i * 3 + 1) (by rw [HFL.out]; omega); cases hbe; have c5 := hq5 (i * 3 + 1) (by rw [HFL.out]; omega); rw [← Nat.add_assoc, HQ1.out] at c5; have c6 := (HT0.out.kept hB4).cell q (by omega); rw [HTQ.out] at c6; have HO4 := Lib.hid hO4; have HB4 := Lib.hid hB4; clear hown' hg hO4 hB4 hq5))
            go_roundw
            case rel => exact ⟨tn, m + 1, cap4, g4, out ++ [⟨f, (tn : Int), v⟩], by omega, rfl, rfl, by rw [List.length_append, HM.out]; rfl, by omega, HO4.out, HP2.out, HB4.out⟩
            case measure => simp [intOf]; omega
        · obtain rfl : q = 201 := by omega
          have HP2 := Lib.hid (show bestF l = out by rw [HP.out, tailB_end l (by omega)]; simp)
          have HBF := Lib.hid (HB0.out.trans (hb.mono HB0.out.size))
          have c0 := (HS0.out.kept hb).cell 0 (by omega)
          rw [intAt_tab _ _ _ (by omega), show sumsF l 0 0 = wB l 0 from if_pos (Nat.zero_le _)] at c0
          clear hb hT HP hq hmq hq2
          go_wp2_with fail
          go_quiet (fail)
          go_wp2_with fail
          go_ret2
          rw [HP2.out]
          exact ⟨_, _, _, rfl, HM.out, (HO.out.mono (by omega)).kept (below_drewN (Below.refl _ _) _), below_drewN HBF.out _⟩
    · obtain ⟨q, rfl⟩ : ∃ q, m = q + 1 := ⟨m - 1, by omega⟩
      rw [show (((q + 1 : Nat) : Int) - 1) = (q : Int) by omega]
      have hq : q ≤ 200 := by omega
      have c1 := hS.cell (q + 1) (by omega)
      rw [intAt_tab _ _ _ (by omega)] at c1
      have e1 : sumsF l (q + 1) (q + 1) = wB l (q + 1) := if_pos (Nat.le_refl _)
      rw [e1] at c1
      have c0 := hS.cell q (by omega)
      have f0 := hS.frozen q
      have d0 := hT.cell q (by omega)
      have g0 := hT.frozen q
      have hS1 := hS.set q (wB l (q + 1))
      have hT1 := hT.beside (hS.set_grown q (wB l (q + 1))) hne
      have hT2 := hT1.set q (-1)
      have hS2 := hS1.beside (hT1.set_grown q (-1)) hne2
      have HS2 := Lib.hid hS2; have HT2 := Lib.hid hT2
      have HB3 := Lib.hid ((hb.setCell (p := ⟨w.heap.size, q, none⟩) (Nat.le_refl _) (.int .i64 (wB l (q + 1)))).setCell (p := ⟨gT, q, none⟩) (by show _ ≤ gT; omega) (.int .i64 (-1)))
      have hz0 := dpB_bnd HF.out 200 (q + 1)
      have HST := Lib.hid (wB_step HF.out hq)
      rw [HL.out] at HST
      have hst0 : stepTo l (wB l) q 0 = (wB l (q + 1), 0) := rfl
      have HST0 := Lib.hid hst0
      generalize wB l (q + 1) = m1 at *
      have kw : IntKind.i64.wrap ((q : Int) + 1) = (q : Int) + 1 := by rw [IntKind.wrap_i64]; omega
      have k0 : (0 : Int) ≤ (q : Int) + 1 := by omega
      have k1 : (q : Int) + 1 < 202 := by omega
      have k2 : (q : Int) < 202 := by omega
      have kt : ((q : Int) + 1).toNat = q + 1 := by omega
      clear hS hT hb e1 hS1 hT1 hT2 hS2 hm hm0 hst0 hz0
      go_wp2_with fail
      go_loopw [7] (fun x wi => ∃ j : Nat, j ≤ n ∧ x = .int .i64 (j : Int) ∧ OwnM 2 1 wi w.heap.size (some ⟨w.heap.size, 0, none⟩) 202 202 ((tab (sumsF l (q + 1)) 202).set q (stepTo l (wB l) q j).1) ∧ OwnM 3 1 wi gT (some ⟨gT, 0, none⟩) 202 202 ((tab (takeF l (q + 1)) 202).set q (((stepTo l (wB l) q j).2 : Int) - 1)) ∧ Below w.heap.size w wi)
        (fun x _ => n - (intOf x).toNat)
      case atStart => exact ⟨0, by omega, rfl, by rw [HST0.out]; exact HS2.out, by rw [HST0.out]; exact HT2.out, HB3.out⟩
      case round =>
        obtain ⟨j, hj, rfl, hS, hT, hb⟩ := hrel
        by_cases hjn : j < n
        · obtain ⟨b, off, rfl, hp⟩ := (HH.out.kept hb).at (j * 3) (by rw [HFL.out]; omega)
          have x0 := hp (j * 3) (by rw [HFL.out]; omega)
          have x1 := hp (j * 3 + 1) (by rw [HFL.out]; omega)
          have x2 := hp (j * 3 + 2) (by rw [HFL.out]; omega)
          rw [← Nat.add_assoc] at x1 x2
          obtain ⟨q0, q1, q2⟩ := fdI_at l j (by rw [HL.out]; exact hjn)
          rw [q0] at x0; rw [q1] at x1; rw [q2] at x2
          obtain ⟨y0, y1, y2, y3, y4⟩ := HF.out _ (fdAt_mem (l := l) (i := j) (by rw [HL.out]; exact hjn))
          have hst : stepTo l (wB l) q (j + 1) = if (fdAt l j).f = (q : Int) ∧ (stepTo l (wB l) q j).1 < (fdAt l j).w + wB l (fdAt l j).t.toNat then ((fdAt l j).w + wB l (fdAt l j).t.toNat, j + 1) else stepTo l (wB l) q j := rfl
          have hsb := stepTo_bnd HF.out (fun a => dpB_bnd HF.out 200 a) q j (by rw [HL.out]; omega)
          have hsb2 : 0 ≤ (stepTo l (wB l) q j).1 ∧ (stepTo l (wB l) q j).1 ≤ 201000 := by
            show 0 ≤ (stepTo l (dpB l 200).1 q j).1 ∧ (stepTo l (dpB l 200).1 q j).1 ≤ 201000
            omega
          have hbl := block_lt_of_cell x0
          have hbw : b < w.heap.size := by
            rcases HH.out with e | ⟨b5, off5, e5, hq5⟩
            · have := HFL.out; rw [e] at this; simp at this; omega
            · cases e5; have := block_lt_of_cell (hq5 0 (by rw [HFL.out]; omega)); exact this
          have hb1 : ¬ b = w.heap.size := by omega
          have hb2 : ¬ b = gT := by omega
          have hb3 : ¬ w.heap.size = b := by omega
          have hb4 : ¬ gT = b := by omega
          generalize (fdAt l j).f = f at *
          generalize (fdAt l j).t = t at *
          generalize (fdAt l j).w = v at *
          clear hp q0 q1 q2 hsb
          have HSJ := Lib.hid hS; have HTJ := Lib.hid hT; have HBJ := Lib.hid hb
          by_cases hfq : f = (q : Int)
          · obtain ⟨tn, rfl⟩ : ∃ tn : Nat, t = (tn : Int) := ⟨t.toNat, by omega⟩
            rw [Int.toNat_natCast] at hst
            have htn : tn < 202 := by omega
            have hMt : 0 ≤ wB l tn ∧ wB l tn ≤ 200000 := by have := dpB_bnd HF.out 200 tn; exact ⟨this.1, by have h := this.2; exact (by omega : (dpB l 200).1 tn ≤ 200000)⟩
            have s1 := hS.cell tn (by omega)
            have et : intAt ((tab (sumsF l (q + 1)) 202).set q (stepTo l (wB l) q j).1) tn = wB l tn := by
              rw [intAt_set _ _ _ _ (by rw [tab_length]; omega), if_neg (by omega), intAt_tab _ _ _ htn]; exact if_pos (by omega)
            rw [et] at s1
            have s0 := hS.cell q (by omega)
            have eq0 : intAt ((tab (sumsF l (q + 1)) 202).set q (stepTo l (wB l) q j).1) q = (stepTo l (wB l) q j).1 := by
              rw [intAt_set _ _ _ _ (by rw [tab_length]; omega), if_pos rfl]
            rw [eq0] at s0
            have t0 := hT.cell q (by omega)
            have f1 := hS.frozen q
            have f2 := hT.frozen q
            generalize wB l tn = mt at *
            obtain ⟨cu, hcu⟩ : ∃ cu, (stepTo l (wB l) q j).1 = cu := ⟨_, rfl⟩
            rw [hcu] at s0 hsb2
            subst hfq
            have e0 : ((q : Int) == (q : Int)) = true := by simp
            have kv : IntKind.i64.wrap (v + mt) = v + mt := by rw [IntKind.wrap_i64]; omega
            have t3 : (0 : Int) ≤ (tn : Int) := by omega
            have t4 : (tn : Int) < 202 := by omega
            by_cases hlt : cu < v + mt
            · have HSN := Lib.hid (show stepTo l (wB l) q (j + 1) = (v + mt, j + 1) by rw [hst, if_pos ⟨rfl, by rw [hcu]; exact hlt⟩])
              have e1 : decide (cu < v + mt) = true := decide_eq_true hlt
              have HSF := Lib.hid (fun (W : World) (hW : W.heap = wr.heap) => show OwnM 2 1 ((W.setCell ⟨w.heap.size, q, none⟩ (.int .i64 (v + mt))).setCell ⟨gT, q, none⟩ (.int .i64 (j : Int))) w.heap.size (some ⟨w.heap.size, 0, none⟩) 202 202 ((tab (sumsF l (q + 1)) 202).set q (v + mt)) ∧ OwnM 3 1 ((W.setCell ⟨w.heap.size, q, none⟩ (.int .i64 (v + mt))).setCell ⟨gT, q, none⟩ (.int .i64 (j : Int))) gT (some ⟨gT, 0, none⟩) 202 202 ((tab (takeF l (q + 1)) 202).set q (((j + 1 : Nat) : Int) - 1)) by
                have a1 := (HSJ.out.on (w1 := W) (fun g _ => by rw [hW])).set q (v + mt)
                have a2 := (HTJ.out.on (w1 := W) (fun g _ => by rw [hW])).beside ((HSJ.out.on (w1 := W) (fun g _ => by rw [hW])).set_grown q (v + mt)) hne
                have a3 := a1.beside (a2.set_grown q (j : Int)) hne2
                have a4 := a2.set q (j : Int)
                rw [set_twice] at a3 a4
                rw [show (((j + 1 : Nat) : Int) - 1) = (j : Int) by omega]
                exact ⟨a3, a4⟩)
              clear hst hcu hlt hS hT hb et eq0 y0 y1 y2 y3 y4 hMt hsb2
              go_wp2_with fail
              go_quiet (fail)
              go_wp2_with fail
              go_region
              all_goals
                go_wp2_with fail
                go_roundw
                case rel =>
                  obtain ⟨z1, z2⟩ := HSF.out _ (show World.heap (World.drew (World.drewN wr _)) = wr.heap from rfl)
                  refine ⟨j + 1, by omega, by go_num, by rw [HSN.out]; exact z1, by rw [HSN.out]; exact z2, ?_⟩
                  exact (((below_drewN HBJ.out _).drew).setCell (p := ⟨w.heap.size, q, none⟩) (Nat.le_refl _) _).setCell (p := ⟨gT, q, none⟩) (by show _ ≤ gT; omega) _
                case measure => simp [intOf]; omega
            · have HSN := Lib.hid (show stepTo l (wB l) q (j + 1) = stepTo l (wB l) q j by rw [hst, if_neg (fun x => hlt (by rw [← hcu]; exact x.2))])
              have e1 : decide (cu < v + mt) = false := decide_eq_false hlt
              clear hst hcu hlt hS hT hb et eq0 y0 y1 y2 y3 y4 t0 f1 f2 hMt hsb2
              go_wp2_with fail
              go_quiet (fail)
              go_wp2_with fail
              go_roundw
              case rel => exact ⟨j + 1, by omega, by go_num, by rw [HSN.out]; exact HSJ.out.kept (below_drewN (Below.refl _ _) _), by rw [HSN.out]; exact HTJ.out.kept (below_drewN (Below.refl _ _) _), below_drewN HBJ.out _⟩
              case measure => simp [intOf]; omega
          · have HSN := Lib.hid (show stepTo l (wB l) q (j + 1) = stepTo l (wB l) q j by rw [hst, if_neg (fun x => hfq x.1)])
            have e0 : (f == (q : Int)) = false := by simp [hfq]
            clear hst hfq hS hT hb y0 y1 y2 y3 y4 hsb2
            go_wp2_with fail
            go_quiet (fail)
            go_wp2_with fail
            go_roundw
            case rel => exact ⟨j + 1, by omega, by go_num, by rw [HSN.out]; exact HSJ.out.kept (below_drewN (Below.refl _ _) _), by rw [HSN.out]; exact HTJ.out.kept (below_drewN (Below.refl _ _) _), below_drewN HBJ.out _⟩
            case measure => simp [intOf]; omega
        · obtain rfl : j = n := by omega
          rw [HST.out] at hS hT
          simp only at hS hT
          rw [sums_set l q hq] at hS
          rw [take_set l q hq] at hT
          have HSJ := Lib.hid hS; have HTJ := Lib.hid hT; have HBJ := Lib.hid hb
          clear hS hT hb
          go_wp2_with fail
          go_roundw
          case rel => exact ⟨q, by omega, rfl, HSJ.out, HTJ.out, HBJ.out⟩
          case measure => simp [intOf]
set_option maxHeartbeats 1000000 in
theorem spec_bestOf (l : List Fd) (n : Nat) (a : Option Addr) (cap : Nat) (w : World) (hl : l.length = n) (h : Ints w a (fdI l)) (hlen : n ≤ 1048576) :
    Calls Try.prog 20 #[.slice a n cap] w fun e w' => ∃ a' cap', e = .returned (.tuple #[.slice a' (bestV l).length cap', .int .i64 (bestW l)]) ∧ OwnM 30 3 w' w.heap.size a' (bestV l).length cap' (fdI (bestV l)) ∧ Below w.heap.size w w' := by
  have HF := Lib.hid (show (fdI l).length = n * 3 by rw [fdI_length, hl])
  have HL := Lib.hid hl
  have hV : bestV l = if foundOkB (fdI l) l.length = true then bestF l else [] := rfl
  have hW : bestW l = if foundOkB (fdI l) l.length = true then wB l 0 else -1 := rfl
  have hfine := found_fine l
  rw [hl] at hV hW hfine
  obtain ⟨ok, hok⟩ : ∃ ok, foundOkB (fdI l) n = ok := ⟨_, rfl⟩
  rw [hok] at hV hW hfine
  have HOK := Lib.hid hok
  have HH := Lib.hid h
  clear hl hok h
  cases ok
  · have HV := Lib.hid (show bestV l = [] from hV)
    have HW := Lib.hid (show bestW l = -1 from hW)
    clear hV hW hfine
    go_enter Try.func20, Try.ntmps20
    go_wp2_with fail
    refine (spec_foundOk (fdI l) n a cap _ HF.out HH.out (by omega)).mono ?_
    rintro e w1 ⟨rfl, hb1⟩
    rw [HOK.out]
    have HO1 := Lib.hid (show OwnM 30 3 (w1.alloc (.cells #[] 30)) w1.heap.size (some ⟨w1.heap.size, 0, none⟩) 0 0 (fdI []) from ⟨rfl, World.ownsRow_made w1 #[] 0 (Nat.le_refl _) (by decide) rfl⟩)
    go_wp2_with fail
    go_ret2
    rw [HV.out, HW.out]
    exact ⟨_, _, rfl, HO1.out.mono hb1.size, hb1.alloc hb1.size _⟩
  · have HV := Lib.hid (show bestV l = bestF l from hV)
    have HW := Lib.hid (show bestW l = wB l 0 from hW)
    obtain ⟨hf, hn20⟩ := hfine.1 rfl
    have HFI := Lib.hid hf
    clear hV hW hfine hf
    go_enter Try.func20, Try.ntmps20
    go_wp2_with fail
    refine (spec_foundOk (fdI l) n a cap _ HF.out HH.out (by omega)).mono ?_
    rintro e w1 ⟨rfl, hb1⟩
    rw [HOK.out]
    go_wp2_with fail
    refine (spec_l17Best l n a cap _ HL.out (HH.out.kept hb1) hn20 HFI.out).mono ?_
    rintro e w2 ⟨a', m, cap', rfl, hm, hO, hb2⟩
    have HM := Lib.hid hm
    clear hm
    go_wp2_with fail
    go_ret2
    rw [HV.out, HW.out, HM.out]
    exact ⟨_, _, rfl, hO.mono hb1.size, below_step hb1 hb2⟩
end Go.Proofs.Ytpniiaemgobaiac

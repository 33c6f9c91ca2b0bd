/-
  FnNearBy: the walk.
-/
import Derived.Test.YtpniiaemgobaiabTrees
import Derived.Test.YtpniiaemgobaiabNearImT
import Derived.Test.YtpniiaemgobaiabNearSpT
import Derived.Test.YtpniiaemgobaiabNearIm
import Derived.Test.YtpniiaemgobaiabNearSp
import Derived.Test.YtpniiaemgobaiabSameTx
namespace Go.Proofs.Ytpniiaemgobaiab
open Go.RowKit
set_option linter.unusedVariables false
set_option maxRecDepth 100000
theorem bkTo_from {t : Nat → ByteArray} : ∀ m j, j < (bkTo t m).length → ∃ i, i < m ∧ (bkAt (bkTo t m) j).t = t i
  | 0, j, h => by simp [bkTo] at h
  | m + 1, j, h => by
    by_cases hj : j < (bkTo t m).length
    · obtain ⟨i, hi, e⟩ := bkTo_from m j hj
      exact ⟨i, by omega, by show (bkAt (addB _ _) j).t = _; rw [(addB_old hj).2]; exact e⟩
    · refine ⟨m, by omega, ?_⟩
      rw [bkTo] at h ⊢
      unfold addB at h ⊢
      split at h
      · rename_i e
        rw [if_pos e]
        have : j = 0 := by simp at h; omega
        subst this; rfl
      · rename_i e
        rw [if_neg e]
        split at h
        · exact absurd h hj
        · rename_i p d hg
          rw [List.length_append, List.length_singleton] at h
          have : j = (bkTo t m).length := by omega
          subst this
          rw [bkAt_new]
/-- what is near by is what is near in the tree -/
theorem near_tree {t : Nat → ByteArray} {m : Nat} {s : ByteArray} {k q : Int} (ht : ∀ i, (t i).size ≤ 20) (h : nearOkB t m s k q = true) :
    treeOkB (bkTo t m) s k = true ∧ nearT (bkTo t m) s k = nearV t m s k q := by
  have hV := nearV_yes h
  rw [nearOkB_eq] at h
  simp only [Bool.and_eq_true] at h
  obtain ⟨⟨h1, h2⟩, h4⟩ := h
  obtain ⟨_, hm⟩ := wordsOkB_iff.1 h1
  have hF := (tree_facts (t := t) (m := m) ht hm).2.2.2
  unfold nearArgB at h2
  simp only [Bool.and_eq_true] at h2
  have hT : treeOkB (bkTo t m) s k = true := by unfold treeOkB; rw [hF, h2.1, h2.2]; rfl
  refine ⟨hT, ?_⟩
  have e : nearT (bkTo t m) s k = nearTo (fun i => (bkAt (bkTo t m) i).t) s k (bkTo t m).length := if_pos hT
  rw [e, hV]
  refine rise_eq (nearTo_rise _ _ _ _) (nearTo_rise _ _ _ _) fun u => ?_
  rw [near_found, near_found, found_iff, found_iff]
  constructor
  · rintro ⟨j, hj, hd, hu⟩
    obtain ⟨i, hi, e2⟩ := bkTo_from m j hj
    simp only [e2] at hd hu
    exact ⟨i, hi, hd, hu⟩
  · rintro ⟨i, hi, hd, hu⟩
    obtain ⟨j, hj, e2⟩ := bkTo_has (n := m) (t := t) (fun i _ => by have := ht i; omega) m (Nat.le_refl _) i hi
    exact ⟨j, hj, by simp only [e2]; exact hd, by simp only [e2]; exact hu⟩
theorem near_each {t : Nat → ByteArray} {m : Nat} {s : ByteArray} {k q : Int} (ht : ∀ i, (t i).size ≤ 20) (h : nearOkB t m s k q = true) :
    (∀ j, j < (nearV t m s k q).length → mayB (txt ((nearV t m s k q).getD j [])) s k q = true ∧ (txt ((nearV t m s k q).getD j [])).size ≤ 20) ∧
    (∀ j, j + 1 < (nearV t m s k q).length → (nearV t m s k q).getD j [] < (nearV t m s k q).getD (j + 1) []) := by
  have hV := nearV_yes h
  rw [nearOkB_eq] at h
  simp only [Bool.and_eq_true] at h
  obtain ⟨⟨h1, h2⟩, h4⟩ := h
  unfold nearArgB at h2
  simp only [Bool.and_eq_true, decide_eq_true_eq] at h2
  obtain ⟨z2, z3⟩ := nearIn.1 h2.2
  obtain ⟨z4, z5⟩ := nearIn.1 h4
  obtain ⟨qn, rfl⟩ : ∃ qn : Nat, q = (qn : Int) := ⟨q.toNat, by omega⟩
  have hR : RiseL (nearV t m s k (qn : Int)) := by rw [hV]; exact nearTo_rise _ _ _ _
  refine ⟨fun j hj => ?_, fun j hj => ?_⟩
  · have hm : (nearV t m s k (qn : Int)).getD j [] ∈ nearV t m s k (qn : Int) := by rw [List.getD_eq_getElem?_getD, List.getElem?_eq_getElem hj]; exact List.getElem_mem hj
    rw [hV] at hm
    rw [near_found, found_iff] at hm
    obtain ⟨i, hi, hd, hu⟩ := hm
    rw [hV, hu, txt_bl]
    exact ⟨near_may (ht i) h2.1 (by omega) (by omega) z2 z3 hd, ht i⟩
  · rw [List.getD_eq_getElem?_getD, List.getD_eq_getElem?_getD, List.getElem?_eq_getElem hj, List.getElem?_eq_getElem (show j < (nearV t m s k (qn : Int)).length by omega)]
    exact (List.pairwise_iff_getElem.1 hR) j (j + 1) (by omega) hj (by omega)
set_option maxHeartbeats 4000000 in
theorem drawNearBy (a : Option Addr) (len cap : Nat) (z : List Int) (w : World) (hr : IsRow .u8 w a len cap z) (hl : len ≤ 1048576) :
    Calls Try.prog 22 #[.slice a len cap] w fun e w' => ∃ (L : List (List UInt8)) (m : Nat) (a' : Option Addr) (cp : Nat) (s : ByteArray) (k q : Int), e = .returned (.tuple #[.slice a' m cp, .string s, .int .i64 k, .int .i64 q]) ∧ L.length = m ∧ m ≤ 10 ∧ (∀ x ∈ L, x.length ≤ 6) ∧ s.size ≤ 8 ∧ (0 ≤ k ∧ k ≤ 3) ∧ i64B q ∧ OwnV 9 1 w' w.heap.size a' m cp (strs L) ∧ Below w.heap.size w w' := by
  go_enter Try.func22, Try.ntmps22
  go_wp2_with fail
  refine (l1Open_any _ _ _ _ _ hr hl).mono ?_
  rintro e w1 ⟨rfl, hok, hb⟩
  go_wp2_with fail
  refine (rd_words _ _ _ _ _ _ hok 9 (by omega)).mono ?_
  rintro e w2 ⟨L, m, a1, c1, rfl, hL, hm, hx, hO, hok2, hg2⟩
  have hB2 := below_rd hb hg2
  have hR := hok.lt
  have HL := Lib.hid hL; have HX := Lib.hid hx
  have hBB := hb.size
  replace hO := hO.mono (C := w1.heap.size) (Nat.le_refl _)
  clear hL hx hb hg2 hr hok
  go_wp2_with fail
  refine (rd_term _ _ _ _ _ _ hok2 5 (by omega)).mono ?_
  rintro e w3 ⟨s, rfl, hs, hok3, hg3⟩
  replace hO := hO.rd hg3 hR
  have hB3 := below_rd hB2 hg3
  clear hok2 hB2 hg3
  by_cases hm0 : m = 0
  · have hm1 : decide ((0 : Int) < (m : Int)) = false := by simp; omega
    have hm2 : decide (0 < m) = false := by simp; omega
    clear hm0
    go_wp2_with fail
    refine (rd_below _ _ _ _ _ _ hok3 _).mono ?_
    rintro e w4 ⟨k, rfl, ⟨hk0, _, hk1, _⟩, hok4, hg4⟩
    have hk2 : k < 4 := hk1 (by omega)
    replace hO := hO.rd hg4 hR
    have hB4 := below_rd hB3 hg4
    clear hk1 hok3 hB3 hg4
    go_wp2_with fail
    refine (rd_off _ _ _ _ _ _ hok4 _ _ (by omega) (by omega) (by omega) (by omega)).mono ?_
    rintro e w5 ⟨q, rfl, hq, hok5, hg5⟩
    replace hO := hO.rd hg5 hR
    have hB5 := below_rd hB4 hg5
    clear hok4 hB4 hg5
    go_wp2
    exact bodyPost_ret (v := .tuple #[.slice a1 m c1, .string s, .int .i64 k, .int .i64 q]) (by simp [results, Try.results22, go_sem]) rfl ⟨L, m, _, c1, s, k, q, rfl, HL.out, by omega, HX.out, by omega, by omega, hq, hO.mono (by omega), hB5⟩
  · have hm1 : decide ((0 : Int) < (m : Int)) = true := by simp; omega
    have hm2 : decide (0 < m) = true := by simp; omega
    go_wp2_with fail
    refine (rd_once _ _ _ _ _ _ hok3 _ (by omega) (by omega)).mono ?_
    rintro e w5 ⟨c, rfl, hok5, hg5⟩
    replace hO := hO.rd hg5 hR
    have hB5 := below_rd hB3 hg5
    clear hok3 hB3 hg5
    cases c
    · go_wp2_with fail
      refine (rd_below _ _ _ _ _ _ hok5 _).mono ?_
      rintro e w6 ⟨k, rfl, ⟨hk0, _, hk1, _⟩, hok6, hg6⟩
      have hk2 : k < 4 := hk1 (by omega)
      replace hO := hO.rd hg6 hR
      have hB6 := below_rd hB5 hg6
      clear hk1 hok5 hB5 hg6
      go_wp2_with fail
      refine (rd_off _ _ _ _ _ _ hok6 _ _ (by omega) (by omega) (by omega) (by omega)).mono ?_
      rintro e w7 ⟨q, rfl, hq, hok7, hg7⟩
      replace hO := hO.rd hg7 hR
      have hB7 := below_rd hB6 hg7
      clear hok6 hB6 hg7
      go_wp2
      exact bodyPost_ret (v := .tuple #[.slice a1 m c1, .string s, .int .i64 k, .int .i64 q]) (by simp [results, Try.results22, go_sem]) rfl ⟨L, m, _, c1, s, k, q, rfl, HL.out, by omega, HX.out, by omega, by omega, hq, hO.mono (by omega), hB7⟩
    · go_wp2_with fail
      refine (rd_below _ _ _ _ _ _ hok5 _).mono ?_
      rintro e w6 ⟨x, rfl, ⟨hx0, hx3, hx1, _⟩, hok6, hg6⟩
      have hx2 : x < m := by
        by_cases h2 : (m : Int) ≤ 1
        · have := hx3 h2; omega
        · have := hx1 (by omega); omega
      clear hx1 hx3
      obtain ⟨j, rfl⟩ := Int.eq_ofNat_of_zero_le hx0
      have hjm : j < m := by omega
      replace hO := hO.rd hg6 hR
      have hB6 := below_rd hB5 hg6
      obtain ⟨b, off, rfl, hp⟩ := (vals_tOf HL.out hO.vals).at j (by rw [strL_length]; exact hjm)
      have c0 := hp j (by rw [strL_length]; exact hjm)
      rw [strL_at _ m j hjm] at c0
      have hks := tOf_size HX.out j
      generalize tOf L j = y at *
      have HO := Lib.hid hO
      clear hp hok5 hB5 hg6 hO
      go_wp2_with fail
      refine (rd_nearly _ _ _ _ _ _ hok6 y (by omega)).mono ?_
      clear hs
      rintro e w7 ⟨s, rfl, hs, hok7, hg7⟩
      have hO := HO.out.rd hg7 hR
      have hB7 := below_rd hB6 hg7
      clear hok6 hB6 hg7 HO
      go_wp2_with fail
      refine (rd_below _ _ _ _ _ _ hok7 _).mono ?_
      rintro e w8 ⟨k, rfl, ⟨hk0, _, hk1, _⟩, hok8, hg8⟩
      have hk2 : k < 4 := hk1 (by omega)
      replace hO := hO.rd hg8 hR
      have hB8 := below_rd hB7 hg8
      clear hk1 hok7 hB7 hg8
      go_wp2_with fail
      refine (rd_off _ _ _ _ _ _ hok8 _ _ (by omega) (by omega) (by omega) (by omega)).mono ?_
      rintro e w9 ⟨q, rfl, hq, hok9, hg9⟩
      replace hO := hO.rd hg9 hR
      have hB9 := below_rd hB8 hg9
      clear hok8 hB8 hg9
      go_wp2
      exact bodyPost_ret (v := .tuple #[.slice (some ⟨b, off, none⟩) m c1, .string s, .int .i64 k, .int .i64 q]) (by simp [results, Try.results22, go_sem]) rfl ⟨L, m, _, c1, s, k, q, rfl, HL.out, by omega, HX.out, by omega, by omega, hq, hO.mono (by omega), hB9⟩
theorem may_at (s t : ByteArray) (k q : Int) (hs : s.size ≤ 1048576) (ht : t.size ≤ 1048576) (hd : mayB s t k q = true) (w : World) :
    Calls Try.prog 25 #[.string s, .string t, .int .i64 k, .int .i64 q] w fun e w' => e = .returned (.bool true) ∧ Below w.heap.size w w' :=
  (impl_mayBe s t k q w hs ht).mono fun _ _ h => ⟨by rw [h.1, hd], h.2⟩
set_option maxHeartbeats 16000000 in
theorem law_FnNearBy (a : Option Addr) (len cap : Nat) (z : List Int) (w : World) (hr : IsRow .u8 w a len cap z) :
    Calls Try.prog 5 #[.slice a len cap] w fun e w' => e = .returned (.bool true) ∧ Below w.heap.size w w' := by
  by_cases hl : len ≤ 1048576
  · have hbig : decide (1048576 < (len : Int)) = false := by simp; omega
    go_enter Try.func5, Try.ntmps5
    go_wp2_with (go_at_call 9; refine (laws_big _ _ _ _ (by omega)).mono ?_; rintro e w' ⟨rfl, rfl⟩)
    refine (drawNearBy _ _ _ _ _ hr hl).mono ?_
    rintro e w1 ⟨L, m, a1, c1, s, k, q, rfl, hL, hm, hx, hs, hk, hq, hO1, hb1⟩
    have HV := Lib.hid (vals_tOf hL hO1.vals)
    have HSZ := Lib.hid (fun i => tOf_size hx i)
    generalize tOf L = t at *
    have HB := hb1
    clear hL hx hO1 hb1
    have HE := Lib.hid (near_each (t := t) (m := m) (s := s) (k := k) (q := q) (fun i => by have := HSZ.out i; omega))
    have HTR := Lib.hid (near_tree (t := t) (m := m) (s := s) (k := k) (q := q) (fun i => by have := HSZ.out i; omega))
    have hNl := nearV_len t m s k q
    have hwo : wordsOkB t m = true := wordsOkB_iff.2 ⟨fun i _ => by have := HSZ.out i; omega, by omega⟩
    have HT := Lib.hid (show bkV t m = bkTo t m by unfold bkV; rw [if_pos hwo])
    have HTS := Lib.hid (fun j hj => bkAt_sz (bkTo_sz (n := m) (fun i _ => HSZ.out i) m (Nat.le_refl _)) j hj : ∀ j, j < (bkTo t m).length → (bkAt (bkTo t m) j).t.size ≤ 6)
    have hTl := bkTo_len t m
    have HW := Lib.hid hwo
    obtain ⟨N, hN⟩ : ∃ N, nearV t m s k q = N := ⟨_, rfl⟩
    obtain ⟨ok, hok⟩ : ∃ ok, nearOkB t m s k q = ok := ⟨_, rfl⟩
    obtain ⟨nl, hnl⟩ : ∃ nl, N.length = nl := ⟨_, rfl⟩
    rw [hN, hok, hnl] at HE
    rw [hN, hok] at HTR
    rw [hN, hnl] at hNl
    obtain ⟨T, hT⟩ : ∃ T, bkTo t m = T := ⟨_, rfl⟩
    rw [hT] at HT HTS HTR hTl
    obtain ⟨n, hn⟩ : ∃ n, T.length = n := ⟨_, rfl⟩
    rw [hn] at hTl
    have HNN := Lib.hid hN; have HOK := Lib.hid hok; have HNL := Lib.hid hnl; have HN := Lib.hid hn
    have hn10 : n ≤ 10 := by omega
    have hnl10 : nl ≤ 10 := by omega
    have e0 : (ok != ok) = false := by simp
    have e1 : (ok == ok) = true := by simp
    clear hN hok hnl hT hn hwo hTl hNl
    go_wp2_with fail
    refine (impl_nearBy t m a1 c1 s k q _ HV.out (by omega) (fun i hi => by have := HSZ.out i; omega) (by omega)).mono ?_
    rintro e w2 ⟨a2, c2, rfl, hO2, hb2⟩
    rw [HNN.out, HNL.out] at hO2 ⊢
    rw [HOK.out]
    have HV2 := Lib.hid (HV.out.kept hb2)
    have HO2 := Lib.hid hO2.vals
    replace HB := below_step HB hb2
    clear hO2 hb2 HV
    go_wp2_with fail
    refine (spec_nearBy t m a1 c1 s k q _ HV2.out (by omega) (fun i hi => by have := HSZ.out i; omega) (by omega)).mono ?_
    rintro e w3 ⟨a3, c3, rfl, hO3, hb3⟩
    rw [HNN.out, HNL.out] at hO3 ⊢
    rw [HOK.out]
    have HV3 := Lib.hid (HV2.out.kept hb3)
    have HP3 := Lib.hid (HO2.out.kept hb3)
    have HO3 := Lib.hid hO3.vals
    replace HB := below_step HB hb3
    have HPS := Lib.hid (vals_tOf HNL.out HP3.out); have HOS := Lib.hid (vals_tOf HNL.out HO3.out)
    clear hO3 hb3 HV2 HO2
    cases ok
    · go_wp2_with fail
      refine (laws_sameTexts (tOf N) a2 a3 nl c2 c3 _ HPS.out HOS.out (by omega)).mono ?_
      rintro e w4 ⟨rfl, hb4⟩
      replace HPS := Lib.hid (HPS.out.kept hb4); replace HOS := Lib.hid (HOS.out.kept hb4)
      replace HB := below_step HB hb4
      clear hb4
      go_wp2_with fail
      refine (laws_sameTexts (tOf N) a2 a3 nl c2 c3 _ HPS.out HOS.out (by omega)).mono ?_
      rintro e w5 ⟨rfl, hb5⟩
      replace HB := below_step HB hb5
      go_wp2_with fail
      go_ret
      exact ⟨rfl, HB⟩
    · obtain ⟨G1, G2⟩ := HE.out rfl
      obtain ⟨G3, G4⟩ := HTR.out rfl
      have G1 := Lib.hid G1; have G2 := Lib.hid G2; have G3 := Lib.hid G3; have G4 := Lib.hid G4
      clear HE HTR
      go_wp2_with fail
      refine (laws_sameTexts (tOf N) a2 a3 nl c2 c3 _ HPS.out HOS.out (by omega)).mono ?_
      rintro e w4 ⟨rfl, hb4⟩
      have HV4 := Lib.hid (HV3.out.kept hb4)
      have HP4 := Lib.hid (HP3.out.kept hb4)
      replace HB := below_step HB hb4
      clear hb4 HV3 HP3 HPS HOS HO3
      go_wp2_with fail
      refine (impl_bkOf t m a1 c1 _ HV4.out (by omega) (fun i hi => by have := HSZ.out i; omega)).mono ?_
      rintro e w5 ⟨a5, c5, rfl, hO5, hb5⟩
      rw [HT.out, HN.out] at hO5 ⊢
      rw [HW.out]
      have HP5 := Lib.hid (HP4.out.kept hb5)
      have HT5 := Lib.hid hO5.vals
      replace HB := below_step HB hb5
      clear hb5 HV4 HP4 hO5
      go_wp2_with fail
      refine (impl_near T n a5 c5 s k _ HN.out HT5.out (by omega) (fun i hi => by have := HTS.out i (by rw [HN.out]; exact hi); omega) (by omega)).mono ?_
      rintro e w6 ⟨a6, c6, rfl, hO6, hb6⟩
      rw [G4.out, HNL.out] at hO6 ⊢
      rw [G3.out]
      have HP6 := Lib.hid (HP5.out.kept hb6)
      have HQ6 := Lib.hid hO6.vals
      have HB6 := Lib.hid (below_step HB hb6)
      clear hb6 HP5 HT5 hO6 HB
      have HLS := Lib.hid (show (strs N).length = nl by rw [strs_length, HNL.out])
      go_wp2_with fail
      go_loopw [15] (fun i wr => ∃ j : Nat, j ≤ nl ∧ i = .int .i64 (j : Int) ∧ Below w6.heap.size w6 wr)
        (fun i _ => nl - (intOf i).toNat)
      case atStart => exact ⟨0, by omega, rfl, Below.refl _ _⟩
      case round =>
        obtain ⟨j, hj, rfl, hb⟩ := hrel
        by_cases hlt : j < nl
        · obtain ⟨gm, gs⟩ := G1.out j hlt
          obtain ⟨b9, off9, rfl, hp⟩ := (HP6.out.kept hb).at j (by rw [HLS.out]; exact hlt)
          have c0 := hp j (by rw [HLS.out]; exact hlt)
          rw [strs_at (show j < N.length by rw [HNL.out]; exact hlt)] at c0
          obtain ⟨U, hU⟩ : ∃ U, txt (N.getD j []) = U := ⟨_, rfl⟩
          rw [hU] at c0 gm gs
          have C1 := Lib.hid (fun W => may_at U s k q (by omega) (by omega) gm W)
          have HBI := Lib.hid hb
          by_cases hj0 : j = 0
          · subst hj0
            have g0 : decide ((0 : Int) < ((0 : Nat) : Int)) = false := by simp
            rw [Nat.add_zero] at c0
            have k0 := cell_regrown c0
            clear hp hU gm hb c0
            go_wp2_with fail
            refine wp_region_quiet_below (by kernel_rfl) (by kernel_rfl) ?_
            repeat (go_big_quiet_step (((go_at_call 25; with_reducible exact Calls.regrown_of (C1.out _)))))
            refine wpQuiet_nil ?_
            intro _ hw'
            obtain ⟨⟨dq, osq⟩, hw''⟩ := hw'
            subst hw''
            have HBX := Lib.hid (HBI.out.trans ((below_regrown wr dq osq).mono HBI.out.size))
            go_wp2_with fail
            go_roundw
            case rel => exact ⟨0 + 1, by omega, by go_num, HBX.out⟩
            case measure => first | (simp [intOf]; done) | (simp [intOf]; omega)
          · obtain ⟨p, rfl⟩ : ∃ p, j = p + 1 := ⟨j - 1, by omega⟩
            have g0 : decide ((0 : Int) < ((p + 1 : Nat) : Int)) = true := by first | (simp; done) | (simp; omega)
            have c1 := hp p (by rw [HLS.out]; omega)
            rw [strs_at (show p < N.length by rw [HNL.out]; omega)] at c1
            have hup := G2.out p hlt
            obtain ⟨V, hV⟩ : ∃ V, txt (N.getD p []) = V := ⟨_, rfl⟩
            rw [hV] at c1
            have sl := strLt V U
            have sl2 := strLt U V
            have se := strEq V U
            rw [← hU, ← hV, bl_txt, bl_txt, hU, hV] at sl sl2 se
            have hne : ¬ N.getD p [] = N.getD (p + 1) [] := fun e => by rw [e] at hup; exact List.lt_irrefl _ hup
            have hnl2 : ¬ N.getD (p + 1) [] < N.getD p [] := fun e => List.lt_irrefl _ (List.lt_trans hup e)
            have e1 : Op.bytesLess V.toList U.toList = true := by rw [sl]; exact decide_eq_true hup
            have e2 : Op.bytesLess U.toList V.toList = false := by rw [sl2]; exact decide_eq_false hnl2
            have e3 : (V.toList == U.toList) = false := by rw [se]; exact decide_eq_false hne
            have hw : IntKind.i64.wrap (((p + 1 : Nat) : Int) - 1) = (p : Int) := by rw [IntKind.wrap_i64]; omega
            have hw2 : (((p + 1 : Nat) : Int) - 1) = (p : Int) := by omega
            have k0 := cell_regrown c0
            have k1 := cell_regrown c1
            clear hp hU hV gm hb c0 c1 sl sl2 se hup hne hnl2
            go_wp2_with fail
            refine wp_region_quiet_below (by kernel_rfl) (by kernel_rfl) ?_
            repeat (go_big_quiet_step (((go_at_call 25; with_reducible exact Calls.regrown_of (C1.out _)))))
            refine wpQuiet_nil ?_
            intro _ hw'
            obtain ⟨⟨dq, osq⟩, hw''⟩ := hw'
            subst hw''
            have HBX := Lib.hid (HBI.out.trans ((below_regrown wr dq osq).mono HBI.out.size))
            go_wp2_with fail
            go_roundw
            case rel => exact ⟨p + 1 + 1, by omega, by go_num, HBX.out⟩
            case measure => simp [intOf]; omega
        · obtain rfl : j = nl := by omega
          have HPS := Lib.hid (vals_tOf HNL.out (HP6.out.kept hb)); have HQS := Lib.hid (vals_tOf HNL.out (HQ6.out.kept hb))
          have HBB := Lib.hid (below_step HB6.out hb)
          clear hb
          go_wp2_with fail
          refine (laws_sameTexts (tOf N) _ _ j _ _ _ HQS.out HPS.out (by omega)).mono ?_
          rintro e w9 ⟨rfl, hb9⟩
          go_wp2_with fail
          go_ret
          exact ⟨rfl, below_step HBB.out hb9⟩
  · have hbig : decide (1048576 < (len : Int)) = true := by simp; omega
    go_enter Try.func5, Try.ntmps5
    go_wp2_with (go_at_call 9; go_in)
    go_ret
    exact ⟨rfl, Below.refl _ _⟩
end Go.Proofs.Ytpniiaemgobaiab

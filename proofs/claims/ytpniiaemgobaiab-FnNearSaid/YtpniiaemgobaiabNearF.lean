/-
  FnNear: the walk.
-/
import Derived.Test.YtpniiaemgobaiabNearImT
import Derived.Test.YtpniiaemgobaiabNearSpT
import Derived.Test.YtpniiaemgobaiabBkDraw
import Derived.Test.YtpniiaemgobaiabSameTx
namespace Go.Proofs.Ytpniiaemgobaiab
open Go.RowKit
set_option linter.unusedVariables false
set_option maxRecDepth 100000
/-- some of the first k -/
def anyB (p : Nat → Bool) : Nat → Bool
  | 0 => false
  | k + 1 => anyB p k || p k
theorem anyB_iff {p : Nat → Bool} : ∀ {n}, anyB p n = true ↔ ∃ c, c < n ∧ p c = true
  | 0 => ⟨fun h => (by cases h), fun ⟨c, h, _⟩ => (by omega)⟩
  | n + 1 => by
    rw [anyB, Bool.or_eq_true, anyB_iff]
    constructor
    · rintro (⟨c, h1, h2⟩ | h)
      · exact ⟨c, by omega, h2⟩
      · exact ⟨n, by omega, h⟩
    · rintro ⟨c, h1, h2⟩
      by_cases e : c = n
      · subst e; exact .inr h2
      · exact .inl ⟨c, by omega, h2⟩
def hasTx (N : List (List UInt8)) (y : ByteArray) (j : Nat) : Bool := (txt (N.getD j [])).toList == y.toList
theorem hasTx_any {N : List (List UInt8)} {y : ByteArray} : anyB (hasTx N y) N.length = true ↔ bl y ∈ N := by
  rw [anyB_iff]
  constructor
  · rintro ⟨c, h1, h2⟩
    unfold hasTx at h2
    rw [beq_iff_eq, toList_bl, toList_bl, bl_txt] at h2
    rw [← h2, List.getD_eq_getElem?_getD, List.getElem?_eq_getElem h1]
    exact List.getElem_mem h1
  · intro h
    obtain ⟨c, hc, e⟩ := List.getElem_of_mem h
    refine ⟨c, hc, ?_⟩
    unfold hasTx
    rw [beq_iff_eq, toList_bl, toList_bl, bl_txt, List.getD_eq_getElem?_getD, List.getElem?_eq_getElem hc]
    exact e
theorem tree_is {T : List BkN} (h : bkOkB T = true) : UpB T ∧ PathB T := by
  unfold bkOkB at h
  obtain ⟨h1, h2⟩ := (Bool.and_eq_true _ _).mp h
  have e : bkV (bkW T) T.length = bkTo (bkW T) T.length := if_pos h1
  rw [e] at h2
  obtain ⟨h3, h4⟩ := bkSame_iff.1 h2
  have : bkTo (bkW T) T.length = T := by
    refine List.ext_getElem h3 fun i hi hj => ?_
    obtain ⟨k1, k2, k3⟩ := h4 i hj
    have e1 : bkAt (bkTo (bkW T) T.length) i = (bkTo (bkW T) T.length)[i] := by unfold bkAt; rw [List.getD_eq_getElem?_getD, List.getElem?_eq_getElem hi]; rfl
    have e2 : bkAt T i = T[i] := by unfold bkAt; rw [List.getD_eq_getElem?_getD, List.getElem?_eq_getElem hj]; rfl
    rw [e1, e2] at k1 k2 k3
    rw [toList_bl, toList_bl] at k1
    have k0 : (bkTo (bkW T) T.length)[i].t = T[i].t := by have := congrArg txt k1; rwa [txt_bl, txt_bl] at this
    cases hA : (bkTo (bkW T) T.length)[i]
    cases hB : T[i]
    rw [hA, hB] at k0 k2 k3
    simp only at k0 k2 k3
    rw [k0, k2, k3]
  rw [← this]
  exact ⟨bkTo_up _ _, bkTo_path _ _⟩
/-- what the law asks of what is near -/
theorem near_facts {T : List BkN} {s : ByteArray} {k : Int} (h : treeOkB T s k = true) : s.size ≤ 20 ∧ 0 ≤ k ∧
    (∀ i, i < T.length → (bkAt T i).t.size ≤ 20 ∧ anyB (hasTx (nearT T s k) (bkAt T i).t) (nearT T s k).length = decide (distI (bkAt T i).t s false ≤ k)) ∧
    (∀ i, 0 < i → i < T.length → 0 ≤ (bkAt T i).u ∧ (bkAt T i).u < (i : Int)) ∧
    (∀ i, 0 < i → i < T.length → distI (bkAt T i).t s false ≤ k → distI (bkAt T (bkAt T i).u.toNat).t s false - (bkAt T i).d ≤ k ∧ (bkAt T i).d - distI (bkAt T (bkAt T i).u.toNat).t s false ≤ k ∧ 0 ≤ (bkAt T i).d ∧ (bkAt T i).d ≤ 1000 ∧ 0 ≤ distI (bkAt T (bkAt T i).u.toNat).t s false ∧ distI (bkAt T (bkAt T i).u.toNat).t s false ≤ 1000) := by
  have hN : nearT T s k = nearTo (fun i => (bkAt T i).t) s k T.length := if_pos h
  unfold treeOkB at h
  simp only [Bool.and_eq_true, decide_eq_true_eq] at h
  obtain ⟨⟨h1, h2⟩, h3⟩ := h
  obtain ⟨_, _, h5, h6⟩ := tree_words h1
  obtain ⟨hu, hP⟩ := tree_is h1
  have h7 := nearIn.1 h3
  refine ⟨h2, h7.1, fun i hi => ⟨h5 i hi, ?_⟩, fun i h0 hi => hu i h0 hi, fun i h0 hi hd => ?_⟩
  · rw [Bool.eq_iff_iff, hasTx_any, decide_eq_true_iff, hN, near_found, found_iff]
    constructor
    · rintro ⟨j, hj, hd, e⟩
      have : (bkAt T i).t = (bkAt T j).t := by have := congrArg txt e; rwa [txt_bl, txt_bl] at this
      rw [this]; exact hd
    · intro hd; exact ⟨i, hi, hd, rfl⟩
  · have hui := hu i h0 hi
    have e := hP i i h0 hi hi (Bel.self _ _)
    unfold upOf at e
    have s1 := h5 i hi
    have s2 := h5 (bkAt T i).u.toNat (by omega)
    have t1 := dist_tri (bkAt T (bkAt T i).u.toNat).t (bkAt T i).t s false (by omega) (by omega) (by omega)
    have t2 := dist_tri (bkAt T (bkAt T i).u.toNat).t s (bkAt T i).t false (by omega) (by omega) (by omega)
    have b1 := dist_bnd (bkAt T (bkAt T i).u.toNat).t s false (by omega) (by omega)
    have b2 := dist_bnd (bkAt T (bkAt T i).u.toNat).t (bkAt T i).t false (by omega) (by omega)
    have sy := dist_symm (bkAt T i).t s false
    rw [e] at t1 t2 b2
    omega
theorem dist_at2 (s t : ByteArray) (f : Bool) (d : Int) (hs : s.size ≤ 1048576) (ht : t.size ≤ 1048576) (hd : distI s t f = d) (w : World) :
    Calls Try.prog 17 #[.string s, .string t, .bool f] w fun e w' => e = .returned (.int .i64 d) ∧ Below w.heap.size w w' :=
  (impl_distance s t f w hs ht).mono fun _ _ h => ⟨by rw [h.1, hd], h.2⟩
set_option maxHeartbeats 16000000 in
theorem law_FnNear (a : Option Addr) (len cap : Nat) (z : List Int) (w : World) (hr : IsRow .u8 w a len cap z) :
    Calls Try.prog 4 #[.slice a len cap] w fun e w' => e = .returned (.bool true) ∧ Below w.heap.size w w' := by
  by_cases hl : len ≤ 1048576
  · have hbig : decide (1048576 < (len : Int)) = false := by simp; omega
    go_enter Try.func4, Try.ntmps4
    go_wp2_with (go_at_call 9; refine (laws_big _ _ _ _ (by omega)).mono ?_; rintro e w' ⟨rfl, rfl⟩)
    refine (drawNear _ _ _ _ _ hr hl).mono ?_
    rintro e w1 ⟨T, n, a1, c1, s, k, rfl, hT, hn10, hTS, hs20, hk, hO1, hb1⟩
    have HB := hb1
    have HV := Lib.hid hO1.vals
    have HN := Lib.hid hT
    have hNl := nearT_len T s k
    have HF := Lib.hid (near_facts (T := T) (s := s) (k := k))
    have HTS := Lib.hid (fun i hi => hTS i (by rw [hT]; exact hi) : ∀ i, i < n → (bkAt T i).t.size ≤ 20)
    rw [hT] at HF hNl
    have HLN := Lib.hid (show anyB (hasTx (nearT T s k) ⟨#[]⟩) 0 = false from rfl)
    obtain ⟨N, hN⟩ : ∃ N, nearT T s k = N := ⟨_, rfl⟩
    obtain ⟨ok, hok⟩ : ∃ ok, treeOkB T s k = ok := ⟨_, rfl⟩
    obtain ⟨nl, hnl⟩ : ∃ nl, N.length = nl := ⟨_, rfl⟩
    rw [hN, hok, hnl] at HF
    rw [hN, hnl] at hNl
    have HNN := Lib.hid hN; have HOK := Lib.hid hok; have HNL := Lib.hid hnl
    have e0 : (ok != ok) = false := by simp
    have e1 : (ok == ok) = true := by simp
    clear hb1 hO1 hT hTS hN hok hnl HLN
    go_wp2_with fail
    refine (impl_near T n a1 c1 s k _ HN.out HV.out (by omega) (fun i hi => by have := HTS.out i hi; omega) (by omega)).mono ?_
    rintro e w2 ⟨a2, c2, rfl, hO2, hb2⟩
    rw [HNN.out, HNL.out] at hO2 ⊢
    rw [HOK.out]
    have HV2 := Lib.hid (HV.out.kept hb2)
    have HO2 := Lib.hid hO2.vals
    replace HB := below_step HB hb2
    clear hO2 hb2 HV
    go_wp2_with fail
    refine (spec_near T n a1 c1 s k _ HN.out HV2.out (by omega) (fun i hi => by have := HTS.out i hi; omega) (by omega)).mono ?_
    rintro e w3 ⟨a3, c3, rfl, hO3, hb3⟩
    rw [HNN.out, HNL.out] at hO3 ⊢
    rw [HOK.out]
    have HV3 := Lib.hid (HV2.out.kept hb3)
    have HP3 := Lib.hid (HO2.out.kept hb3)
    have HO3 := Lib.hid hO3.vals
    replace HB := below_step HB hb3
    have HPS := Lib.hid (vals_tOf HNL.out HP3.out); have HOS := Lib.hid (vals_tOf HNL.out HO3.out)
    clear hO3 hb3 HV2 HO2
    cases ok
    · go_wp2_with fail
      refine (laws_sameTexts (tOf N) a2 a3 nl c2 c3 _ HPS.out HOS.out (by omega)).mono ?_
      rintro e w4 ⟨rfl, hb4⟩
      replace HPS := Lib.hid (HPS.out.kept hb4); replace HOS := Lib.hid (HOS.out.kept hb4)
      replace HB := below_step HB hb4
      clear hb4
      go_wp2_with fail
      refine (laws_sameTexts (tOf N) a2 a3 nl c2 c3 _ HPS.out HOS.out (by omega)).mono ?_
      rintro e w5 ⟨rfl, hb5⟩
      replace HB := below_step HB hb5
      go_wp2_with fail
      go_ret
      exact ⟨rfl, HB⟩
    · obtain ⟨hs, hk0, F1, F2, F3⟩ := HF.out rfl
      have F1 := Lib.hid F1; have F2 := Lib.hid F2; have F3 := Lib.hid F3
      clear HF
      go_wp2_with fail
      refine (laws_sameTexts (tOf N) a2 a3 nl c2 c3 _ HPS.out HOS.out (by omega)).mono ?_
      rintro e w4 ⟨rfl, hb4⟩
      have HV4 := Lib.hid (HV3.out.kept hb4)
      have HP4 := Lib.hid (HP3.out.kept hb4)
      replace HB := below_step HB hb4
      clear hb4 HV3 HP3 HPS HOS HO3
      have HLC := Lib.hid (show (bks T).length = n * 3 by rw [bks_length, HN.out])
      have HLS := Lib.hid (show (strs N).length = nl by rw [strs_length, HNL.out])
      go_wp2_with fail
      go_loopw [10, 11, 12, 13] (fun i _ _ _ wr => ∃ q : Nat, q ≤ n ∧ i = .int .i64 q ∧ Below w4.heap.size w4 wr)
        (fun i _ _ _ _ => n - (intOf i).toNat)
      case atStart => exact ⟨0, by omega, rfl, Below.refl _ _⟩
      case round =>
        obtain ⟨q, hq, rfl, hb⟩ := hrel
        by_cases hlt : q < n
        · obtain ⟨hz, hany⟩ := F1.out q hlt
          obtain ⟨y, hy⟩ : ∃ y, (bkAt T q).t = y := ⟨_, rfl⟩
          obtain ⟨d, hd⟩ : ∃ d, distI y s false = d := ⟨_, rfl⟩
          rw [hy] at hz hany
          rw [hd] at hany
          have HY := Lib.hid hy; have HD := Lib.hid hd; have HANY := Lib.hid hany
          have HBQ := Lib.hid hb
          clear hy hd hany hb
          obtain ⟨wo, rfl⟩ : ∃ wo : World, wo = wr := ⟨_, rfl⟩
          go_wp2_with fail
          go_loopw [11, 12] (fun c x wi => ∃ j : Nat, j ≤ nl ∧ x = .int .i64 j ∧ c = .bool (anyB (hasTx N y) j) ∧ Below wo.heap.size wo wi)
            (fun _ x _ => nl - (intOf x).toNat)
          case atStart => exact ⟨0, by omega, rfl, rfl, Below.refl _ _⟩
          case round =>
            obtain ⟨j, hj, rfl, rfl, hbi⟩ := hrel
            have HBI := Lib.hid (HBQ.out.trans (hbi.mono HBQ.out.size))
            by_cases hjl : j < nl
            · obtain ⟨b, off, rfl, hp⟩ := (HV4.out.kept HBI.out).at (q * 3) (by rw [HLC.out]; omega)
              have c0 := hp (q * 3) (by rw [HLC.out]; omega)
              obtain ⟨q1, _, _⟩ := bks_at T q (by rw [HN.out]; exact hlt)
              rw [q1, HY.out] at c0
              obtain ⟨b2, off2, rfl, hp2⟩ := (HP4.out.kept HBI.out).at j (by rw [HLS.out]; exact hjl)
              have d0 := hp2 j (by rw [HLS.out]; exact hjl)
              rw [strs_at (show j < N.length by rw [HNL.out]; exact hjl)] at d0
              have hst : anyB (hasTx N y) (j + 1) = (anyB (hasTx N y) j || ((txt (N.getD j [])).toList == y.toList)) := rfl
              generalize txt (N.getD j []) = u at *
              generalize anyB (hasTx N y) j = b0 at *
              have HST := Lib.hid hst
              clear hst hp hp2 q1
              cases b0
              · cases hb0 : (u.toList == y.toList)
                · have HS := Lib.hid (show anyB (hasTx N y) (j + 1) = false by rw [HST.out, hb0]; rfl)
                  clear HST
                  go_wp2_with fail
                  go_quiet (fail)
                  go_wp2
                  go_roundw
                  case rel => exact ⟨j + 1, by omega, by go_num, by rw [HS.out], below_drewN hbi _⟩
                  case measure => simp [intOf]; omega
                · have HS := Lib.hid (show anyB (hasTx N y) (j + 1) = true by rw [HST.out, hb0]; rfl)
                  clear HST
                  go_wp2_with fail
                  go_quiet (fail)
                  go_wp2
                  go_roundw
                  case rel => exact ⟨j + 1, by omega, by go_num, by rw [HS.out], below_drewN hbi _⟩
                  case measure => simp [intOf]; omega
              · have HS := Lib.hid (show anyB (hasTx N y) (j + 1) = true by rw [HST.out]; rfl)
                clear HST
                go_wp2_with fail
                go_quiet (fail)
                go_wp2
                go_roundw
                case rel => exact ⟨j + 1, by omega, by go_num, by rw [HS.out], below_drewN hbi _⟩
                case measure => simp [intOf]; omega
            · obtain rfl : j = nl := by omega
              rw [HANY.out]
              obtain ⟨b, off, rfl, hp⟩ := (HV4.out.kept HBI.out).at (q * 3) (by rw [HLC.out]; omega)
              have c0 := hp (q * 3) (by rw [HLC.out]; omega)
              have c1 := hp (q * 3 + 1) (by rw [HLC.out]; omega)
              have c2 := hp (q * 3 + 2) (by rw [HLC.out]; omega)
              obtain ⟨q1, q2, q3⟩ := bks_at T q (by rw [HN.out]; exact hlt)
              rw [← Nat.add_assoc] at c1 c2
              rw [q1, HY.out] at c0; rw [q2] at c1; rw [q3] at c2
              have C1 := Lib.hid (fun W => dist_at2 y s false d (by omega) (by omega) HD.out W)
              clear q1 q2 q3 hbi
              by_cases hdk : d ≤ k
              · have hd1 : decide (d ≤ k) = true := decide_eq_true hdk
                rw [hd1]
                by_cases hq0 : q = 0
                · have hq1 : ((q : Int) == 0) = true := by simp [hq0]
                  have hq2 : (q == 0) = true := by simp [hq0]
                  clear hp c1 c2 hq0
                  go_wp2_with fail
                  refine (C1.out _).mono ?_
                  rintro e w9 ⟨rfl, hb9⟩
                  have HB9 := HBI.out.trans (hb9.mono HBI.out.size)
                  go_wp2_with fail
                  go_roundw
                  case rel => exact ⟨q + 1, by omega, by go_num, HB9⟩
                  case measure => simp [intOf]; omega
                · have hq1 : ((q : Int) == 0) = false := by simp; omega
                  have hq2 : (q == 0) = false := by simp; omega
                  obtain ⟨u0, u1⟩ := F2.out q (by omega) hlt
                  obtain ⟨p, hp0⟩ : ∃ p : Nat, (bkAt T q).u = (p : Int) := ⟨(bkAt T q).u.toNat, by omega⟩
                  have hG := F3.out q (by omega) hlt (by rw [HY.out, HD.out]; exact hdk)
                  rw [hp0, Int.toNat_natCast] at hG
                  rw [hp0] at c2 u1
                  have hpn : p < n := by omega
                  have d0 := hp (p * 3) (by rw [HLC.out]; omega)
                  obtain ⟨r1, _, _⟩ := bks_at T p (by rw [HN.out]; omega)
                  rw [r1] at d0
                  have hs2 := HTS.out p hpn
                  generalize (bkAt T q).d = dq0 at *
                  generalize (bkAt T p).t = x at *
                  obtain ⟨e2, he2⟩ : ∃ e2, distI x s false = e2 := ⟨_, rfl⟩
                  rw [he2] at hG
                  obtain ⟨g1, g2, g3, g4, g5, g6⟩ := hG
                  have C2 := Lib.hid (fun W => dist_at2 x s false e2 (by omega) (by omega) he2 W)
                  have hn1 : decide (k < e2 - dq0) = false := by simp; omega
                  have hn2 : decide (k < -(e2 - dq0)) = false := by simp; omega
                  have hn3 : decide (k < dq0 - e2) = false := by simp; omega
                  have hw1 : IntKind.i64.wrap (e2 - dq0) = e2 - dq0 := by rw [IntKind.wrap_i64]; omega
                  have hw2 : IntKind.i64.wrap (-(e2 - dq0)) = -(e2 - dq0) := by rw [IntKind.wrap_i64]; omega
                  clear hp r1 hp0 he2 u0 u1 hq0
                  go_wp2_with fail
                  refine (C1.out _).mono ?_
                  rintro e w9 ⟨rfl, hb9⟩
                  have HB9 := Lib.hid (HBI.out.trans (hb9.mono HBI.out.size))
                  have hbw : b < wr.heap.size := block_lt_of_cell c1
                  have k1 := cell_regrown ((hb9.cell (p := ⟨b, off + q * 3 + 1, none⟩) hbw).trans c1)
                  have k2 := cell_regrown ((hb9.cell (p := ⟨b, off + q * 3 + 2, none⟩) hbw).trans c2)
                  have k3 := cell_regrown ((hb9.cell (p := ⟨b, off + p * 3, none⟩) hbw).trans d0)
                  clear c0 c1 c2 d0 hb9
                  go_wp2_with fail
                  refine wp_region_quiet_below (by kernel_rfl) (by kernel_rfl) ?_
                  repeat (go_big_quiet_step (((go_at_call 17; with_reducible exact Calls.regrown_of (C2.out _)))))
                  refine wpQuiet_nil ?_
                  intro _ hw'
                  obtain ⟨⟨dq, osq⟩, hw''⟩ := hw'
                  subst hw''
                  have HBX := Lib.hid (HB9.out.trans ((below_regrown w9 dq osq).mono HB9.out.size))
                  clear k1 k2 k3
                  go_wp2_with fail
                  go_roundw
                  case rel => exact ⟨q + 1, by omega, by go_num, HBX.out⟩
                  case measure => simp [intOf]; omega
              · have hd1 : decide (d ≤ k) = false := decide_eq_false hdk
                rw [hd1]
                clear hp c1 c2
                go_wp2_with fail
                refine (C1.out _).mono ?_
                rintro e w9 ⟨rfl, hb9⟩
                have HB9 := HBI.out.trans (hb9.mono HBI.out.size)
                go_wp2_with fail
                go_roundw
                case rel => exact ⟨q + 1, by omega, by go_num, HB9⟩
                case measure => simp [intOf]; omega
        · obtain rfl : q = n := by omega
          have HB9 := below_step HB hb
          go_wp2_with fail
          go_ret
          exact ⟨rfl, HB9⟩
  · have hbig : decide (1048576 < (len : Int)) = true := by simp; omega
    go_enter Try.func4, Try.ntmps4
    go_wp2_with (go_at_call 9; go_in)
    go_ret
    exact ⟨rfl, Below.refl _ _⟩
end Go.Proofs.Ytpniiaemgobaiab

/-
  FnTrees: the walk.
-/
import Derived.Test.YtpniiaemgobaiabTreesP
import Derived.Test.YtpniiaemgobaiabBkDraw
import Derived.Test.YtpniiaemgobaiabBkI
namespace Go.Proofs.Ytpniiaemgobaiab
open Go.RowKit
set_option linter.unusedVariables false
set_option maxRecDepth 100000
/-- how many of the first k -/
def cntTo (p : Nat → Bool) : Nat → Int
  | 0 => 0
  | k + 1 => if p k then cntTo p k + 1 else cntTo p k
theorem cntTo_bnd (p : Nat → Bool) : ∀ k, 0 ≤ cntTo p k ∧ cntTo p k ≤ k
  | 0 => by simp [cntTo]
  | k + 1 => by have := cntTo_bnd p k; rw [cntTo]; split <;> omega
theorem cntTo_none {p : Nat → Bool} : ∀ {k}, (∀ j, j < k → p j = false) → cntTo p k = 0
  | 0, _ => rfl
  | k + 1, h => by rw [cntTo, h k (by omega), cntTo_none fun j hj => h j (by omega)]; rfl
theorem cntTo_one {p : Nat → Bool} {c : Nat} (hc : p c = true) : ∀ {k}, c < k → (∀ i, i < k → p i = true → i = c) → cntTo p k = 1
  | 0, h, _ => by omega
  | k + 1, h, h1 => by
    rw [cntTo]
    by_cases e : c = k
    · subst e
      rw [if_pos hc, cntTo_none]; · rfl
      intro j hj
      cases hp : p j with
      | false => rfl
      | true => have := h1 j (by omega) hp; omega
    · have : p k = false := by
        cases hp : p k with
        | false => rfl
        | true => exact absurd (h1 k (by omega) hp).symm e
      rw [this, cntTo_one hc (by omega) fun i hi hp => h1 i (by omega) hp]; rfl
def sameTx (T : List BkN) (y : ByteArray) (k : Nat) : Bool := (bkAt T k).t.toList == y.toList
theorem sameTx_iff {T : List BkN} {y : ByteArray} {k : Nat} : sameTx T y k = true ↔ (bkAt T k).t = y := by
  unfold sameTx
  rw [beq_iff_eq, ByteArray.toList_eq, ByteArray.toList_eq]
  exact ⟨fun h => by have := congrArg txt (show bl (bkAt T k).t = bl y from h); rwa [txt_bl, txt_bl] at this, fun h => by rw [h]⟩
/-- what the law asks of a tree -/
theorem tree_facts {t : Nat → ByteArray} {m : Nat} (h : ∀ i, (t i).size ≤ 20) (hm : m ≤ 30) :
    (∀ i, 1 ≤ i → i < (bkTo t m).length → (0 ≤ (bkAt (bkTo t m) i).u ∧ (bkAt (bkTo t m) i).u < (i : Int)) ∧ (bkAt (bkTo t m) i).d = distI (bkAt (bkTo t m) (bkAt (bkTo t m) i).u.toNat).t (bkAt (bkTo t m) i).t false ∧ (bkAt (bkTo t m) i).d ≠ 0) ∧
    (∀ i k, 1 ≤ k → k < i → i < (bkTo t m).length → ¬ ((bkAt (bkTo t m) k).u = (bkAt (bkTo t m) i).u ∧ (bkAt (bkTo t m) k).d = (bkAt (bkTo t m) i).d)) ∧
    (∀ i, i < m → cntTo (sameTx (bkTo t m) (t i)) (bkTo t m).length = 1) ∧ bkOkB (bkTo t m) = true := by
  have hs : ∀ j, j < (bkTo t m).length → (bkAt (bkTo t m) j).t.size ≤ 20 := fun j hj => bkAt_sz (bkTo_sz (n := m) (fun i _ => h i) m (Nat.le_refl _)) j hj
  have hu := bkTo_up t m; have hP := bkTo_path t m; have hpos := bkTo_pos t m; have hk := bkTo_kids t m
  have hl := bkTo_len t m
  refine ⟨fun i h1 h2 => ⟨hu i h1 h2, ?_, hpos i h1 h2⟩, fun i k h1 h2 h3 e => ?_, fun i hi => ?_, ?_⟩
  · exact (hP i i (by omega) h2 h2 (Bel.self _ _)).symm
  · have := hk k i (by omega) (by omega) (by omega) h3 (by unfold upOf; rw [e.1]) e.2
    omega
  · obtain ⟨j, hj, e⟩ := bkTo_has (n := m) (t := t) (fun i _ => by have := h i; omega) m (Nat.le_refl _) i hi
    refine cntTo_one (c := j) (sameTx_iff.2 e) hj fun k hk2 hk3 => ?_
    have e2 := sameTx_iff.1 hk3
    exact words_once hu hP hpos hk (fun j hj => by have := hs j hj; omega) (bkTo t m).length 0 k j (by omega) (by omega) hk2 hj (bel_root hu k hk2) (bel_root hu j hj) (e2.trans e.symm)
  · have hw : wordsOkB (bkW (bkTo t m)) (bkTo t m).length = true := wordsOkB_iff.2 ⟨fun i hi => hs i hi, by omega⟩
    unfold bkOkB
    rw [hw, Bool.true_and]
    have : bkV (bkW (bkTo t m)) (bkTo t m).length = bkTo t m := by unfold bkV; rw [if_pos hw]; exact bkTo_again t m
    rw [this]
    exact bkSame_iff.2 ⟨rfl, fun i hi => ⟨rfl, rfl, rfl⟩⟩
set_option maxHeartbeats 1000000 in
theorem laws_sameTree (T : List BkN) (a1 a2 : Option Addr) (n cap1 cap2 : Nat) (w : World) (hn : T.length = n) (h1 : Vals w a1 (bks T)) (h2 : Vals w a2 (bks T)) (hlen : n ≤ 1048577) :
    Calls Try.prog 14 #[.slice a1 n cap1, .slice a2 n cap2] w fun e w' => e = .returned (.bool true) ∧ Below w.heap.size w w' := by
  have e0 : ((n : Int) != (n : Int)) = false := by simp
  have HL := Lib.hid (show (bks T).length = n * 3 by rw [bks_length, hn])
  have HN := Lib.hid hn
  clear hn
  go_enter Try.func14, Try.ntmps14
  go_wp2
  go_loopw [5] (fun i wr => ∃ k : Nat, k ≤ n ∧ i = .int .i64 k ∧ Below w.heap.size w wr)
    (fun i _ => n - (intOf i).toNat)
  case atStart => exact ⟨0, by omega, rfl, Below.refl _ _⟩
  case round =>
    obtain ⟨k, hk, rfl, hb⟩ := hrel
    by_cases hlt : k < n
    · obtain ⟨b1, o1, rfl, hp⟩ := (h1.kept hb).at (k * 3) (by rw [HL.out]; omega)
      obtain ⟨b2, o2, rfl, hq⟩ := (h2.kept hb).at (k * 3) (by rw [HL.out]; omega)
      have c0 := hp (k * 3) (by rw [HL.out]; omega)
      have c1 := hp (k * 3 + 1) (by rw [HL.out]; omega)
      have c2 := hp (k * 3 + 2) (by rw [HL.out]; omega)
      have d0 := hq (k * 3) (by rw [HL.out]; omega)
      have d1 := hq (k * 3 + 1) (by rw [HL.out]; omega)
      have d2 := hq (k * 3 + 2) (by rw [HL.out]; omega)
      obtain ⟨q1, q2, q3⟩ := bks_at T k (by rw [HN.out]; exact hlt)
      rw [← Nat.add_assoc] at c1 c2 d1 d2
      rw [q1] at c0 d0; rw [q2] at c1 d1; rw [q3] at c2 d2
      generalize (bkAt T k).t = x at *
      generalize (bkAt T k).d = y at *
      generalize (bkAt T k).u = z at *
      have hl1 := block_lt_of_cell c0
      have hl2 := block_lt_of_cell d0
      clear h1 h2 hp hq q1 q2 q3
      go_wp2_with fail
      go_quiet (fail)
      go_wp2
      go_roundw
      case rel => exact ⟨k + 1, by omega, by go_num, below_drewN hb _⟩
      case measure => simp [intOf]; omega
    · obtain rfl : k = n := by omega
      go_wp2
      go_ret
      exact ⟨rfl, hb⟩
theorem dist_at (s t : ByteArray) (f : Bool) (d : Int) (hs : s.size ≤ 1048576) (ht : t.size ≤ 1048576) (hd : distI s t f = d) (w : World) :
    Calls Try.prog 17 #[.string s, .string t, .bool f] w fun e w' => e = .returned (.int .i64 d) ∧ Below w.heap.size w w' :=
  (impl_distance s t f w hs ht).mono fun _ _ h => ⟨by rw [h.1, hd], h.2⟩
set_option maxHeartbeats 16000000 in
theorem law_FnTrees (a : Option Addr) (len cap : Nat) (z : List Int) (w : World) (hr : IsRow .u8 w a len cap z) :
    Calls Try.prog 3 #[.slice a len cap] w fun e w' => e = .returned (.bool true) ∧ Below w.heap.size w w' := by
  by_cases hl : len ≤ 1048576
  · have hbig : decide (1048576 < (len : Int)) = false := by simp; omega
    go_enter Try.func3, Try.ntmps3
    go_wp2_with (go_at_call 9; refine (laws_big _ _ _ _ (by omega)).mono ?_; rintro e w' ⟨rfl, rfl⟩)
    refine (drawBkOf _ _ _ _ _ hr hl).mono ?_
    rintro e w1 ⟨L, m, a1, c1, rfl, hL, hm, hx, hO1, hb1⟩
    have HV := Lib.hid (vals_tOf hL hO1.vals)
    have HSZ := Lib.hid (fun i => tOf_size hx i)
    generalize tOf L = t at *
    have HB := hb1
    clear hL hx hO1 hb1
    obtain ⟨F1, F2, F3, F4⟩ := tree_facts (t := t) (m := m) (fun i => by have := HSZ.out i; omega) (by omega)
    have hwo : wordsOkB t m = true := wordsOkB_iff.2 ⟨fun i _ => by have := HSZ.out i; omega, by omega⟩
    have hTS : ∀ j, j < (bkTo t m).length → (bkAt (bkTo t m) j).t.size ≤ 6 := fun j hj => bkAt_sz (bkTo_sz (n := m) (fun i _ => HSZ.out i) m (Nat.le_refl _)) j hj
    have hTm := bkTo_len t m
    have HT := Lib.hid (show bkV t m = bkTo t m by unfold bkV; rw [if_pos hwo])
    have HW := Lib.hid hwo
    obtain ⟨T, hT⟩ : ∃ T, bkTo t m = T := ⟨_, rfl⟩
    rw [hT] at F1 F2 F3 F4 hTS hTm HT
    obtain ⟨n, hn⟩ : ∃ n, T.length = n := ⟨_, rfl⟩
    rw [hn] at F1 F2 F3 hTS hTm
    have HN := Lib.hid hn
    have H1 := Lib.hid F1; have H2 := Lib.hid F2; have H3 := Lib.hid F3; have H4 := Lib.hid F4; have HTS := Lib.hid hTS
    have hn10 : n ≤ 10 := by omega
    clear hwo hT hn F1 F2 F3 F4 hTS hTm
    go_wp2_with fail
    refine (impl_bkOf t m a1 c1 _ HV.out (by omega) (fun i _ => by have := HSZ.out i; omega)).mono ?_
    rintro e w2 ⟨a2, c2, rfl, hO2, hb2⟩
    rw [HT.out, HN.out] at hO2 ⊢
    rw [HW.out]
    have HV2 := Lib.hid (HV.out.kept hb2)
    have HO2 := Lib.hid hO2.vals
    replace HB := below_step HB hb2
    clear hO2 hb2 HV
    go_wp2_with fail
    refine (spec_bkOf t m a1 c1 _ HV2.out (by omega) (fun i _ => by have := HSZ.out i; omega)).mono ?_
    rintro e w3 ⟨a3, c3, rfl, hO3, hb3⟩
    rw [HT.out, HN.out] at hO3 ⊢
    rw [HW.out]
    have HV3 := Lib.hid (HV2.out.kept hb3)
    have HP3 := Lib.hid (HO2.out.kept hb3)
    have HO3 := Lib.hid hO3.vals
    replace HB := below_step HB hb3
    clear hO3 hb3 HV2 HO2
    go_wp2_with fail
    refine (drawBkOk _ _ _ _ _ (isRow_below hr HB) hl).mono ?_
    rintro e w4 ⟨X, xn, a4, c4, rfl, hX, hxn, hXS, hO4, hb4⟩
    have HV4 := Lib.hid (HV3.out.kept hb4)
    have HP4 := Lib.hid (HP3.out.kept hb4)
    have HQ4 := Lib.hid (HO3.out.kept hb4)
    have HX4 := Lib.hid hO4.vals
    have HX := Lib.hid hX; have HXS := Lib.hid hXS
    obtain ⟨ok, hok⟩ : ∃ ok, bkOkB X = ok := ⟨_, rfl⟩
    have HOK := Lib.hid hok
    replace HB := below_step HB hb4
    have e0 : (ok != ok) = false := by simp
    clear hO4 hb4 HV3 HP3 HO3 hX hXS hok
    go_wp2_with fail
    refine (laws_sameTree T a2 a3 n c2 c3 _ HN.out HP4.out HQ4.out (by omega)).mono ?_
    rintro e w5 ⟨rfl, hb5⟩
    have HV5 := Lib.hid (HV4.out.kept hb5)
    have HP5 := Lib.hid (HP4.out.kept hb5)
    have HX5 := Lib.hid (HX4.out.kept hb5)
    replace HB := below_step HB hb5
    clear hb5 HV4 HP4 HQ4 HX4
    go_wp2_with fail
    refine (impl_bkOk X xn a4 c4 _ HX.out HX5.out (by omega) (fun i hi => by have := HXS.out i (by rw [HX.out]; exact hi); omega)).mono ?_
    rintro e w6 ⟨rfl, hb6⟩
    rw [HOK.out]
    have HV6 := Lib.hid (HV5.out.kept hb6)
    have HP6 := Lib.hid (HP5.out.kept hb6)
    have HX6 := Lib.hid (HX5.out.kept hb6)
    replace HB := below_step HB hb6
    clear hb6 HV5 HP5 HX5
    go_wp2_with fail
    refine (spec_bkOk X xn a4 c4 _ HX.out HX6.out (by omega) (fun i hi => by have := HXS.out i (by rw [HX.out]; exact hi); omega)).mono ?_
    rintro e w7 ⟨rfl, hb7⟩
    rw [HOK.out]
    have HV7 := Lib.hid (HV6.out.kept hb7)
    have HP7 := Lib.hid (HP6.out.kept hb7)
    replace HB := below_step HB hb7
    clear hb7 HV6 HP6 HX6
    go_wp2_with fail
    have HLC := Lib.hid (show (bks T).length = n * 3 by rw [bks_length, HN.out])
    go_loopw [9, 10] (fun i k wr => ∃ q : Nat, 1 ≤ q ∧ q ≤ n + 1 ∧ i = .int .i64 q ∧ Below w7.heap.size w7 wr)
      (fun i _ _ => n + 1 - (intOf i).toNat)
    case atStart => exact ⟨1, by omega, by omega, rfl, Below.refl _ _⟩
    case round =>
      obtain ⟨q, hq1, hq2, rfl, hb⟩ := hrel
      by_cases hlt : q < n
      · obtain ⟨⟨hu0, hu1⟩, hd0, hd1⟩ := H1.out q hq1 hlt
        obtain ⟨p, hp0⟩ : ∃ p : Nat, (bkAt T q).u = (p : Int) := ⟨(bkAt T q).u.toNat, by omega⟩
        have hpq : p < q := by omega
        rw [hp0, Int.toNat_natCast] at hd0
        obtain ⟨b, off, rfl, hp⟩ := (HP7.out.kept hb).at (q * 3) (by rw [HLC.out]; omega)
        have c0 := hp (q * 3) (by rw [HLC.out]; omega)
        have c1 := hp (q * 3 + 1) (by rw [HLC.out]; omega)
        have c2 := hp (q * 3 + 2) (by rw [HLC.out]; omega)
        have d0 := hp (p * 3) (by rw [HLC.out]; omega)
        obtain ⟨q1, q2, q3⟩ := bks_at T q (by rw [HN.out]; exact hlt)
        obtain ⟨r1, r2, r3⟩ := bks_at T p (by rw [HN.out]; omega)
        rw [← Nat.add_assoc] at c1 c2
        rw [q1] at c0; rw [q2] at c1; rw [q3, hp0] at c2; rw [r1] at d0
        have hs1 := HTS.out q hlt
        have hs2 := HTS.out p (by omega)
        have HK := Lib.hid (fun j h1 h2 => H2.out q j h1 h2 hlt)
        rw [hp0] at HK
        generalize (bkAt T q).t = x at *
        generalize hdd : (bkAt T q).d = d at *
        generalize (bkAt T p).t = y at *
        have C1 := Lib.hid (fun W => dist_at y x false d (by omega) (by omega) hd0.symm W)
        have g0 := cell_regrown c0
        have g1 := cell_regrown c1
        have g2 := cell_regrown c2
        have g3 := cell_regrown d0
        have f0 : decide ((p : Int) < 0) = false := by simp
        have f1 : decide ((q : Int) ≤ (p : Int)) = false := by simp; omega
        have f2 : decide (q ≤ p) = false := by simp; omega
        have f3 : (d != d) = false := by simp
        have f4 : (d == 0) = false := by simp; exact hd1
        have hpn : p < n := by omega
        have HP0 := Lib.hid hp0; have HDD := Lib.hid hdd
        clear hp q1 q2 q3 r1 r2 r3 c0 c1 c2 d0 hp0 hd0 hdd hu0 hu1 hd1
        go_wp2_with fail
        refine wp_region_quiet_below (by kernel_rfl) (by kernel_rfl) ?_
        repeat (go_big_quiet_step (((go_at_call 17; with_reducible exact Calls.regrown_of (C1.out _)))))
        refine wpQuiet_nil ?_
        intro _ hw'
        obtain ⟨⟨dq, osq⟩, hw''⟩ := hw'
        subst hw''
        have hb2 := hb.trans ((below_regrown wr dq osq).mono hb.size)
        have hb3 := Lib.hid hb2
        clear hb hb2 g0 g1 g2 g3
        generalize Sort.grow (redrawn wr dq) osq = wo at *
        go_wp2_with fail
        go_loopw [10] (fun k wi => ∃ j : Nat, 1 ≤ j ∧ j ≤ q ∧ k = .int .i64 j ∧ Below w7.heap.size w7 wi)
          (fun k _ => q - (intOf k).toNat)
        case atStart => exact ⟨1, by omega, by omega, rfl, hb3.out⟩
        case round =>
          obtain ⟨j, hj1, hj2, rfl, hbi⟩ := hrel
          by_cases hjq : j < q
          · have hk := HK.out j hj1 hjq
            obtain ⟨b5, off5, hbe, hp⟩ := (HP7.out.kept hbi).at (q * 3) (by rw [HLC.out]; omega)
            cases hbe
            have c1 := hp (q * 3 + 1) (by rw [HLC.out]; omega)
            have c2 := hp (q * 3 + 2) (by rw [HLC.out]; omega)
            have d1 := hp (j * 3 + 1) (by rw [HLC.out]; omega)
            have d2 := hp (j * 3 + 2) (by rw [HLC.out]; omega)
            obtain ⟨q1, q2, q3⟩ := bks_at T q (by rw [HN.out]; exact hlt)
            obtain ⟨r1, r2, r3⟩ := bks_at T j (by rw [HN.out]; omega)
            rw [← Nat.add_assoc] at c1 c2 d1 d2
            rw [q2, HDD.out] at c1; rw [q3, HP0.out] at c2; rw [r2] at d1; rw [r3] at d2
            generalize (bkAt T j).d = dj at *
            generalize (bkAt T j).u = uj at *
            have hjn : j < n := by omega
            clear hp q1 q2 q3 r1 r2 r3
            by_cases hu : uj = (p : Int)
            · have hd : (dj == d) = false := by simp only [beq_eq_false_iff_ne, ne_eq]; exact fun e => hk ⟨hu, e⟩
              have hd2 : (uj == (p : Int)) = true := by simp [hu]
              clear hk hu
              go_wp2_with fail
              go_quiet (fail)
              go_wp2
              go_roundw
              case rel => exact ⟨j + 1, by omega, by omega, by go_num, below_drewN hbi _⟩
              case measure => simp [intOf]; omega
            · have hd2 : (uj == (p : Int)) = false := by simp only [beq_eq_false_iff_ne, ne_eq]; exact hu
              clear hk hu
              go_wp2_with fail
              go_quiet (fail)
              go_wp2
              go_roundw
              case rel => exact ⟨j + 1, by omega, by omega, by go_num, below_drewN hbi _⟩
              case measure => simp [intOf]; omega
          · obtain rfl : j = q := by omega
            go_wp2_with fail
            go_roundw
            case rel => exact ⟨j + 1, by omega, by omega, by go_num, hbi⟩
            case measure => simp [intOf]; omega
      · have hlt2 : decide ((q : Int) < (n : Int)) = false := by simp; omega
        have hlt3 : decide (q < n) = false := by simp; omega
        have HLV := Lib.hid (strL_length t m)
        have HB2 := Lib.hid hb
        clear hb
        go_wp2_with fail
        go_loopw [11, 12, 13] (fun i c k wi => ∃ j : Nat, j ≤ m ∧ i = .int .i64 j ∧ Below w7.heap.size w7 wi)
          (fun i _ _ _ => m - (intOf i).toNat)
        case atStart => exact ⟨0, by omega, rfl, HB2.out⟩
        case round =>
          obtain ⟨j, hj, rfl, hbi⟩ := hrel
          by_cases hjm : j < m
          · have hc := H3.out j hjm
            obtain ⟨y, hy⟩ : ∃ y, t j = y := ⟨_, rfl⟩
            obtain ⟨b, off, rfl, hp⟩ := (HV7.out.kept hbi).at j (by rw [HLV.out]; exact hjm)
            have c0 := hp j (by rw [HLV.out]; exact hjm)
            rw [strL_at t m j hjm, hy] at c0
            rw [hy] at hc
            have HC := Lib.hid hc
            have hbj := block_lt_of_cell c0
            have HBI := Lib.hid hbi
            clear hp hy hc hbi
            obtain ⟨wo, rfl⟩ : ∃ wo : World, wo = wr := ⟨_, rfl⟩
            go_wp2_with fail
            go_loopw [12, 13] (fun c k wk => ∃ x : Nat, x ≤ n ∧ k = .int .i64 x ∧ c = .int .i64 (cntTo (sameTx T y) x) ∧ Below wo.heap.size wo wk)
              (fun _ k _ => n - (intOf k).toNat)
            case atStart => exact ⟨0, by omega, rfl, rfl, Below.refl _ _⟩
            case round =>
              obtain ⟨x, hxn2, rfl, rfl, hbk⟩ := hrel
              by_cases hxl : x < n
              · obtain ⟨b2, off2, rfl, hp⟩ := (HP7.out.kept (HBI.out.trans (hbk.mono HBI.out.size))).at (x * 3) (by rw [HLC.out]; omega)
                have c2 := hp (x * 3) (by rw [HLC.out]; omega)
                obtain ⟨q1, _, _⟩ := bks_at T x (by rw [HN.out]; exact hxl)
                rw [q1] at c2
                have c1 := (hbk.cell (p := ⟨b, off + j, none⟩) hbj).trans c0
                have hst : cntTo (sameTx T y) (x + 1) = if sameTx T y x then cntTo (sameTx T y) x + 1 else cntTo (sameTx T y) x := rfl
                have hbn := cntTo_bnd (sameTx T y) x
                have hsx : sameTx T y x = ((bkAt T x).t.toList == y.toList) := rfl
                generalize cntTo (sameTx T y) x = cn at *
                generalize (bkAt T x).t = u at *
                cases hb0 : (u.toList == y.toList)
                · rw [hsx, hb0] at hst
                  have HST := Lib.hid (show cntTo (sameTx T y) (x + 1) = cn from hst)
                  clear hst hsx hp q1 c0
                  go_wp2_with fail
                  go_quiet (fail)
                  go_wp2
                  go_roundw
                  case rel => exact ⟨x + 1, by omega, by go_num, by rw [HST.out], below_drewN hbk _⟩
                  case measure => simp [intOf]; omega
                · rw [hsx, hb0] at hst
                  have HST := Lib.hid (show cntTo (sameTx T y) (x + 1) = cn + 1 from hst)
                  clear hst hsx hp q1 c0
                  go_wp2_with fail
                  go_quiet (fail)
                  go_wp2
                  go_roundw
                  case rel => exact ⟨x + 1, by omega, by go_num, by rw [HST.out], below_drewN hbk _⟩
                  case measure => simp [intOf]; omega
              · obtain rfl : x = n := by omega
                rw [HC.out]
                have HB9 := HBI.out.trans (hbk.mono HBI.out.size)
                go_wp2_with fail
                go_roundw
                case rel => exact ⟨j + 1, by omega, by go_num, HB9⟩
                case measure => simp [intOf]; omega
          · obtain rfl : j = m := by omega
            have HB9 := below_step HB hbi
            go_wp2_with fail
            refine (impl_bkOk T n _ c2 _ HN.out (HP7.out.kept hbi) (by omega) (fun i hi => by have := HTS.out i hi; omega)).mono ?_
            rintro e w9 ⟨rfl, hb9⟩
            rw [H4.out]
            go_wp2_with fail
            go_ret
            exact ⟨rfl, below_step HB9 hb9⟩
  · have hbig : decide (1048576 < (len : Int)) = true := by simp; omega
    go_enter Try.func3, Try.ntmps3
    go_wp2_with (go_at_call 9; go_in)
    go_ret
    exact ⟨rfl, Below.refl _ _⟩
end Go.Proofs.Ytpniiaemgobaiab

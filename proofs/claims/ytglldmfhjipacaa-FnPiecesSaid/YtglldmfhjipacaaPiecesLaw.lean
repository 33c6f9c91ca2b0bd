/-
  FnPieces: the walk.
-/
import Derived.Test.YtglldmfhjipacaaL8PiecesL
import Derived.Test.YtglldmfhjipacaaAlwaysIs
import Derived.Deep.RegionHeld3
import Derived.Deep.Cut
import Derived.Test.YtglldmfhjipacaaColDraw
namespace Go.Proofs.Ytglldmfhjipacaa
open Go.RowKit
set_option linter.unusedVariables false
set_option maxRecDepth 100000
theorem pc_gap (m c i : Nat) (hc : 1 ≤ c) (hcm : c ≤ m) : 1 ≤ m / c ∧ pcA m c i + m / c ≤ pcA m c (i + 1) ∧ pcA m c (i + 1) ≤ pcA m c i + m / c + 1 := by
  have hq := Nat.div_add_mod m c
  have ha := Nat.div_add_mod (i * m) c
  have hb := Nat.div_add_mod ((i + 1) * m) c
  have rq := Nat.mod_lt m hc
  have ra := Nat.mod_lt (i * m) hc
  have rb := Nat.mod_lt ((i + 1) * m) hc
  have e : (i + 1) * m = i * m + m := Nat.succ_mul i m
  refine ⟨Nat.div_pos hcm hc, ?_, ?_⟩
  · unfold pcA
    apply Nat.le_of_lt_succ
    apply Nat.lt_of_mul_lt_mul_left (a := c)
    rw [Nat.succ_eq_add_one, Nat.mul_add, Nat.mul_add, Nat.mul_one]
    omega
  · unfold pcA
    apply Nat.le_of_lt_succ
    apply Nat.lt_of_mul_lt_mul_left (a := c)
    rw [Nat.succ_eq_add_one, Nat.mul_add, Nat.mul_add, Nat.mul_add, Nat.mul_one]
    omega
theorem pcA_zero (m c : Nat) : pcA m c 0 = 0 := by unfold pcA; simp
theorem pcA_one (m c : Nat) : pcA m c 1 = m / c := by unfold pcA; simp
theorem pcA_end (m c : Nat) (hc : 1 ≤ c) : pcA m c c = m := by unfold pcA; exact Nat.mul_div_cancel_left m hc
theorem ex_join (s : ByteArray) (p q : Nat) (h : p ≤ q) : s.extract 0 p ++ s.extract p q = s.extract 0 q := by
  rw [ByteArray.extract_append_extract]; congr 1 <;> omega
theorem ne_nil {T : ByteArray} (h : 1 ≤ T.size) : (T == (⟨#[]⟩ : ByteArray)) = false := by
  cases T with
  | mk d =>
    show (d == #[]) = false
    rw [beq_eq_false_iff_ne]; rintro rfl; exact absurd h (by decide)
theorem no_list {T : ByteArray} (h : 1 ≤ T.size) : T.toList.isEmpty = false := by
  cases e : T.toList.isEmpty
  · rfl
  · have h2 : T.data.toList = [] := by rw [← ByteArray.toList_eq]; exact List.isEmpty_iff.1 e
    have h3 : T.size = 0 := by show T.data.size = 0; rw [← Array.length_toList, h2]; rfl
    omega
theorem ex_zero (s : ByteArray) : s.extract 0 0 = ⟨#[]⟩ := by
  apply ByteArray.ext; simp
theorem ex_size (s : ByteArray) (p q : Nat) (h : q ≤ s.size) : (s.extract p q).size = q - p := by rw [ByteArray.size_extract]; omega
theorem drawPiecesOf (a : Option Addr) (len cap : Nat) (z : List Int) (w : World) (hr : IsRow .u8 w a len cap z) (hl : len ≤ 1048576) :
    Calls Try.prog 31 #[.slice a len cap] w fun e w' => ∃ (s : ByteArray) (k : Int) (f : Bool), e = .returned (.agg #[.string s, .int .i64 k, .bool f]) ∧ s.size ≤ 8 ∧ i64B k ∧ Below w.heap.size w w' := by
  go_enter Try.func31, Try.ntmps31
  go_wp2_with fail
  refine (drawPatternOk _ _ _ _ _ (isRow_below hr (by repeat (first | exact Below.refl _ _ | assumption | (refine Below.drew ?_) | (refine below_drewN ?_ _) | (refine Below.alloc ?_ (by first | omega | (simp; done) | (simp; omega)) _) | (refine Below.setCell ?_ (by first | omega | (simp; done) | (simp; omega)) _)))) hl).mono ?_
  rintro e w1 ⟨s, k, f, rfl, hs, hk, hb1⟩
  obtain ⟨hc_w1, hf_w1⟩ := bcell hb1; have HT_w1 : Below w.heap.size w w1 := below_step (by repeat (first | exact Below.refl _ _ | assumption | (refine Below.drew ?_) | (refine below_drewN ?_ _) | (refine Below.alloc ?_ (by first | omega | (simp; done) | (simp; omega)) _) | (refine Below.setCell ?_ (by first | omega | (simp; done) | (simp; omega)) _))) hb1; have hz_w_w1 : w.heap.size < w1.heap.size := (by have h1 := hb1.size; (try simp at h1); omega)
  go_wp2_with fail
  exact bodyPost_ret (v := .agg #[.string s, .int .i64 k, .bool f]) (by simp [results, Try.results31, go_sem, hc_w1]) rfl ⟨_, _, _, rfl, hs, hk, (by repeat (first | exact Below.refl _ _ | assumption | (refine Below.drew ?_) | (refine below_drewN ?_ _) | (refine Below.alloc ?_ (by first | omega | (simp; done) | (simp; omega)) _) | (refine Below.setCell ?_ (by first | omega | (simp; done) | (simp; omega)) _)))⟩
theorem drawAlways (a : Option Addr) (len cap : Nat) (z : List Int) (w : World) (hr : IsRow .u8 w a len cap z) (hl : len ≤ 1048576) :
    Calls Try.prog 34 #[.slice a len cap] w fun e w' => ∃ (s : ByteArray) (k : Int) (f : Bool), e = .returned (.agg #[.string s, .int .i64 k, .bool f]) ∧ s.size ≤ 8 ∧ i64B k ∧ Below w.heap.size w w' := by
  go_enter Try.func34, Try.ntmps34
  go_wp2_with fail
  refine (drawPatternOk _ _ _ _ _ (isRow_below hr (by repeat (first | exact Below.refl _ _ | assumption | (refine Below.drew ?_) | (refine below_drewN ?_ _) | (refine Below.alloc ?_ (by first | omega | (simp; done) | (simp; omega)) _) | (refine Below.setCell ?_ (by first | omega | (simp; done) | (simp; omega)) _)))) hl).mono ?_
  rintro e w1 ⟨s, k, f, rfl, hs, hk, hb1⟩
  obtain ⟨hc_w1, hf_w1⟩ := bcell hb1; have HT_w1 : Below w.heap.size w w1 := below_step (by repeat (first | exact Below.refl _ _ | assumption | (refine Below.drew ?_) | (refine below_drewN ?_ _) | (refine Below.alloc ?_ (by first | omega | (simp; done) | (simp; omega)) _) | (refine Below.setCell ?_ (by first | omega | (simp; done) | (simp; omega)) _))) hb1; have hz_w_w1 : w.heap.size < w1.heap.size := (by have h1 := hb1.size; (try simp at h1); omega)
  go_wp2_with fail
  exact bodyPost_ret (v := .agg #[.string s, .int .i64 k, .bool f]) (by simp [results, Try.results34, go_sem, hc_w1]) rfl ⟨_, _, _, rfl, hs, hk, (by repeat (first | exact Below.refl _ _ | assumption | (refine Below.drew ?_) | (refine below_drewN ?_ _) | (refine Below.alloc ?_ (by first | omega | (simp; done) | (simp; omega)) _) | (refine Below.setCell ?_ (by first | omega | (simp; done) | (simp; omega)) _)))⟩
theorem box3p {W : World} {B : Nat} {x y v : Value} {t : TypeId} {fr : Nat × Nat} (h : W.heap[B]? = some (.cells #[x, y, v] t fr)) : W.cell? ⟨B, 0, none⟩ = some x ∧ W.cell? ⟨B, 1, none⟩ = some y ∧ W.cell? ⟨B, 2, none⟩ = some v :=
  ⟨by rw [cell_of_row _ _ 0 _ _ _ h]; rfl, by rw [cell_of_row _ _ 1 _ _ _ h]; rfl, by rw [cell_of_row _ _ 2 _ _ _ h]; rfl⟩
set_option maxHeartbeats 4000000 in
theorem law_FnPieces (a : Option Addr) (len cap : Nat) (z : List Int) (w : World) (hr : IsRow .u8 w a len cap z) :
    Calls Try.prog 9 #[.slice a len cap] w fun e w' => e = .returned (.bool true) ∧ Below w.heap.size w w' := by
  by_cases hl : len ≤ 1048576
  · have hbig : decide (1048576 < (len : Int)) = false := by simp; omega
    go_enter Try.func9, Try.ntmps9
    go_wp2_with (go_at_call 15; refine (laws_big _ _ _ _ (by omega)).mono ?_; rintro e w' ⟨rfl, rfl⟩)
    refine (drawPiecesOf _ _ _ _ _ hr hl).mono ?_
    rintro e w1 ⟨s, k, f, rfl, hs, hk, hb1⟩
    go_wp2_with fail
    have r1 := heap_alloc_new w1 (.cells #[.string s, .int .i64 k, .bool f] 48)
    have HB := hb1.alloc hb1.size (.cells #[.string s, .int .i64 k, .bool f] 48)
    have hz1 : w1.heap.size < (w1.alloc (.cells #[.string s, .int .i64 k, .bool f] 48)).heap.size := by simp
    generalize w1.alloc (.cells #[.string s, .int .i64 k, .bool f] 48) = V1 at *
    generalize w1.heap.size = B1 at *
    have hs1 : s.size ≤ 1048576 := by omega
    obtain ⟨n, hn⟩ : ∃ n, pcN s k = n := ⟨_, rfl⟩
    have HI := fun w => impl_piecesOf s k f w hs1
    have HS := fun w => spec_piecesOf s k f w hs1
    rw [hn] at HI HS
    have HN := Lib.hid hn
    clear hb1 hn
    refine (HI _).mono ?_
    rintro e w2 ⟨a2, cap2, rfl, hO2, hb2⟩
    replace r1 := (hb2.block B1 hz1).trans r1
    replace HB := HB.trans (hb2.mono HB.size)
    replace hz1 := Nat.lt_of_lt_of_le hz1 hb2.size
    clear hb2
    obtain ⟨y0, y1, y2⟩ := box3p r1
    go_wp2_with fail
    clear y0 y1 y2
    refine (HS _).mono ?_
    rintro e w3 ⟨a3, cap3, rfl, hO3, hb3⟩
    replace r1 := (hb3.block B1 hz1).trans r1
    replace HB := HB.trans (hb3.mono HB.size)
    replace hz1 := Nat.lt_of_lt_of_le hz1 hb3.size
    have hV2 := (hO2.kept hb3).vals
    have hV3 := hO3.vals
    clear hb3 hO2 hO3 HI HS
    go_wp2_with fail
    refine (drawAlways _ _ _ _ _ (isRow_below hr HB) hl).mono ?_
    rintro e w4 ⟨s4, k4, f4, rfl, hs4, hk4, hb4⟩
    replace r1 := (hb4.block B1 hz1).trans r1
    replace HB := HB.trans (hb4.mono HB.size)
    replace hz1 := Nat.lt_of_lt_of_le hz1 hb4.size
    replace hV2 := hV2.kept hb4
    replace hV3 := hV3.kept hb4
    clear hb4
    go_wp2_with fail
    have r2 := heap_alloc_new w4 (.cells #[.string s4, .int .i64 k4, .bool f4] 48)
    have hbx := (Below.refl w4.heap.size w4).alloc (Nat.le_refl _) (.cells #[.string s4, .int .i64 k4, .bool f4] 48)
    replace r1 := (hbx.block B1 hz1).trans r1
    replace HB := HB.trans (hbx.mono HB.size)
    replace hz1 := Nat.lt_of_lt_of_le hz1 hbx.size
    replace hV2 := hV2.kept hbx
    replace hV3 := hV3.kept hbx
    clear hbx
    generalize w4.alloc (.cells #[.string s4, .int .i64 k4, .bool f4] 48) = V4 at *
    generalize w4.heap.size = B4 at *
    obtain ⟨x10, x11, x12⟩ := box3p r1
    obtain ⟨x40, x41, x42⟩ := box3p r2
    have c10 := cell_regrown x10
    have c11 := cell_regrown x11
    have c12 := cell_regrown x12
    have c40 := cell_regrown x40
    have c41 := cell_regrown x41
    have c42 := cell_regrown x42
    have R1 := Lib.hid r1
    have HV2 := Lib.hid hV2
    have HV3 := Lib.hid hV3
    obtain ⟨qa, hqa⟩ : ∃ qa, alwaysB s4 k4 = qa := ⟨_, rfl⟩
    have C1 := Lib.hid (fun W => always_is (f := f4) (show s4.size ≤ 1048576 by omega) hqa W)
    have C2 := Lib.hid (fun W => always_is' (f := f4) (show s4.size ≤ 1048576 by omega) hqa W)
    have eqa : (qa != qa) = false := by simp
    have enn : ((n : Int) != (n : Int)) = false := by simp
    clear hqa r1 r2 x10 x11 x12 x40 x41 x42 hV2 hV3
    have h3 : (patOk s k = false ∧ alwaysB s k = false ∧ n = 0) ∨ (patOk s k = true ∧ alwaysB s k = true ∧ decide ((s.size : Int) ≤ k) = true ∧ n = 0) ∨ (patOk s k = true ∧ alwaysB s k = false ∧ decide ((s.size : Int) ≤ k) = false ∧ n = k.toNat + 1) := by
      have hn := HN.out
      cases hp : patOk s k
      · left; refine ⟨rfl, alwaysB_no hp, ?_⟩
        unfold pcN at hn; rw [if_neg (by rw [hp]; simp)] at hn; exact hn.symm
      · right
        by_cases hle : (s.size : Int) ≤ k
        · left; refine ⟨rfl, alwaysB_yes hp hle, by simpa using hle, ?_⟩
          unfold pcN at hn; rw [if_neg (fun h => h.2 hle)] at hn; exact hn.symm
        · right; refine ⟨rfl, alwaysB_not hle, by simpa using hle, ?_⟩
          unfold pcN at hn; rw [if_pos ⟨hp, hle⟩] at hn; exact hn.symm
    rcases h3 with ⟨hp, ha, rfl⟩ | ⟨hp, ha, hd, rfl⟩ | ⟨hp, ha, hd, hnk⟩
    case inr.inr =>
      have HNK := Lib.hid hnk
      clear hnk
      have C3 := Lib.hid (fun W => always_is (f := f) hs1 ha W)
      have C4 := Lib.hid (fun W => patOk_is' (f := f) hs1 hp W)
      have HP := Lib.hid hp
      clear hp ha
      refine wp_region_quiet_below (by kernel_rfl) (by kernel_rfl) ?_
      repeat (go_big_quiet_step (first | (go_at_call 35; first | with_reducible exact Calls.regrown_of (C1.out _) | with_reducible exact Calls.regrown_of (C3.out _)) | (go_at_call 36; with_reducible exact Calls.regrown_of (C2.out _)) | (go_at_call 37; with_reducible exact Calls.regrown_of (C4.out _))))
      refine wpQuiet_nil ?_
      intro _ hw'
      obtain ⟨⟨dq, osq⟩, hw''⟩ := hw'
      subst hw''
      have hX := below_regrown V4 dq osq
      have r1 := (hX.block B1 hz1).trans R1.out
      have hV2 := HV2.out.kept hX
      have hV3 := HV3.out.kept hX
      replace HB := HB.trans (hX.mono HB.size)
      replace hz1 := Nat.lt_of_lt_of_le hz1 hX.size
      clear C1 C2 C3 C4 R1 HV2 HV3 hX c10 c11 c12 c40 c41 c42 eqa enn
      generalize Sort.grow (redrawn V4 dq) osq = W5 at *
      obtain ⟨x10, x11, x12⟩ := box3p r1
      obtain ⟨hp0, hp1, hk0, hk1⟩ := (patOk_iff s k).1 HP.out
      obtain ⟨K, rfl⟩ := Int.eq_ofNat_of_zero_le hk0
      obtain rfl : n = K + 1 := by have := HNK.out; simpa using this
      have hKs : K + 1 ≤ s.size := by have := of_decide_eq_false hd; omega
      have hK4 : K ≤ 4 := by omega
      have HL := Lib.hid (show (pcL s (K + 1)).length = (K + 1) * 2 from pieceL_length _ _ _)
      have HV2 := Lib.hid hV2; have HV3 := Lib.hid hV3
      have HE := Lib.hid (show s.extract 0 (pcA s.size (K + 1) (K + 1)) = s by rw [pcA_end _ _ (by omega)]; simp)
      clear hV2 hV3 hd HN HNK
      go_wp2
      go_loopw [7, 8] (fun sv i wr => ∃ j : Nat, j ≤ K + 1 ∧ i = .int .i64 j ∧ sv = .string (s.extract 0 (pcA s.size (K + 1) j)) ∧ Below W5.heap.size W5 wr)
        (fun _ i _ => K + 1 - (intOf i).toNat)
      case atStart => exact ⟨0, by omega, rfl, by rw [pcA_zero, ex_zero], Below.refl _ _⟩
      case round =>
        obtain ⟨j, hj, rfl, rfl, hb⟩ := hrel
        by_cases hlt : j < K + 1
        · obtain ⟨b2, off2, rfl, hp2⟩ := (HV2.out.kept hb).at (j * 2) (by rw [HL.out]; omega)
          obtain ⟨b3, off3, rfl, hp3⟩ := (HV3.out.kept hb).at (j * 2) (by rw [HL.out]; omega)
          have c1 := hp2 (j * 2) (by rw [HL.out]; omega)
          have d1 := hp2 (j * 2 + 1) (by rw [HL.out]; omega)
          have t1 := hp2 (0 * 2 + 1) (by rw [HL.out]; omega)
          have c3 := hp3 (j * 2) (by rw [HL.out]; omega)
          have d3 := hp3 (j * 2 + 1) (by rw [HL.out]; omega)
          obtain ⟨v1, v2⟩ := pieceL_at (pcF s (K + 1)) (pcT s (K + 1)) (K + 1) j hlt
          obtain ⟨_, v3⟩ := pieceL_at (pcF s (K + 1)) (pcT s (K + 1)) (K + 1) 0 (by omega)
          obtain ⟨g0, g1, g2⟩ := pc_gap s.size (K + 1) j (by omega) hKs
          obtain ⟨_, _, _, q', _, _, _, _, _, _, _, _, _, hqm, _, hq'⟩ := pcA_facts s.size K j (by omega) (by omega) hK4
          have hqm2 : pcA s.size (K + 1) (j + 1) ≤ s.size := by omega
          have hz := pcA_one s.size (K + 1)
          have hzm : s.size / (K + 1) ≤ s.size := Nat.div_le_self _ _
          have hTs : (pcT s (K + 1) j).size = pcA s.size (K + 1) (j + 1) - pcA s.size (K + 1) j := ex_size _ _ _ hqm2
          have hT0 : (pcT s (K + 1) 0).size = s.size / (K + 1) := by unfold pcT; rw [ex_size _ _ _ (by rw [hz]; exact hzm), pcA_zero, hz]; rfl
          have hSs : (s.extract 0 (pcA s.size (K + 1) j)).size = pcA s.size (K + 1) j := by rw [ex_size _ _ _ (by omega)]; rfl
          have hST : s.extract 0 (pcA s.size (K + 1) j) ++ pcT s (K + 1) j = s.extract 0 (pcA s.size (K + 1) (j + 1)) := ex_join _ _ _ (by omega)
          unfold pcL at c1 d1 t1 c3 d3
          rw [v1] at c1 c3
          rw [v2] at d1 d3
          rw [v3] at t1
          have hF : pcF s (K + 1) j = ((s.extract 0 (pcA s.size (K + 1) j)).size : Int) := by rw [hSs]; rfl
          rw [hF] at c1 c3
          rw [← Nat.add_assoc] at d1 d3
          rw [show 0 * 2 + 1 = 1 from rfl] at t1
          have hlb := block_lt_of_cell c1
          have hlb3 := block_lt_of_cell c3
          obtain ⟨S, hS⟩ : ∃ S, s.extract 0 (pcA s.size (K + 1) j) = S := ⟨_, rfl⟩
          obtain ⟨T, hT⟩ : ∃ T, pcT s (K + 1) j = T := ⟨_, rfl⟩
          obtain ⟨T0, hT00⟩ : ∃ T0, pcT s (K + 1) 0 = T0 := ⟨_, rfl⟩
          rw [hS] at c1 c3 hST hSs ⊢
          rw [hT] at d1 d3 hTs hST
          rw [hT00] at t1 hT0
          have HST := Lib.hid hST
          have m1 : S.size ≤ 8 := by omega
          have m2 : T.size ≤ 8 := by omega
          have m3 : T0.size ≤ 8 := by omega
          have e1 : ((S.size : Int) != (S.size : Int)) = false := by simp
          have e2 : (T == (⟨#[]⟩ : ByteArray)) = false := ne_nil (by omega)
          have hT1 : 1 ≤ T.size := by omega
          have e5 := no_list hT1
          have e3 : decide ((1 : Int) < (T.size : Int) - (T0.size : Int)) = false := by simp; omega
          have e4 : decide ((1 : Int) < (T0.size : Int) - (T.size : Int)) = false := by simp; omega
          have i1 : (0 : Int) < ((K : Int) + 1) := by omega
          clear hp2 hp3 v1 v2 v3 g0 g1 g2 hqm hq' hqm2 hz hzm hTs hT0 hSs hST hF hS hT hT00
          go_wp2_with fail
          go_quiet (fail)
          go_wp2
          go_roundw
          case rel =>
            iterate 73 (apply Exists.intro)
            exact ⟨⟨j + 1, by omega, by go_num, by rw [HST.out], below_drewN hb _⟩, rfl⟩
          case measure => simp [intOf]; omega
        · obtain rfl : j = K + 1 := by omega
          have y0 := (hb.cell (p := ⟨B1, 0, none⟩) hz1).trans x10
          have y1 := (hb.cell (p := ⟨B1, 1, none⟩) hz1).trans x11
          rw [HE.out]
          clear x10 x11 x12
          go_wp2
          go_ret
          exact ⟨rfl, HB.trans (hb.mono HB.size)⟩
    all_goals
      have C3 := Lib.hid (fun W => always_is (f := f) hs1 ha W)
      have C4 := Lib.hid (fun W => patOk_is' (f := f) hs1 hp W)
      have HP := Lib.hid hp
      clear hp ha
      refine wp_region_quiet_below (by kernel_rfl) (by kernel_rfl) ?_
      repeat (go_big_quiet_step (first | (go_at_call 35; first | with_reducible exact Calls.regrown_of (C1.out _) | with_reducible exact Calls.regrown_of (C3.out _)) | (go_at_call 36; with_reducible exact Calls.regrown_of (C2.out _)) | (go_at_call 37; with_reducible exact Calls.regrown_of (C4.out _))))
      refine wpQuiet_nil ?_
      intro _ hw'
      obtain ⟨⟨dq, osq⟩, hw''⟩ := hw'
      subst hw''
      have hX := below_regrown V4 dq osq
      have r1 := (hX.block B1 hz1).trans R1.out
      have hV2 := HV2.out.kept hX
      have hV3 := HV3.out.kept hX
      replace HB := HB.trans (hX.mono HB.size)
      replace hz1 := Nat.lt_of_lt_of_le hz1 hX.size
      clear C1 C2 C3 C4 R1 HV2 HV3 hX c10 c11 c12 c40 c41 c42 eqa enn
      generalize Sort.grow (redrawn V4 dq) osq = W5 at *
      clear hV2 hV3
      go_wp2
      go_loopw [7, 8] (fun sv i wr => sv = .string ⟨#[]⟩ ∧ i = .int .i64 0 ∧ wr = W5) (fun _ _ _ => 0)
      case atStart => exact ⟨rfl, rfl, rfl⟩
      case round =>
        obtain ⟨rfl, rfl, rfl⟩ := hrel
        go_wp2
        go_ret
        exact ⟨rfl, HB⟩
  · have hbig : decide (1048576 < (len : Int)) = true := by simp; omega
    go_enter Try.func9, Try.ntmps9
    go_wp2_with (go_at_call 15; go_in)
    go_ret
    exact ⟨rfl, Below.refl _ _⟩
end Go.Proofs.Ytglldmfhjipacaa

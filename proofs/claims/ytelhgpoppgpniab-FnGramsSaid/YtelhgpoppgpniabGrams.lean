/-
  FnGrams: the walk.
-/
import Derived.Test.YtelhgpoppgpniabL16Q
import Derived.Test.YtelhgpoppgpniabL1Draw
namespace Go.Proofs.Ytelhgpoppgpniab
open Go.RowKit
set_option linter.unusedVariables false
set_option maxRecDepth 100000
theorem comI_turn (s t : ByteArray) (q : Int) : comI t s q = comI s t q := by
  unfold comI comN
  by_cases h : gramOk s q = true ∧ gramOk t q = true
  · rw [if_pos h, if_pos ⟨h.2, h.1⟩, pairN_symm]
  · rw [if_neg h, if_neg (fun h2 => h ⟨h2.2, h2.1⟩)]
theorem gramsS_mem {q : Nat} (hq : 1 ≤ q) {s : ByteArray} {x : List UInt8} (h : x ∈ gramsS q s) : x.length = q := by
  have h1 := List.count_pos_iff.2 h
  rw [gramsS_count hq, ← gramsTo_all hq] at h1
  have h2 := List.count_pos_iff.1 h1
  unfold gramsTo at h2
  obtain ⟨j, hj, rfl⟩ := List.mem_map.1 h2
  have := List.mem_range.1 hj
  exact gramAt_len (by omega)
theorem gramsV_mem {q : Int} {s : ByteArray} {x : List UInt8} (h : x ∈ gramsV s q) : (x.length : Int) = q := by
  by_cases hg : gramOk s q = true
  · obtain ⟨h1, h2, h3⟩ := gramOk_iff.1 hg
    obtain ⟨n, rfl⟩ : ∃ n : Nat, q = (n : Int) := ⟨q.toNat, by omega⟩
    rw [gramsV_yes hg] at h
    rw [gramsS_mem (by omega) h]
  · rw [gramsV_no hg] at h; cases h
theorem gramsV_up (s : ByteArray) (q : Int) : UpL (gramsV s q) := by
  by_cases hg : gramOk s q = true
  · obtain ⟨h1, h2, h3⟩ := gramOk_iff.1 hg
    obtain ⟨n, rfl⟩ : ∃ n : Nat, q = (n : Int) := ⟨q.toNat, by omega⟩
    rw [gramsV_yes hg]; exact gramsS_up _ _
  · rw [gramsV_no hg]; trivial
theorem upL_at : ∀ (L : List (List UInt8)) (i : Nat), UpL L → i + 1 < L.length → ¬ L.getD (i + 1) [] < L.getD i []
  | [], i, _, h => by simp at h
  | x :: L, 0, hL, h => by
    have h1 : 0 < L.length := by simpa using h
    have := hL.1 (L.getD 0 []) (by rw [List.getD_eq_getElem?_getD, List.getElem?_eq_getElem h1]; exact List.getElem_mem h1)
    simpa using this
  | x :: L, i + 1, hL, h => by
    have := upL_at L i hL.2 (by simpa using h)
    simpa using this
/-- what Common tells against what GramsOf tells -/
theorem comI_grams (s t : ByteArray) (q : Int) : comI s t q < 0 ∨ (comI s t q ≤ (gramsV s q).length ∧ comI s t q ≤ (gramsV t q).length ∧ comI s s q = (gramsV s q).length) := by
  by_cases h : gramOk s q = true ∧ gramOk t q = true
  · right
    obtain ⟨h1, h2⟩ := h
    obtain ⟨a1, a2, a3⟩ := gramOk_iff.1 h1
    obtain ⟨n, rfl⟩ : ∃ n : Nat, q = (n : Int) := ⟨q.toNat, by omega⟩
    have hn : 1 ≤ n := by omega
    rw [comI_yes h1 h2, comI_yes h1 h1, gramsV_yes h1, gramsV_yes h2, gramsS_length, gramsS_length]
    have l1 := pairN_le (gramsL n (bl s)) (gramsL n (bl t))
    have l2 := pairN_le (gramsL n (bl t)) (gramsL n (bl s))
    rw [pairN_symm, gramsL_len hn, bl_len] at l2
    rw [gramsL_len hn, bl_len] at l1
    have l3 := pairN_self (gramsL n (bl s))
    rw [gramsL_len hn, bl_len] at l3
    unfold comN
    exact ⟨by omega, by omega, by rw [l3]⟩
  · left
    rw [comI_else h]; decide
theorem drawGramsOf (a : Option Addr) (len cap : Nat) (z : List Int) (w : World) (hr : IsRow .u8 w a len cap z) (hl : len ≤ 1048576) :
    Calls Try.prog 34 #[.slice a len cap] w fun e w' => ∃ (s : ByteArray) (q : Int), e = .returned (.tuple #[.string s, .int .i64 q]) ∧ s.size ≤ 14 ∧ Below w.heap.size w w' := by
  go_enter Try.func34, Try.ntmps34
  go_wp2_with fail
  refine (l1Open_any _ _ _ _ _ hr hl).mono ?_
  rintro e w1 ⟨rfl, hok, hb⟩
  go_wp2_with fail
  refine (rd_term _ _ _ _ _ _ hok 9 (by omega)).mono ?_
  rintro e w2 ⟨s, rfl, hs, hok2, hg2⟩
  go_wp2_with fail
  refine (rd_off _ _ _ _ _ _ hok2 _ _ (by omega) (by omega) (by omega) (by omega)).mono ?_
  rintro e w6 ⟨k, rfl, hk, hok6, hg6⟩
  go_wp2
  refine bodyPost_ret (v := .tuple #[.string s, .int .i64 k]) (by simp [results, Try.results34, go_sem]) rfl ⟨s, k, rfl, by omega, below_rd hb (grownBy_trans hg2 hg6)⟩
theorem drawCommon (a : Option Addr) (len cap : Nat) (z : List Int) (w : World) (hr : IsRow .u8 w a len cap z) (hl : len ≤ 1048576) :
    Calls Try.prog 36 #[.slice a len cap] w fun e w' => ∃ (s t : ByteArray) (q : Int), e = .returned (.tuple #[.string s, .string t, .int .i64 q]) ∧ s.size ≤ 14 ∧ t.size ≤ 14 ∧ Below w.heap.size w w' := by
  go_enter Try.func36, Try.ntmps36
  go_wp2_with fail
  refine (l1Open_any _ _ _ _ _ hr hl).mono ?_
  rintro e w1 ⟨rfl, hok, hb⟩
  go_wp2_with fail
  refine (rd_term _ _ _ _ _ _ hok 9 (by omega)).mono ?_
  rintro e w2 ⟨s, rfl, hs, hok2, hg2⟩
  go_wp2_with fail
  refine (rd_nearly _ _ _ _ _ _ hok2 s (by omega)).mono ?_
  rintro e w3 ⟨t, rfl, ht, hok3, hg3⟩
  go_wp2_with fail
  refine (rd_off _ _ _ _ _ _ hok3 _ _ (by omega) (by omega) (by omega) (by omega)).mono ?_
  rintro e w6 ⟨k, rfl, hk, hok6, hg6⟩
  go_wp2
  refine bodyPost_ret (v := .tuple #[.string s, .string t, .int .i64 k]) (by simp [results, Try.results36, go_sem]) rfl ⟨s, t, k, rfl, by omega, by omega, below_rd hb (grownBy_trans hg2 (grownBy_trans hg3 hg6))⟩
set_option maxHeartbeats 1000000 in
theorem laws_sameTexts (t : Nat → ByteArray) (a1 a2 : Option Addr) (n cap1 cap2 : Nat) (w : World) (h1 : Vals w a1 (strL t n)) (h2 : Vals w a2 (strL t n)) (hlen : n ≤ 1048577) :
    Calls Try.prog 33 #[.slice a1 n cap1, .slice a2 n cap2] w fun e w' => e = .returned (.bool true) ∧ Below w.heap.size w w' := by
  have e0 : ((n : Int) != (n : Int)) = false := by simp
  have hn := strL_length t n
  have HN := Lib.hid hn; clear hn
  go_enter Try.func33, Try.ntmps33
  go_wp2
  go_loopw [5] (fun i wr => ∃ k : Nat, k ≤ n ∧ i = .int .i64 k ∧ Below w.heap.size w wr)
    (fun i _ => n - (intOf i).toNat)
  case atStart => exact ⟨0, by omega, rfl, Below.refl _ _⟩
  case round =>
    obtain ⟨k, hk, rfl, hb⟩ := hrel
    by_cases hlt : k < n
    · obtain ⟨b1, off1, rfl, hp1⟩ := (h1.kept hb).at k (by rw [HN.out]; omega)
      obtain ⟨b2, off2, rfl, hp2⟩ := (h2.kept hb).at k (by rw [HN.out]; omega)
      have c1 := hp1 k (by rw [HN.out]; omega)
      have c2 := hp2 k (by rw [HN.out]; omega)
      rw [strL_at t n k hlt] at c1 c2
      generalize t k = y at c1 c2
      have ey : (y.toList == y.toList) = true := by simp
      clear h1 h2 hp1 hp2
      go_wp2_with fail
      go_quiet (fail)
      go_wp2
      go_roundw
      case rel => exact ⟨k + 1, by omega, by go_num, below_drewN hb _⟩
      case measure => simp [intOf]; omega
    · obtain rfl : k = n := by omega
      go_wp2
      go_ret
      exact ⟨rfl, hb⟩
set_option maxHeartbeats 4000000 in
theorem law_FnGrams (a : Option Addr) (len cap : Nat) (z : List Int) (w : World) (hr : IsRow .u8 w a len cap z) :
    Calls Try.prog 7 #[.slice a len cap] w fun e w' => e = .returned (.bool true) ∧ Below w.heap.size w w' := by
  by_cases hl : len ≤ 1048576
  · have hbig : decide (1048576 < (len : Int)) = false := by simp; omega
    go_enter Try.func7, Try.ntmps7
    go_wp2_with (go_at_call 10; refine (laws_big _ _ _ _ (by omega)).mono ?_; rintro e w' ⟨rfl, rfl⟩)
    refine (drawGramsOf _ _ _ _ _ hr hl).mono ?_
    rintro e w1 ⟨s, q, rfl, hs, hb1⟩
    go_wp2_with fail
    refine (impl_gramsOf s q _ (by omega)).mono ?_
    rintro e w2 ⟨a1, cap1, rfl, hO1, hb2⟩
    have hB2 := below_step hb1 hb2
    go_wp2_with fail
    refine (drawCommon _ _ _ _ _ (isRow_below hr hB2) hl).mono ?_
    rintro e w3 ⟨x, y, n, rfl, hx, hy, hb3⟩
    have hB3 := below_step hB2 hb3
    have hV1 := (hO1.kept hb3).vals
    have HCS := Lib.hid (comI_turn x y n)
    have HCG := Lib.hid (comI_grams x y n)
    have HLEN := Lib.hid (gramsV_len s q)
    have HUP := Lib.hid (gramsV_up s q)
    have HMEM := Lib.hid (fun u (hu : u ∈ gramsV s q) => gramsV_mem hu)
    have HSP := Lib.hid (fun W => spec_gramsOf s q W (by omega))
    have HX1 := Lib.hid (fun W => impl_gramsOf x n W (by omega))
    have HY1 := Lib.hid (fun W => impl_gramsOf y n W (by omega))
    have hxl := gramsV_len x n
    have hyl := gramsV_len y n
    obtain ⟨c, hc⟩ : ∃ c, comI x y n = c := ⟨_, rfl⟩
    obtain ⟨d, hd⟩ : ∃ d, comI x x n = d := ⟨_, rfl⟩
    obtain ⟨lx, hlx⟩ : ∃ m, (gramsV x n).length = m := ⟨_, rfl⟩
    obtain ⟨ly, hly⟩ : ∃ m, (gramsV y n).length = m := ⟨_, rfl⟩
    rw [hc, hd, hlx, hly] at HCG
    rw [hc] at HCS
    rw [hlx] at HX1 hxl
    rw [hly] at HY1 hyl
    have HC := Lib.hid hc; have HD := Lib.hid hd
    obtain ⟨L, hL⟩ : ∃ L, gramsV s q = L := ⟨_, rfl⟩
    rw [hL] at hV1 HLEN HUP HMEM HSP
    rw [hL]
    obtain ⟨m, hm⟩ : ∃ m, L.length = m := ⟨_, rfl⟩
    have HM := Lib.hid hm
    rw [hm] at HSP HLEN
    rw [hm]
    have hmle : m ≤ 201 := HLEN.out
    obtain ⟨t, ht⟩ : ∃ t : Nat → ByteArray, (fun i => txt (L.getD i [])) = t := ⟨_, rfl⟩
    have hst := strs_strL L
    rw [ht, hm] at hst
    have HST := Lib.hid hst
    clear hc hd hlx hly hL hm hst hb1 hb2 hb3 hB2 hO1
    go_wp2_with fail
    refine (impl_common x y n _ (by omega) (by omega)).mono ?_
    rintro e w4 ⟨rfl, hb4⟩
    rw [HC.out]
    have hB4 := below_step hB3 hb4
    replace hV1 := hV1.kept hb4
    go_wp2_with fail
    refine (HSP.out _).mono ?_
    rintro e w5 ⟨a5, cap5, rfl, hO5, hb5⟩
    have hB5 := below_step hB4 hb5
    replace hV1 := hV1.kept hb5
    go_wp2_with fail
    refine (laws_sameTexts t _ _ m _ _ _ (by rw [← HST.out]; exact hV1) (by rw [← HST.out]; exact hO5.vals) (by omega)).mono ?_
    rintro e w6 ⟨rfl, hb6⟩
    have hB6 := below_step hB5 hb6
    replace hV1 := hV1.kept hb6
    have ec : (c != c) = false := by simp
    clear hO5 hb4 hb5 hB3 hB4 hB5 hb6
    go_wp2_with fail
    refine (spec_common x y n _ (by omega) (by omega)).mono ?_
    rintro e w7 ⟨rfl, hb7⟩
    rw [HC.out]
    have hB7 := below_step hB6 hb7
    replace hV1 := hV1.kept hb7
    go_wp2_with fail
    refine (impl_common y x n _ (by omega) (by omega)).mono ?_
    rintro e w8 ⟨rfl, hb8⟩
    rw [HCS.out]
    have hB8 := below_step hB7 hb8
    replace hV1 := hV1.kept hb8
    have HV := Lib.hid hV1
    have HB8 := Lib.hid hB8
    clear hb7 hB6 hb8 hB7 hB8 hV1 ht
    go_wp2_with fail
    go_loopw [10] (fun i wr => ∃ k : Nat, k ≤ m ∧ i = .int .i64 (k : Int) ∧ Below w8.heap.size w8 wr)
      (fun i _ => m - (intOf i).toNat)
    case atStart => exact ⟨0, by omega, rfl, Below.refl _ _⟩
    case round =>
      obtain ⟨k, hk, rfl, hb⟩ := hrel
      by_cases hlt : k < m
      · have hlL : k < L.length := by rw [HM.out]; exact hlt
        obtain ⟨b9, off9, rfl, hp⟩ := (HV.out.kept hb).at k (by rw [strs_length]; exact hlL)
        have c0 := hp k (by rw [strs_length]; exact hlL)
        rw [strs_at hlL] at c0
        have hmem : L.getD k [] ∈ L := by rw [List.getD_eq_getElem?_getD, List.getElem?_eq_getElem hlL]; exact List.getElem_mem hlL
        have hlen := HMEM.out _ hmem
        obtain ⟨u, hu⟩ : ∃ u, L.getD k [] = u := ⟨_, rfl⟩
        rw [hu] at c0 hlen
        obtain ⟨U, hU⟩ : ∃ U, txt u = U := ⟨_, rfl⟩
        have hUz : (U.size : Int) = q := by rw [← hU, txt_size]; exact hlen
        have hUb : bl U = u := by rw [← hU, bl_txt]
        rw [hU] at c0
        have q1 : ((U.size : Int) != q) = false := by rw [hUz]; simp
        clear hU hlen hUz hmem
        by_cases hk0 : k = 0
        · subst hk0
          have g0 : decide ((0 : Int) < ((0 : Nat) : Int)) = false := by simp
          rw [Nat.add_zero] at c0
          clear hp hUb hu
          go_wp2_with fail
          go_quiet (fail)
          go_wp2
          go_roundw
          case rel => exact ⟨0 + 1, by omega, by go_num, below_drewN hb _⟩
          case measure => first | (simp [intOf]; done) | (simp [intOf]; omega)
        · obtain ⟨j, rfl⟩ : ∃ j, k = j + 1 := ⟨k - 1, by omega⟩
          have g0 : decide ((0 : Int) < ((j + 1 : Nat) : Int)) = true := by first | (simp; done) | (simp; omega)
          have hlJ : j < L.length := by omega
          have c1 := hp j (by rw [strs_length]; exact hlJ)
          rw [strs_at hlJ] at c1
          have hup := upL_at L j HUP.out hlL
          rw [hu] at hup
          obtain ⟨v, hv⟩ : ∃ v, L.getD j [] = v := ⟨_, rfl⟩
          rw [hv] at c1 hup
          obtain ⟨V, hV⟩ : ∃ V, txt v = V := ⟨_, rfl⟩
          have hVb : bl V = v := by rw [← hV, bl_txt]
          rw [hV] at c1
          have sl := strLt V U
          have se := strEq V U
          rw [hVb, hUb] at sl se
          have hw : IntKind.i64.wrap (((j + 1 : Nat) : Int) - 1) = (j : Int) := by rw [IntKind.wrap_i64]; omega
          have hw2 : (((j + 1 : Nat) : Int) - 1) = (j : Int) := by omega
          clear hp hUb hu hv hV hVb
          by_cases hvu : v < u
          · have e1 : Op.bytesLess V.toList U.toList = true := by rw [sl]; exact decide_eq_true hvu
            clear sl se hup hvu
            go_wp2_with fail
            go_quiet (fail)
            go_wp2
            go_roundw
            case rel => exact ⟨j + 1 + 1, by omega, by go_num, below_drewN hb _⟩
            case measure => simp [intOf]; omega
          · have e1 : Op.bytesLess V.toList U.toList = false := by rw [sl]; exact decide_eq_false hvu
            have e2 : (V.toList == U.toList) = true := by rw [se]; exact decide_eq_true (bl_tri hvu hup)
            clear sl se hup hvu
            go_wp2_with fail
            go_quiet (fail)
            go_wp2
            go_roundw
            case rel => exact ⟨j + 1 + 1, by omega, by go_num, below_drewN hb _⟩
            case measure => simp [intOf]; omega
      · obtain rfl : k = m := by omega
        have HBB := Lib.hid (below_step HB8.out hb)
        clear HV hb
        rcases HCG.out with hneg | ⟨i1, i2, i3⟩
        · have n0 : decide (c < 0) = true := decide_eq_true hneg
          go_wp2
          go_ret
          exact ⟨rfl, HBB.out⟩
        · by_cases hneg : c < 0
          · have n0 : decide (c < 0) = true := decide_eq_true hneg
            go_wp2
            go_ret
            exact ⟨rfl, HBB.out⟩
          · have n0 : decide (c < 0) = false := decide_eq_false hneg
            have n1 : decide (c ≤ (lx : Int)) = true := decide_eq_true i1
            have n2 : decide (c ≤ (ly : Int)) = true := decide_eq_true i2
            have n3 : (d == (lx : Int)) = true := by simpa using i3
            clear i1 i2 i3 hneg
            go_wp2_with fail
            refine (HX1.out _).mono ?_
            rintro e w9 ⟨a9, cap9, rfl, hO9, hb9⟩
            have hB9 := below_step HBB.out hb9
            go_wp2_with fail
            refine (HY1.out _).mono ?_
            rintro e w10 ⟨a10, cap10, rfl, hO10, hb10⟩
            have hB10 := below_step hB9 hb10
            go_wp2_with fail
            refine (impl_common x x n _ (by omega) (by omega)).mono ?_
            rintro e w11 ⟨rfl, hb11⟩
            rw [HD.out]
            have hB11 := below_step hB10 hb11
            go_wp2_with fail
            refine (HX1.out _).mono ?_
            rintro e w12 ⟨a12, cap12, rfl, hO12, hb12⟩
            have hB12 := below_step hB11 hb12
            clear hO9 hO10 hO12 hb9 hb10 hb11 hb12
            go_wp2
            go_ret
            exact ⟨rfl, hB12⟩
  · have hbig : decide (1048576 < (len : Int)) = true := by simp; omega
    go_enter Try.func7, Try.ntmps7
    go_wp2_with (go_at_call 10; go_in)
    go_ret
    exact ⟨rfl, Below.refl _ _⟩
end Go.Proofs.Ytelhgpoppgpniab

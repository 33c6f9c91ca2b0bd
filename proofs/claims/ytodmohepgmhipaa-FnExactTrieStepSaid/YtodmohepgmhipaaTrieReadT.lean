/-
  Chapter 7, the program: readTrie.
-/
import Derived.Test.YtodmohepgmhipaaTrieRun
namespace Go.Proofs.Ytodmohepgmhipaa
open Go.RowKit
set_option linter.unusedVariables false
set_option maxRecDepth 100000
def noF : Nat → Value := fun _ => .pointer none
def FQ (L : List Nd) (A : Nat → Nat) (j : Nat) : Nat → Value := fun i => if i < j then flV L A i else .pointer none
theorem TM.one (w : World) (M : List Nd) (X : Obj) (h : 1 ≤ M.length) :
    TM ((w.alloc (.cells #[.int .i64 0, .int .i64 0, .int .i64 0, .pointer none, .pointer none, .slice none 0 0, .slice none 0 0] 94)).alloc X) w.heap.size M 1 (fun _ => w.heap.size) (fun k => if k = w.heap.size then 2 else 0) noF (fun _ => none) (fun _ => 0) := by
  refine ⟨fun i hi => ?_, fun i hi => ?_, fun i hi => Nat.le_refl _, fun i hi => ?_, fun i hi g hg => ?_⟩
  · obtain rfl : i = 0 := by omega
    rw [heap_alloc2_old]
    unfold nodeC
    rw [KQ_new M 0]
    rfl
  · obtain rfl : i = 0 := by omega
    rw [KQ_new M 0]
    exact OwnV.nil _ _
  · obtain rfl : i = 0 := by omega
    simp
  · obtain rfl : i = 0 := by omega
    rw [KQ_new M 0] at hg
    exact absurd hg (by simp [Value.ownBlock])
set_option maxHeartbeats 4000000 in
theorem impl_readTrie (L : List Nd) (a : Option Addr) (cap : Nat) (w : World) (h : Nds w a L) (hlen : L.length ≤ 1048576) (hK : ∀ i, i < L.length → (ndAt L i).K.length ≤ 1048576) :
    Calls Try.prog 56 #[.slice a L.length cap] w fun e w' => ∃ v, e = .returned v ∧ ((v = .slice none 0 0 ∧ ¬ Right L) ∨ (Right L ∧ ∃ a' c' A, v = .slice a' L.length c' ∧ TNs w' A L (parV L A) ∧ Vals w' a' (nodesV A L.length))) ∧ Below w.heap.size w w' := by
  obtain ⟨i0, hi, ht0, ht1, ht2⟩ := info_parts ptr_info
  have HKL := Lib.hid hK
  clear hK
  by_cases hl : 1 ≤ L.length ∧ L.length ≤ 400
  · obtain ⟨hl1, hl2⟩ := hl
    obtain ⟨M, hM1, hM2, hWM, hag, hend⟩ := good_prefix L hl1
    have HWM := Lib.hid hWM
    have HAG := Lib.hid hag
    have HEND := Lib.hid hend
    clear hWM hag hend
    have q1 : ¬ L.length = 0 := by omega
    have q2 : ¬ 400 < L.length := by omega
    have q3 : ((L.length : Int) == 0) = false := by rw [beq_eq_false_iff_ne]; omega
    go_enter Try.func56, Try.ntmps56
    go_wp2
    go_loopw [3, 4] (fun v k wr => ∃ (n : Nat) (a' : Option Addr) (c' : Nat) (A T : Nat → Nat) (ka : Nat → Option Addr) (kc : Nat → Nat), 1 ≤ n ∧ n ≤ M.length ∧ k = .int .i64 n ∧ v = .slice a' n c' ∧ TM wr w.heap.size M n A T noF ka kc ∧ OwnV 92 1 wr w.heap.size a' n c' (nodesV A n) ∧ (∀ g, (Value.slice a' n c').ownBlock = some g → T g = 0) ∧ Below w.heap.size w wr)
      (fun _ k _ => M.length - (intOf k).toNat)
    case atStart =>
      refine ⟨1, _, 1, _, _, _, _, Nat.le_refl _, hM1, by go_num, rfl, TM.one w M _ hM1, ⟨by simp [nodesV], ?_⟩, ?_, (by repeat (first | exact Below.refl _ _ | assumption | (refine Below.drew ?_) | (refine below_drewN ?_ _) | (refine Below.alloc ?_ (by first | omega | (simp; done) | (simp; omega)) _) | (refine Below.setCell ?_ (by first | omega | (simp; done) | (simp; omega)) _)))⟩
      · have := World.ownsRow_lit (base := w.heap.size) (e := 92) (size := 1) (w.alloc (.cells #[.int .i64 0, .int .i64 0, .int .i64 0, .pointer none, .pointer none, .slice none 0 0, .slice none 0 0] 94)) #[.pointer (some ⟨w.heap.size, 0, none⟩)] 1 (by simp) (by decide) rfl
        simpa [nodesV] using this
      · intro g hg
        simp only [Value.ownBlock, Option.some.injEq] at hg
        subst hg
        simp
    case round =>
      obtain ⟨n, a', c', A, T, ka, kc, hn1, hnM, rfl, rfl, hT, hO, htag, hb⟩ := hrel
      by_cases hlt : n < L.length
      · obtain ⟨b, off, rfl, hA⟩ := (h.kept hb).at n hlt
        obtain ⟨c0, c1, c2, _, _⟩ := hA n hlt
        by_cases hnm : n < M.length
        · have hg := HWM.out n (by omega) hnm
          have hag := HAG.out n hnm
          rw [hag] at hg
          obtain ⟨⟨p0, p1⟩, b0, b1⟩ := hg
          obtain ⟨p, hp⟩ := Int.eq_ofNat_of_zero_le p0
          have hpn : p < n := by omega
          have HPM := Lib.hid (show (ndAt M n).p = (p : Int) by rw [hag]; exact hp)
          have HB := Lib.hid (inB_yes ⟨b0, b1⟩)
          have hqb : (ndAt M n).b = (ndAt L n).b := by rw [hag]
          rw [hp] at c1
          obtain ⟨bn, on, rfl, hV⟩ := hO.vals.at p (by rw [nodesV_length]; omega)
          have d0 := hV p (by rw [nodesV_length]; omega)
          rw [nodesV_at _ _ _ hpn] at d0
          have HT := Lib.hid hT
          have HO := Lib.hid hO
          have HTAG := Lib.hid htag
          have HQB := Lib.hid hqb
          have g1 : decide ((p : Int) < 0) = false := decide_eq_false (by omega)
          have g2 : decide ((n : Int) ≤ (p : Int)) = false := decide_eq_false (by omega)
          have g3 : decide (n ≤ p) = false := decide_eq_false (by omega)
          have hs := hb.size
          clear hA h hag p0 p1 b0 b1 hp hqb hT hO htag hV
          generalize (ndAt L n).b = q at *
          go_wp2_with (go_at_call 57; refine (implT_isByte _ _).mono ?_; rintro e w' ⟨rfl, rfl⟩; rw [HB.out])
          have HAK := Lib.hid (show ∀ W : World, W.heap = wr.heap → Below w.heap.size w W → Calls Try.prog 99 #[.pointer (some ⟨A p, 0, none⟩), .int .i64 q, .int .i64 n] W fun e w' => e = .returned (.pointer (some ⟨wr.heap.size, 0, none⟩)) ∧
              ∃ T' ka' kc', TM w' w.heap.size M (n + 1) (upf A n wr.heap.size) T' noF ka' kc' ∧ OwnV 92 1 w' w.heap.size (some ⟨bn, on, none⟩) n c' (nodesV A n) ∧ (∀ g, (Value.slice (some ⟨bn, on, none⟩) n c').ownBlock = some g → T' g = 0) ∧ Below w.heap.size w w' from fun W hWe hWb => by
            have hTW : TM W w.heap.size M n A T noF ka kc := HT.out.on fun k _ _ => by rw [hWe]
            have hOW : OwnV 92 1 W w.heap.size (some ⟨bn, on, none⟩) n c' (nodesV A n) := HO.out.on fun g _ => by rw [hWe]
            have hk := impl_addKid M w.heap.size n p A T noF ka kc W hTW hWb.size HWM.out hnm (by omega) HPM.out hpn rfl (by omega)
            rw [HQB.out] at hk
            refine hk.mono ?_
            rintro e w' ⟨rfl, T', ka', kc', h1, h2, h3, h4, h5⟩
            rw [hWe]
            rw [hWe] at h1
            exact ⟨rfl, T', ka', kc', h1, hOW.on fun g hg => h3 g (hOW.turn_lt g hg) (by rw [HTAG.out g hg]; omega), fun g hg => (h2 g (hOW.turn_lt g hg)).trans (HTAG.out g hg), hWb.trans h4⟩)
          clear c1 c2
          go_region_law (first | (refine step_append_lies _ rfl (.tmp 46) (.tmp 58) 89 rfl w.heap.size 92 i0 (.pointer none) 1 8 Try.underlying89 hi ht0 ht1 ht2 rfl (by decide) (.slice (some ⟨bn, on, none⟩) n c') _ _ (by simp [Act.eval]) (by first | exact hO2.2.alloc _ | exact (hO2.2.alloc _).drew) ⟨w2.heap.size, 0, none⟩ 1 1 [.pointer (some ⟨wr.heap.size, 0, none⟩)] (by simp [Act.eval]) rfl (fun j u h => cells_new w2 _ _ j u h) (oneV rfl) (by decide) (by unfold maxLen; omega) (by omega) (by have := hb2.size; simp; omega) _ rfl ?_; intro g3 cap3 w3 hown3 hg3 hat3 hlt3) | (go_simp; go_at_call 99; refine (HAK.out _ ?_ ?_).mono ?_; (first | rfl | (simp; done)); (exact (by repeat (first | exact Below.refl _ _ | assumption | (refine Below.drew ?_) | (refine below_drewN ?_ _) | (refine Below.alloc ?_ (by first | omega | (simp; done) | (simp; omega)) _) | (refine Below.setCell ?_ (by first | omega | (simp; done) | (simp; omega)) _)))); rintro e w2 ⟨rfl, T', ka', kc', hT2, hO2, htag2, hb2⟩))
          all_goals
            have hs2 : w.heap.size ≤ w2.heap.size := hb2.size
            have HT3 := Lib.hid (show TM w3 w.heap.size M (n + 1) (upf A n wr.heap.size) (upf T' (w2.heap.size + 1) 0) noF ka' kc' from
              (hT2.retag fun k hk => upf_other _ _ _ _ (by omega)).on fun k hk h2 => (hg3.block k (by simp; omega) (fun e => by
                have := htag2 k e.symm; rw [upf_other _ _ _ _ (by omega)] at h2; omega)).trans (Below.heap_alloc w2 _ _ hk))
            have HB3 := Lib.hid (show Below w.heap.size w w3 from (hb2.alloc hb2.size _).grown hg3 (by simp; omega) (fun j hj => (hO2.2.lt j hj).1))
            have HO3 := Lib.hid (show OwnV 92 1 w3 w.heap.size (some ⟨g3, 0, none⟩) (n + 1) cap3 (nodesV (upf A n wr.heap.size) (n + 1)) from ⟨by rw [nodesV_length, Nat.mul_one], by rw [nodesV_succ]; exact hown3⟩)
            have HG3 := Lib.hid (show ∀ g, (Value.slice (some ⟨g3, 0, none⟩) (n + 1) cap3).ownBlock = some g → upf T' (w2.heap.size + 1) 0 g = 0 from fun g hg => by
              simp only [Value.ownBlock, Option.some.injEq] at hg
              subst hg
              rcases hat3 with h1 | h1
              · by_cases e : g3 = w2.heap.size + 1
                · rw [e, upf_self]
                · rw [upf_other _ _ _ _ e]; exact htag2 _ h1
              · rw [h1]
                have : (w2.alloc (.cells #[.pointer (some ⟨wr.heap.size, 0, none⟩)] 92)).heap.size = w2.heap.size + 1 := by simp
                rw [this, upf_self])
            clear hT2 hO2 htag2 hb2 hown3 hg3 hat3
            go_wp2
            go_roundw
            case rel => exact ⟨n + 1, some ⟨g3, 0, none⟩, cap3, _, _, ka', kc', by omega, by omega, by go_num, rfl, HT3.out, HO3.out, HG3.out, HB3.out⟩
            case measure => simp [intOf]; omega
        · obtain rfl : n = M.length := by omega
          have hbad : ¬ GoodAt L M.length := by
            rcases HEND.out with h1 | h1
            · rw [h1] at hlt; exact absurd hlt (Nat.lt_irrefl _)
            · exact h1.2
          have HNR := Lib.hid (show ¬ Right L from fun hR => hbad (hR.well M.length (by omega) hlt))
          have hgd := hbad
          unfold GoodAt at hgd
          clear hA h hbad hT hO htag c2
          generalize (ndAt L M.length).p = pp at *
          generalize (ndAt L M.length).b = bb at *
          by_cases hp0 : 0 ≤ pp
          · by_cases hp1 : pp ≤ (M.length : Int) - 1
            · have HB := Lib.hid (inB_no (n := bb) (lo := 0) (hi := 255) (fun hc => hgd ⟨⟨hp0, hp1⟩, hc⟩))
              have g1 : decide (pp < 0) = false := decide_eq_false (by omega)
              have g2 : decide ((M.length : Int) ≤ pp) = false := decide_eq_false (by omega)
              clear hgd
              go_wp2_with (go_at_call 57; refine (implT_isByte _ _).mono ?_; rintro e w' ⟨rfl, rfl⟩; rw [HB.out])
              go_ret
              exact ⟨_, rfl, .inl ⟨rfl, HNR.out⟩, hb⟩
            · have g1 : decide (pp < 0) = false := decide_eq_false (by omega)
              have g2 : decide ((M.length : Int) ≤ pp) = true := decide_eq_true (by omega)
              clear hgd
              go_wp2_with fail
              go_ret
              exact ⟨_, rfl, .inl ⟨rfl, HNR.out⟩, hb⟩
          · have g1 : decide (pp < 0) = true := decide_eq_true (by omega)
            clear hgd
            go_wp2_with fail
            go_ret
            exact ⟨_, rfl, .inl ⟨rfl, HNR.out⟩, hb⟩
      · obtain rfl : M = L := by
          rcases HEND.out with h1 | h1
          · exact h1
          · omega
        obtain rfl : n = M.length := by omega
        have HTAG := Lib.hid htag
        have HH := Lib.hid h
        clear htag h HEND HAG
        go_wp2_with fail
        go_loopw [62] (fun i wi => ∃ j : Nat, j ≤ M.length ∧ i = .int .i64 j ∧ TM wi w.heap.size M M.length A T (FQ M A j) ka kc ∧ OwnV 92 1 wi w.heap.size a' M.length c' (nodesV A M.length) ∧ (∀ i, i < j → NodeOk M i) ∧ Below w.heap.size w wi)
          (fun i _ => M.length - (intOf i).toNat)
        case atStart => exact ⟨0, by omega, by go_num, hT.congrF fun i hi => by unfold FQ noF; rw [if_neg (by omega)], hO, fun i hi => by omega, hb⟩
        case round =>
          obtain ⟨j, hj, rfl, hT2, hO2, hN, hb2⟩ := hrel
          by_cases hlj : j < M.length
          · obtain ⟨b, off, rfl, hA⟩ := (HH.out.kept hb2).at j hlj
            obtain ⟨c0, c1, c2, ⟨a3, z3, c3, i3⟩, _⟩ := hA j hlj
            obtain ⟨bn, on, rfl, hV⟩ := hO2.vals.at j (by rw [nodesV_length]; exact hlj)
            have d0 := hV j (by rw [nodesV_length]; exact hlj)
            rw [nodesV_at _ _ _ hlj] at d0
            have HT2 := Lib.hid hT2
            have HO2 := Lib.hid hO2
            have HN := Lib.hid hN
            have HI3 := Lib.hid i3
            have hkl := KQ_length M M.length j
            clear hA hV hT hO hT2 hO2 hN i3 c0 c1
            generalize hKK : (ndAt M j).K = KK at *
            generalize hff : (ndAt M j).f = ff at *
            have HKK := Lib.hid hKK
            have HFF := Lib.hid hff
            clear hKK hff
            go_wp2_with fail
            refine (impl_kidsAre A j _ _ _ _ (KQ M M.length j) KK a3 z3 _ (HT2.out.tn j hlj) HI3.out (HT2.out.kin j hlj) (by omega)).mono ?_
            rintro e w1 ⟨rfl, rfl⟩
            by_cases hk : KQ M M.length j = KK
            · rw [decide_eq_true hk]
              go_wp2_with fail
              have hrf := impl_readFail M w.heap.size j c' (some ⟨bn, on, none⟩) A T (FQ M A j) ka kc _ HT2.out HO2.out.vals hb2.size HWM.out hlj (by unfold FQ; rw [if_neg (Nat.lt_irrefl _)]) hl2
              rw [HFF.out] at hrf
              refine hrf.mono ?_
              rintro e w2 ⟨r, rfl, hr, hb3⟩
              have HB3 := Lib.hid (hb2.trans hb3)
              rcases hr with ⟨rfl, hno⟩ | ⟨rfl, hok, hT3, hlow⟩
              · have HNR := Lib.hid (show ¬ Right M from fun hR => hno (hR.node j hlj).2)
                clear hno
                go_wp2_with fail
                go_ret
                exact ⟨_, rfl, .inl ⟨rfl, HNR.out⟩, HB3.out⟩
              · have HT3 := Lib.hid (show TM w2 w.heap.size M M.length A T (FQ M A (j + 1)) ka kc from hT3.congrF fun i hi => by
                  by_cases e : i = j
                  · subst e; rw [upf_self]; unfold FQ; rw [if_pos (Nat.lt_succ_self _)]
                  · rw [upf_other _ _ _ _ e]; unfold FQ
                    by_cases h2 : i < j
                    · rw [if_pos h2, if_pos (by omega)]
                    · rw [if_neg h2, if_neg (by omega)])
                have HO3 := Lib.hid (HO2.out.on (w1 := w2) fun g hg => hlow g (HO2.out.turn_lt g hg) (by rw [HTAG.out g hg]; omega))
                have HN3 := Lib.hid (show ∀ i, i < j + 1 → NodeOk M i from fun i hi => by
                  by_cases e : i = j
                  · subst e; exact ⟨by rw [HKK.out, ← hk]; rfl, hok⟩
                  · exact HN.out i (by omega))
                clear hT3 hlow hok hb3
                go_wp2_with fail
                go_roundw
                case rel => exact ⟨j + 1, by omega, by go_num, HT3.out, HO3.out, HN3.out, HB3.out⟩
                case measure => simp [intOf]; omega
            · rw [decide_eq_false hk]
              have HNR := Lib.hid (show ¬ Right M from fun hR => hk (by rw [← HKK.out, (hR.node j hlj).1]; rfl))
              go_wp2_with fail
              go_ret
              exact ⟨_, rfl, .inl ⟨rfl, HNR.out⟩, hb2⟩
          · obtain rfl : j = M.length := by omega
            have HR := Lib.hid (right_of hl1 hl2 HWM.out hN)
            have HTN := Lib.hid (show TNs _ A M (parV M A) from fun i hi => by
              have := hT2.tn i hi
              unfold FQ at this
              rw [if_pos hi] at this
              rw [(hN i hi).1]
              exact this)
            have HV := Lib.hid hO2.vals
            clear hT hO hT2 hO2 hN
            go_wp2_with fail
            go_ret
            exact ⟨_, rfl, .inr ⟨HR.out, _, _, A, rfl, HTN.out, HV.out⟩, hb2⟩
  · have HNR := Lib.hid (show ¬ Right L from fun hR => hl ⟨hR.low, hR.high⟩)
    clear h
    by_cases h0 : L.length = 0
    · have q3 : ((L.length : Int) == 0) = true := by rw [h0]; rfl
      rw [h0]
      go_enter Try.func56, Try.ntmps56
      go_wp2
      go_ret
      exact ⟨_, rfl, .inl ⟨rfl, HNR.out⟩, Below.refl _ _⟩
    · have q3 : ((L.length : Int) == 0) = false := by rw [beq_eq_false_iff_ne]; omega
      have q2 : 400 < L.length := by omega
      go_enter Try.func56, Try.ntmps56
      go_wp2
      go_ret
      exact ⟨_, rfl, .inl ⟨rfl, HNR.out⟩, Below.refl _ _⟩
end Go.Proofs.Ytodmohepgmhipaa

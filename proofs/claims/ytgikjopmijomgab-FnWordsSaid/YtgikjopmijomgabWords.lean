/-
  FnWords: the walk.
-/
import Derived.Test.YtgikjopmijomgabFewWords
import Derived.Test.YtgikjopmijomgabWordsFacts
import Derived.Maps.AppendAt
import Derived.Deep.AppendLies
namespace Go.Proofs.Ytgikjopmijomgab
open Go.RowKit
set_option linter.unusedVariables false
set_option maxRecDepth 100000
set_option maxHeartbeats 8000000 in
theorem law_FnWords (a : Option Addr) (len cap : Nat) (z : List Int) (w : World) (hr : IsRow .u8 w a len cap z) :
    Calls Try.prog 3 #[.slice a len cap] w fun e w' => e = .returned (.bool true) ∧ Below w.heap.size w w' := by
  by_cases hl : len ≤ 1048576
  · have hbig : decide (1048576 < (len : Int)) = false := by simp; omega
    obtain ⟨i0, hi, ht0, ht1, ht2⟩ := info_parts span_info
    go_enter Try.func3, Try.ntmps3
    go_wp2_with (go_at_call 9; refine (laws_big _ _ _ _ (by omega)).mono ?_; rintro e w' ⟨rfl, rfl⟩)
    refine (drawWordsOf _ _ _ _ _ hr hl).mono ?_
    rintro e w1 ⟨s, rfl, hs, HB⟩
    have hs2 : s.size ≤ 1048576 := by omega
    have eV : wordsV s = wordsL s := if_pos (by omega)
    have hlen : 2 * (wordsL s).length ≤ s.size + 1 := wTo_len s s.size
    go_wp2_with fail
    refine (impl_wordsOf s _ hs2).mono ?_
    rintro e w2 ⟨a1, cap1, rfl, hG, hb2⟩
    rw [eV] at hG ⊢
    have HB := below_step HB hb2
    have HV := Lib.hid eV
    clear hb2 eV
    go_wp2_with fail
    refine (spec_wordsOf s _ hs2).mono ?_
    rintro e w3 ⟨a2, cap2, rfl, hZ, hb3⟩
    rw [HV.out] at hZ ⊢
    have hG := hG.kept hb3
    have HB := below_step HB hb3
    clear hb3
    obtain ⟨N, hN⟩ : ∃ N, (wordsL s).length = N := ⟨_, rfl⟩
    have hsl := spL_length (wordsL s)
    rw [hN] at hsl hG hZ hlen ⊢
    have HSL := Lib.hid hsl
    have HNN := Lib.hid hN
    have hN1 : N ≤ 1048577 := by omega
    clear hsl hN
    go_wp2_with fail
    refine (laws_sameSpans _ _ _ _ _ _ _ HSL.out hG.ints hZ.ints hN1).mono ?_
    rintro e w4 ⟨rfl, hb4⟩
    have hG := hG.kept hb4
    have HB := below_step HB hb4
    clear hb4 hZ
    go_wp2_with fail
    refine (impl_folded s _ (by omega)).mono ?_
    rintro e w5 ⟨rfl, hb5⟩
    have hG := hG.kept hb5
    have HB := below_step HB hb5
    have hFz : (foldS s).size ≤ 1048576 := by rw [foldS_size]; exact hs2
    have eF : Hid (wordsV (foldS s) = wordsL s) := by
      show _ = _
      rw [← words_fold s]; exact if_pos (by rw [foldS_size]; omega)
    clear hb5
    go_wp2_with fail
    refine (impl_wordsOf (foldS s) _ hFz).mono ?_
    rintro e w6 ⟨a6, cap6, rfl, hZ, hb6⟩
    rw [eF.out, HNN.out] at hZ
    rw [eF.out, HNN.out]
    have hG := hG.kept hb6
    have HB := below_step HB hb6
    clear hb6
    go_wp2_with fail
    refine (laws_sameSpans _ _ _ _ _ _ _ HSL.out hG.ints hZ.ints hN1).mono ?_
    rintro e w7 ⟨rfl, hb7⟩
    have HG := Lib.hid (hG.kept hb7)
    have HB := below_step HB hb7
    clear hb7 hZ hG
    go_wp2
    go_loopw [5] (fun i wr => ∃ k : Nat, k ≤ N ∧ i = .int .i64 k ∧ Below w7.heap.size w7 wr)
      (fun i _ => N - (intOf i).toNat)
    case atStart => exact ⟨0, by omega, rfl, Below.refl _ _⟩
    case round =>
      obtain ⟨k, hk, rfl, hb⟩ := hrel
      by_cases hlt : k < N
      · have hlw : k < (wordsL s).length := by rw [HNN.out]; exact hlt
        obtain ⟨⟨x, y⟩, hx⟩ : ∃ x, (wordsL s)[k]? = some x := ⟨_, List.getElem?_eq_getElem hlw⟩
        have hmem : (x, y) ∈ wordsL s := List.mem_of_getElem? hx
        have hxy := wTo_lt s s.size (x, y) hmem
        simp only at hxy
        have hsp := spL_at (wordsL s) k hlw
        rw [List.getD_eq_getElem?_getD, hx] at hsp
        dsimp only [Option.getD] at hsp
        have hge : decide ((y : Int) ≤ (x : Int)) = false := by simp; omega
        have hgeN : decide (y ≤ x) = false := by simp; omega
        have hgeM : ¬ y ≤ x := by omega
        have k0 : (0 : Int) ≤ (k : Int) := by omega
        have k1 : (k : Int) < (N : Int) := by omega
        by_cases hk0 : k = 0
        · subst hk0
          obtain ⟨b, off, rfl, hp⟩ := (HG.out.ints.kept hb).at 0 (by rw [HSL.out]; omega)
          have e0 := hp 0 (by rw [HSL.out]; omega)
          have e1 := hp 1 (by rw [HSL.out]; omega)
          rw [show intAt (spL (wordsL s)) 0 = (x : Int) from hsp.1, Nat.add_zero] at e0
          rw [show intAt (spL (wordsL s)) 1 = (y : Int) from hsp.2] at e1
          clear hp hsp hx hmem hlw hxy
          go_wp2_with fail
          go_quiet (fail)
          go_wp2
          go_roundw
          case rel => exact ⟨0 + 1, by omega, by go_num, below_drewN hb _⟩
          case measure => simp [intOf]; omega
        · obtain ⟨q, rfl⟩ : ∃ q, k = q + 1 := ⟨k - 1, by omega⟩
          obtain ⟨⟨u, v⟩, hu⟩ : ∃ x, (wordsL s)[q]? = some x := ⟨_, List.getElem?_eq_getElem (by omega)⟩
          have hap := words_apart s q (u, v) (x, y) hu hx
          simp only at hap
          have hsq := spL_at (wordsL s) q (by omega)
          rw [List.getD_eq_getElem?_getD, hu] at hsq
          dsimp only [Option.getD] at hsq
          obtain ⟨b, off, rfl, hp⟩ := (HG.out.ints.kept hb).at (q * 2) (by rw [HSL.out]; omega)
          have e0 := hp ((q + 1) * 2) (by rw [HSL.out]; omega)
          have e1 := hp ((q + 1) * 2 + 1) (by rw [HSL.out]; omega)
          have e2 := hp (q * 2 + 1) (by rw [HSL.out]; omega)
          rw [hsp.1] at e0
          rw [hsp.2] at e1
          rw [hsq.2] at e2
          rw [← Nat.add_assoc] at e1 e2
          have hge2 : decide ((x : Int) ≤ (v : Int)) = false := by simp; omega
          have hge2N : decide (x ≤ v) = false := by simp; omega
          have hge2M : ¬ x ≤ v := by omega
          have q8 : decide ((0 : Int) < (q : Int) + 1) = true := decide_eq_true (by omega)
          have q1 : IntKind.i64.wrap ((q : Int) + 1 - 1) = (q : Int) := by rw [IntKind.wrap_i64]; omega
          have q1b : IntKind.i64.wrap (q : Int) = (q : Int) := by rw [IntKind.wrap_i64]; omega
          have q2 : (0 : Int) < (q : Int) + 1 := by omega
          have q3 : (0 : Int) ≤ (q : Int) := by omega
          have q4 : (q : Int) < (N : Int) := by omega
          have q5 : (q : Int) + 1 < (N : Int) := by omega
          have q6 : (0 : Int) ≤ (q : Int) + 1 := by omega
          have q7 : ((q : Int) + 1).toNat = q + 1 := by omega
          clear hp hsp hx hmem hlw hsq hu hap hxy
          go_wp2_with fail
          go_quiet (fail)
          go_wp2
          go_roundw
          case rel => exact ⟨q + 1 + 1, by omega, by go_num, below_drewN hb _⟩
          case measure => simp [intOf]; omega
      · obtain rfl : k = N := by omega
        have HB := HB.trans (hb.mono HB.size)
        obtain ⟨j, hj⟩ : ∃ j, len % (s.size + 1) = j := ⟨_, rfl⟩
        have hjt : j < s.size + 1 := by rw [← hj]; exact Nat.mod_lt _ (by omega)
        have sw1 : IntKind.i64.wrap ((s.size : Int) + 1) = (s.size : Int) + 1 := by rw [IntKind.wrap_i64]; omega
        have jm : (len : Int).tmod ((s.size : Int) + 1) = (j : Int) := by rw [← hj]; exact (Int.ofNat_tmod len (s.size + 1)).symm
        have jm2 : (len : Int) % ((s.size : Int) + 1) = (j : Int) := by rw [← hj]; push_cast; rfl
        have jz : ((s.size : Int) + 1 == 0) = false := by simp; omega
        have j0 : (0 : Int) ≤ (j : Int) := by omega
        have j1 : (j : Int) ≤ (s.size : Int) := by omega
        have j2 : j ≤ s.size := by omega
        have hjn := words_join (s.extract 0 j) (s.extract j s.size)
        obtain ⟨A, hA⟩ : ∃ A, s.extract 0 j = A := ⟨_, rfl⟩
        obtain ⟨C, hC⟩ : ∃ C, s.extract j s.size = C := ⟨_, rfl⟩
        have hAs : A.size = j := by rw [← hA, ByteArray.size_extract]; omega
        have hCs : C.size = s.size - j := by rw [← hC, ByteArray.size_extract]; omega
        rw [hA, hC, hAs] at hjn
        have eA : Hid (wordsV A = wordsL A) := if_pos (by omega)
        have eC : Hid (wordsV C = wordsL C) := if_pos (by omega)
        have eT : Hid (wordsV (A ++ ⟨#[32]⟩ ++ C) = wordsL A ++ shW (j + 1) (wordsL C)) := by
          show _ = _
          rw [← hjn]; exact if_pos (by rw [ByteArray.size_append, ByteArray.size_append]; show A.size + 1 + C.size ≤ 200; omega)
        have lA : 2 * (wordsL A).length ≤ A.size + 1 := wTo_len A A.size
        have lC : 2 * (wordsL C).length ≤ C.size + 1 := wTo_len C C.size
        have HAs := Lib.hid hAs; have HCs := Lib.hid hCs
        obtain ⟨nA, hnA⟩ : ∃ n, (wordsL A).length = n := ⟨_, rfl⟩
        obtain ⟨nC, hnC⟩ : ∃ n, (wordsL C).length = n := ⟨_, rfl⟩
        rw [hnA] at lA
        rw [hnC] at lC
        have HNA := Lib.hid hnA; have HNC := Lib.hid hnC
        have nA1 : nA ≤ 20 := by omega
        have nC1 : nC ≤ 20 := by omega
        have a1k : A.size ≤ 1048576 := by omega
        have c1k : C.size ≤ 1048576 := by omega
        have hwB := HB.size
        obtain ⟨B0, hB0⟩ : ∃ B0, wr.heap.size = B0 := ⟨_, rfl⟩
        have HB0 := Lib.hid hB0
        clear hj hjn hnA hnC hAs hCs hb HG lA lC hlt hB0
        go_wp2_with fail
        refine (impl_wordsOf A _ a1k).mono ?_
        rintro e w8 ⟨a8, cap8, rfl, hP, hb8⟩
        rw [eA.out, HNA.out] at hP
        rw [eA.out, HNA.out]
        have HB := below_step HB hb8
        have hb8s := hb8.size
        clear hb8
        go_wp2_with fail
        refine (impl_wordsOf C _ c1k).mono ?_
        rintro e w9 ⟨a9, cap9, rfl, hM, hb9⟩
        rw [eC.out, HNC.out] at hM
        rw [eC.out, HNC.out]
        have HP := Lib.hid (hP.kept hb9)
        have HNE : Hid (∀ q, (Value.slice a8 nA cap8).ownBlock = some q → (Value.slice a9 nC cap9).ownBlock ≠ some q) := fun q h1 h2 => by
          have := hP.turn_lt q h1
          have := (hM.2.lt q h2).1
          omega
        have HB := below_step HB hb9
        have hb9s := hb9.size
        have HM := Lib.hid (hM.mono (C := B0) (by have := HB0.out; omega))
        have hz9 : B0 ≤ w9.heap.size := by have := HB0.out; omega
        have hwB0 : w.heap.size ≤ B0 := by have := HB0.out; omega
        have HP := Lib.hid (show OwnM 30 2 w9 B0 a8 nA cap8 (spL (wordsL A)) by rw [← HB0.out]; exact HP.out)
        have cj : IntKind.i64.wrap ((j : Int) + 1) = (j : Int) + 1 := by rw [IntKind.wrap_i64]; omega
        have CT : Hid (∀ W, Calls Try.prog 11 #[.string (A ++ ⟨#[32]⟩ ++ C)] W fun e w' => ∃ a cap, e = .returned (.slice a (nA + nC) cap) ∧ OwnM 30 2 w' W.heap.size a (nA + nC) cap (spL (wordsL A ++ shW (j + 1) (wordsL C))) ∧ Below W.heap.size W w') := fun W => by
          have := impl_wordsOf (A ++ ⟨#[32]⟩ ++ C) W (by rw [ByteArray.size_append, ByteArray.size_append]; show A.size + 1 + C.size ≤ _; have := HAs.out; have := HCs.out; omega)
          rw [eT.out, List.length_append, shW_len, HNA.out, HNC.out] at this
          exact this
        have s1 : ¬ (9223372036854775807 : Nat) < A.size + 1 := by omega
        have s2 : ¬ (9223372036854775807 : Nat) < A.size + 1 + C.size := by omega
        have s3 : ¬ (9223372036854775807 : Nat) < (A ++ ⟨#[32]⟩).size + C.size := by rw [ByteArray.size_append]; show ¬ _ < A.size + 1 + _; omega
        clear hb9 hP hM hb8s hb9s hwB
        go_wp2
        go_loopw [7, 9] (fun o i wr => ∃ (m : Nat) (ab : Option Addr) (n cb : Nat), m ≤ nC ∧ i = .int .i64 m ∧ o = .slice ab n cb ∧ n = nA + m ∧ OwnM 30 2 wr B0 ab n cb (spL (wordsL A ++ shW (j + 1) ((wordsL C).take m))) ∧ OwnM 30 2 wr B0 a9 nC cap9 (spL (wordsL C)) ∧ (∀ q, (Value.slice ab n cb).ownBlock = some q → (Value.slice a9 nC cap9).ownBlock ≠ some q) ∧ Below w.heap.size w wr ∧ B0 ≤ wr.heap.size)
          (fun _ i _ => nC - (intOf i).toNat)
        case atStart => exact ⟨0, a8, nA, cap8, by omega, rfl, rfl, rfl, by simpa [shW] using HP.out, HM.out, HNE.out, HB, hz9⟩
        case round =>
          obtain ⟨m, ab, n, cb, hm, rfl, rfl, hn, hO, hM, hne, hb, hz⟩ := hrel
          by_cases hlt : m < nC
          · have hlw : m < (wordsL C).length := by rw [HNC.out]; exact hlt
            obtain ⟨⟨x, y⟩, hx⟩ : ∃ x, (wordsL C)[m]? = some x := ⟨_, List.getElem?_eq_getElem hlw⟩
            have hxy := wTo_lt C C.size (x, y) (List.mem_of_getElem? hx)
            simp only at hxy
            have hsp := spL_at (wordsL C) m hlw
            rw [List.getD_eq_getElem?_getD, hx] at hsp
            dsimp only [Option.getD] at hsp
            obtain ⟨g9, rfl, hg91, hg92⟩ := hM.head m hlt
            have e0 := hM.cell (m * 2) (by omega)
            have e1 := hM.cell (m * 2 + 1) (by omega)
            rw [hsp.1] at e0
            rw [hsp.2] at e1
            have htk := take_one hx
            have HF : Hid (spL (wordsL A ++ shW (j + 1) ((wordsL C).take (m + 1))) = spL (wordsL A ++ shW (j + 1) ((wordsL C).take m)) ++ [(x : Int) + ((j : Int) + 1), (y : Int) + ((j : Int) + 1)]) := by
              show _ = _
              rw [htk, shW_snoc, ← List.append_assoc, spL_append]
              rfl
            have HL : Hid ((spL (wordsL A ++ shW (j + 1) ((wordsL C).take (m + 1)))).length = (n + 1) * 2) := by
              show _ = _
              rw [HF.out, List.length_append, hO.len]; simp; omega
            have xw : IntKind.i64.wrap ((x : Int) + ((j : Int) + 1)) = (x : Int) + ((j : Int) + 1) := by rw [IntKind.wrap_i64]; omega
            have yw : IntKind.i64.wrap ((y : Int) + ((j : Int) + 1)) = (y : Int) + ((j : Int) + 1) := by rw [IntKind.wrap_i64]; omega
            have HO := Lib.hid hO; have HM2 := Lib.hid hM; have HNE2 := Lib.hid hne; have HNN2 := Lib.hid hn
            have n1 : n ≤ 60 := by omega
            have m0 : (0 : Int) ≤ (m : Int) := by omega
            have m1 : (m : Int) < (nC : Int) := by omega
            have hEb : ∀ q, (Value.slice ab n cb).ownBlock = some q → B0 ≤ q ∧ q < wr.heap.size := fun q hq => hO.2.lt q hq
            clear hO hM hne hsp hx htk hlw hxy HP HM HNE HB hn CT s1 s2 s3
            go_wp2_with fail
            go_region_law ((refine step_append_lies _ rfl (.tmp 84) (.tmp 102) 25 rfl B0 30 i0 (.agg #[.int .i64 0, .int .i64 0]) 2 16 Try.underlying25 hi ht0 ht1 ht2 rfl (by decide) (.slice ab n cb) n _ (by simp [Act.eval]) (HO.out.2.alloc _).drew ⟨wr.heap.size, 0, none⟩ 1 1 [.int .i64 ((x : Int) + ((j : Int) + 1)), .int .i64 ((y : Int) + ((j : Int) + 1))] (by simp [Act.eval]) rfl (fun j u h => cells_new wr _ _ j u h) (by simp [Value.oneCell']) (by decide) (by unfold maxLen; omega) (by omega) (by simp; omega) _ rfl ?_; intro gq cq wq hown' hg hat hltq))
            all_goals
              obtain ⟨a', cap', e', hO'⟩ := OwnM.shape HL.out (by rw [HF.out, List.map_append]; exact hown')
              have hgs := hg.size
              have hk2 : ∀ c, c < wr.heap.size → some c ≠ (Value.slice ab n cb).ownBlock → wq.heap[c]? = wr.heap[c]? := fun c h1 h2 => (hg.block c (by simp; omega) h2).trans (Below.heap_alloc wr (.cells #[.int .i64 ((x : Int) + ((j : Int) + 1)), .int .i64 ((y : Int) + ((j : Int) + 1))] 30) c h1)
              have hB3 : Below w.heap.size w wq := hb.trans ⟨hg.os, hg.tape, hg.output, by simp at hgs; omega, fun c h => hk2 c (by have := hb.size; omega) (fun e => by have := (hEb _ e.symm).1; omega)⟩
              have hM3 : OwnM 30 2 wq B0 (some ⟨g9, 0, none⟩) nC cap9 (spL (wordsL C)) := HM2.out.on fun q hq => hk2 q (HM2.out.turn_lt q hq) (fun e => HNE2.out q e.symm hq)
              have hne3 : ∀ q, (Value.slice (some ⟨gq, 0, none⟩) (n + 1) cq).ownBlock = some q → (Value.slice (some ⟨g9, 0, none⟩) nC cap9).ownBlock ≠ some q := fun q hq e => by
                have hqg : q = gq := by simp [Value.ownBlock] at hq; omega
                subst hqg
                rcases hat with e2 | e2
                · exact HNE2.out _ e2 e
                · have := HM2.out.turn_lt _ e
                  simp at e2; omega
              injection e' with h1 h2 h3
              subst h1 h3
              clear hown' hg hat
              go_wp2
              go_roundw
              case rel => exact ⟨m + 1, _, n + 1, _, by omega, by go_num, rfl, by have := HNN2.out; omega, hO', hM3, hne3, hB3, by simp at hgs; omega⟩
              case measure => first | (simp [intOf]; done) | (simp [intOf]; omega)
          · obtain rfl : m = nC := by omega
            rw [List.take_of_length_le (by rw [HNC.out]; exact Nat.le_refl _)] at hO
            subst hn
            have HO := Lib.hid hO
            have HL2 := Lib.hid hO.len
            have n9 : nA + m ≤ 1048577 := by omega
            clear hO hM hne HP HM HNE HB
            go_wp2_with fail
            go_region_law (first
              | (go_simp; go_at_call 11; refine (CT.out _).mono ?_; rintro e w12 ⟨a12, cap12, rfl, hR, hb12d⟩; have hb12 := below_undrew hb12d; have hO12 := HO.out.kept hb12)
              | (go_simp; go_at_call 12; refine (laws_sameSpans _ _ _ _ _ _ _ HL2.out hO12.ints hR.ints n9).mono ?_; rintro e w13 ⟨rfl, hb13⟩))
            all_goals
              have HBF := (hb.trans (hb12.mono hb.size)).trans (hb13.mono (by have := hb.size; have := hb12.size; omega))
              go_wp2
              go_ret
              exact ⟨rfl, HBF⟩
  · have hbig : decide (1048576 < (len : Int)) = true := by simp; omega
    go_enter Try.func3, Try.ntmps3
    go_wp2_with (go_at_call 9; go_in)
    go_ret
    exact ⟨rfl, Below.refl _ _⟩
end Go.Proofs.Ytgikjopmijomgab

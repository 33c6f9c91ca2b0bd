/-
  Chapter 16: the words near a text, in the program: NearBy.
-/
import Derived.Test.YtpniiaemgobaiabWdOk
import Derived.Test.YtpniiaemgobaiabNearSp
import Derived.Test.YtpniiaemgobaiabSortStr
import Derived.Test.YtpniiaemgobaiabMTree
import Derived.Test.YtpniiaemgobaiabClone
import Derived.Test.YtpniiaemgobaiabL16P
namespace Go.Proofs.Ytpniiaemgobaiab
open Go.RowKit
set_option linter.unusedVariables false
set_option maxRecDepth 100000
theorem nearOkB_eq (t : Nat → ByteArray) (n : Nat) (s : ByteArray) (k q : Int) : nearOkB t n s k q = (wordsOkB t n && nearArgB s k && inB q 1 10) := by
  unfold nearOkB nearArgB
  cases wordsOkB t n <;> cases decide (s.size ≤ 20) <;> cases inB k 0 20 <;> rfl
theorem strs_one_text (L : List (List UInt8)) (y : ByteArray) : strs (L ++ [bl y]) = strs L ++ [Value.string y] := by
  rw [strs_append]; simp [strs, strV, txt_bl]
set_option maxHeartbeats 8000000 in
theorem impl_nearBy (t : Nat → ByteArray) (n : Nat) (a : Option Addr) (cap : Nat) (s : ByteArray) (k q : Int) (w : World) (h : Vals w a (strL t n)) (hlen : n ≤ 1048577) (hts : ∀ i, i < n → (t i).size ≤ 1048576) (hs : s.size ≤ 1048576) :
    Calls Try.prog 23 #[.slice a n cap, .string s, .int .i64 k, .int .i64 q] w fun e w' => ∃ a' cap', e = .returned (.tuple #[.slice a' (nearV t n s k q).length cap', .bool (nearOkB t n s k q)]) ∧ OwnV 9 1 w' w.heap.size a' (nearV t n s k q).length cap' (strs (nearV t n s k q)) ∧ Below w.heap.size w w' := by
  obtain ⟨i0, hi, ht0, ht1, ht2⟩ := info_parts str_info
  have HN := Lib.hid (strL_length t n)
  have HT := Lib.hid (show ∀ i, i < n → (t i).size ≤ 1048577 from fun i hi => by have := hts i hi; omega)
  have HTS := Lib.hid hts
  have HV := Lib.hid h
  clear hts h
  cases hok : nearOkB t n s k q
  · rw [nearV_no hok]
    have FIN : ∀ W : World, Below w.heap.size w W → OwnV 9 1 W w.heap.size none 0 0 (strs []) ∧ Below w.heap.size w W := fun W hW => ⟨OwnV.nil _ _, hW⟩
    have FIN := Lib.hid FIN
    rw [nearOkB_eq] at hok
    cases h1 : wordsOkB t n
    · have H1 := Lib.hid h1
      clear hok h1
      go_enter Try.func23, Try.ntmps23
      go_wp2_with (go_at_call 42; refine (impl_wordsOk t n a cap _ HV.out hlen HT.out).mono ?_; rintro e w1 ⟨rfl, hb1⟩; rw [H1.out])
      go_ret2
      exact ⟨none, 0, rfl, FIN.out _ hb1⟩
    · cases h2 : nearArgB s k
      · have H1 := Lib.hid h1; have H2 := Lib.hid h2
        clear hok h1 h2
        go_enter Try.func23, Try.ntmps23
        go_wp2_with (first | (go_at_call 42; refine (impl_wordsOk t n a cap _ HV.out hlen HT.out).mono ?_; rintro e w1 ⟨rfl, hb1⟩; rw [H1.out]) | (go_at_call 56; refine (impl_nearOk _ _ _ hs).mono ?_; rintro r w2 ⟨rfl, rfl⟩; rw [H2.out]))
        go_ret2
        exact ⟨none, 0, rfl, FIN.out _ hb1⟩
      · have h4 : inB q 1 10 = false := by rw [h1, h2] at hok; simpa using hok
        have H1 := Lib.hid h1; have H2 := Lib.hid h2; have H4 := Lib.hid h4
        clear hok h1 h2 h4
        go_enter Try.func23, Try.ntmps23
        go_wp2_with (first | (go_at_call 42; refine (impl_wordsOk t n a cap _ HV.out hlen HT.out).mono ?_; rintro e w1 ⟨rfl, hb1⟩; rw [H1.out]) | (go_at_call 56; refine (impl_nearOk _ _ _ hs).mono ?_; rintro r w2 ⟨rfl, rfl⟩; rw [H2.out]) | (go_at_call 62; refine (impl_gramLengthOk _ _).mono ?_; rintro r w2 ⟨rfl, rfl⟩; rw [H4.out]))
        go_ret2
        exact ⟨none, 0, rfl, FIN.out _ hb1⟩
  · rw [nearV_yes hok]
    rw [nearOkB_eq] at hok
    simp only [Bool.and_eq_true] at hok
    obtain ⟨⟨h1, h2⟩, h4⟩ := hok
    obtain ⟨hw1, hw2⟩ := wordsOkB_iff.1 h1
    have h2b : s.size ≤ 20 ∧ 0 ≤ k ∧ k ≤ 20 := by
      unfold nearArgB at h2
      simp only [Bool.and_eq_true, decide_eq_true_eq] at h2
      exact ⟨h2.1, nearIn.1 h2.2⟩
    obtain ⟨z1, z2, z3⟩ := h2b
    obtain ⟨z4, z5⟩ := nearIn.1 h4
    obtain ⟨qn, rfl⟩ : ∃ qn : Nat, q = (qn : Int) := ⟨q.toNat, by omega⟩
    have HW := Lib.hid hw1
    have H1 := Lib.hid h1; have H2 := Lib.hid h2; have H4 := Lib.hid h4
    clear h1 h2 h4 hw1
    go_enter Try.func23, Try.ntmps23
    go_wp2_with (first | (go_at_call 42; refine (impl_wordsOk t n a cap _ HV.out hlen HT.out).mono ?_; rintro e w1 ⟨rfl, hb1⟩; rw [H1.out]; have HB1 := Lib.hid hb1; clear hb1) | (go_at_call 56; refine (impl_nearOk _ _ _ hs).mono ?_; rintro r w2 ⟨rfl, rfl⟩; rw [H2.out]) | (go_at_call 62; refine (impl_gramLengthOk _ _).mono ?_; rintro r w2 ⟨rfl, rfl⟩; rw [H4.out]))
    go_loopw [10, 29] (fun o i wr => ∃ (m cp ln : Nat) (a' : Option Addr) (L : List (List UInt8)), m ≤ n ∧ i = .int .i64 (m : Int) ∧ foundTo t s k m = L ∧ L.length = ln ∧ o = .slice a' ln cp ∧ OwnV 9 1 wr w.heap.size a' ln cp (strs L) ∧ Below w.heap.size w wr)
      (fun _ i _ => n - (intOf i).toNat)
    case atStart => exact ⟨0, 0, 0, none, [], by omega, rfl, rfl, rfl, rfl, OwnV.nil _ _, HB1.out⟩
    case round =>
      obtain ⟨m, cp, ln, a', L, hm, rfl, hL, hln, rfl, hO, hb⟩ := hrel
      by_cases hlt : m < n
      · obtain ⟨b, off, rfl, hp⟩ := (HV.out.kept hb).at m (by rw [HN.out]; exact hlt)
        have c0 := hp m (by rw [HN.out]; exact hlt)
        rw [strL_at t n m hlt] at c0
        have hsz := HTS.out m hlt
        have hszw := HW.out m hlt
        have hll : ln ≤ 200 := by have := foundTo_len t s k m; rw [hL] at this; omega
        have hst : foundTo t s k (m + 1) = if distI (t m) s false ≤ k then foundTo t s k m ++ [bl (t m)] else foundTo t s k m := rfl
        rw [hL] at hst
        obtain ⟨y, hy⟩ : ∃ y, t m = y := ⟨_, rfl⟩
        rw [hy] at c0 hst hsz hszw
        have hmay := near_may (n := qn) hszw z1 (by omega) (by omega) z2 z3
        obtain ⟨d, hd⟩ : ∃ d, distI y s false = d := ⟨_, rfl⟩
        rw [hd] at hst hmay
        obtain ⟨mb, hmb⟩ : ∃ mb, mayB y s k (qn : Int) = mb := ⟨_, rfl⟩
        rw [hmb] at hmay
        have HD := Lib.hid hd
        have HMB := Lib.hid hmb
        have HO := Lib.hid hO
        have HB := Lib.hid hb
        have HLN := Lib.hid hln
        clear hp hy hd hO hb hL hln hmb hszw
        by_cases hdk : d ≤ k
        · rw [if_pos hdk] at hst
          have HS := Lib.hid hst
          have hmt := hmay hdk
          subst hmt
          clear hst hmay
          go_wp2_with (first
            | (go_at_call 25; refine (impl_mayBe y s k (qn : Int) _ hsz hs).mono ?_; rintro e w2 ⟨rfl, hb2⟩; rw [HMB.out]; have HO2 := Lib.hid (HO.out.kept hb2); have HB2 := Lib.hid (HB.out.trans (hb2.mono HB.out.size)); clear hb2)
            | (go_at_call 17; refine (impl_distance y s false _ hsz hs).mono ?_; rintro e w3 ⟨rfl, hb3⟩; rw [HD.out]; have HO3 := Lib.hid (HO2.out.kept hb3); have HB3 := Lib.hid (HB2.out.trans (hb3.mono HB2.out.size)); clear hb3)
            | (go_at_call 44; refine (str_clone y _ hsz).mono ?_; rintro e w4 ⟨rfl, hb4⟩; have HO4 := Lib.hid (HO3.out.kept hb4); have HB4 := Lib.hid (HB3.out.trans (hb4.mono HB3.out.size)); clear hb4; have hB5 : Below w4.heap.size w4 (w4.alloc (.cells #[Value.string y] 9)) := (Below.refl _ _).alloc (Nat.le_refl _) _; have HK5 := Lib.hid (HO4.out.kept hB5); have HC5 := Lib.hid (cells_new w4 #[Value.string y] 9); have HZ5 := Lib.hid HB4.out.size; have HL5 := Lib.hid (show (strs L ++ [Value.string y]).length = (ln + 1) * 1 by rw [List.length_append, strs_length, HLN.out]; simp); clear hB5)
            | (at_builtin; refine wpList_append_own _ rfl _ _ 24 rfl w.heap.size 9 i0 (.string ⟨#[]⟩) 1 16 Try.underlying24 hi ht0 ht1 ht2 rfl (by decide) _ _ _ rfl HK5.out.2 ⟨w4.heap.size, 0, none⟩ 1 1 [Value.string y] rfl rfl HC5.out (by simp [Value.oneCell']) (by unfold maxLen; omega) (by omega) (by have := HZ5.out; simp; omega) ?_; intro v6 w6 hown6 hg6 _; obtain ⟨a6, cap6, rfl, hO6⟩ := OwnV.shape HL5.out (show w6.ownsRow w.heap.size 9 1 v6 (ln + 1) (strs L ++ [Value.string y]) by exact hown6); have HO6 := Lib.hid hO6; have HB6 := Lib.hid (HB4.out.trans (((Below.refl _ w4).alloc HZ5.out _).trans (HK5.out.turn (by have := HZ5.out; simp; omega) hg6))); clear hown6 hg6 hO6))
          go_roundw
          case rel => exact ⟨m + 1, cap6, ln + 1, a6, _, by omega, by go_num, HS.out, by rw [List.length_append, HLN.out]; rfl, rfl, by rw [strs_one_text]; exact HO6.out, HB6.out⟩
          case measure => simp [intOf]; omega
        · rw [if_neg hdk] at hst
          have HS := Lib.hid hst
          clear hst hmay
          cases mb
          · go_wp2_with (first
              | (go_at_call 25; refine (impl_mayBe y s k (qn : Int) _ hsz hs).mono ?_; rintro e w2 ⟨rfl, hb2⟩; rw [HMB.out]; have HO2 := Lib.hid (HO.out.kept hb2); have HB2 := Lib.hid (HB.out.trans (hb2.mono HB.out.size)); clear hb2))
            go_roundw
            case rel => exact ⟨m + 1, cp, ln, a', L, by omega, by go_num, HS.out, HLN.out, rfl, HO2.out, HB2.out⟩
            case measure => simp [intOf]; omega
          · go_wp2_with (first
              | (go_at_call 25; refine (impl_mayBe y s k (qn : Int) _ hsz hs).mono ?_; rintro e w2 ⟨rfl, hb2⟩; rw [HMB.out]; have HO2 := Lib.hid (HO.out.kept hb2); have HB2 := Lib.hid (HB.out.trans (hb2.mono HB.out.size)); clear hb2)
              | (go_at_call 17; refine (impl_distance y s false _ hsz hs).mono ?_; rintro e w3 ⟨rfl, hb3⟩; rw [HD.out]; have HO3 := Lib.hid (HO2.out.kept hb3); have HB3 := Lib.hid (HB2.out.trans (hb3.mono HB2.out.size)); clear hb3))
            go_roundw
            case rel => exact ⟨m + 1, cp, ln, a', L, by omega, by go_num, HS.out, HLN.out, rfl, HO3.out, HB3.out⟩
            case measure => simp [intOf]; omega
      · obtain rfl : m = n := by omega
        have hll : ln ≤ 200 := by have := foundTo_len t s k m; rw [hL] at this; omega
        have hcn := compact_near t s k m
        rw [hL] at hcn
        obtain ⟨K, hK⟩ : ∃ K, L.mergeSort (fun x y => decide (x ≤ y)) = K := ⟨_, rfl⟩
        have hKl : K.length = ln := by rw [← hK, List.length_mergeSort, hln]
        rw [hK] at hcn
        have HO := Lib.hid hO
        have HB := Lib.hid hb
        have HLN := Lib.hid hln
        have HCN := Lib.hid hcn
        have HK := Lib.hid hK
        have HKL := Lib.hid hKl
        clear hO hb hln hL hcn hK hKl
        go_wp2_with (first
          | (go_at_call 58; refine (sl_sortStrs L a' ln cp w.heap.size _ HLN.out HO.out (by omega)).mono ?_; rintro e w2 ⟨rfl, hO2, hg2⟩; rw [HK.out] at hO2; have HO2 := Lib.hid hO2; have HB2 := Lib.hid (HB.out.trans (HO.out.turn HB.out.size hg2)); clear hO2 hg2)
          | (go_at_call 63; refine (sl_compactStrs K a' ln cp w.heap.size _ HKL.out HO2.out (by omega)).mono ?_; rintro e w3 ⟨rfl, hO3, hg3⟩; rw [HCN.out] at hO3; rw [HCN.out]; have HO3 := Lib.hid hO3; have HB3 := Lib.hid (HB2.out.trans (HO2.out.turn HB2.out.size hg3)); clear hO3 hg3))
        go_ret2
        exact ⟨a', cp, rfl, HO3.out, HB3.out⟩
end Go.Proofs.Ytpniiaemgobaiab

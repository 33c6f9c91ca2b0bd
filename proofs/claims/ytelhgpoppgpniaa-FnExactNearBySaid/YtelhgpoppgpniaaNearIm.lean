/-
  Chapter 16: the words near a text, in the program: NearBy.
-/
import Derived.Test.YtelhgpoppgpniaaNearSp
import Derived.Test.YtelhgpoppgpniaaSortStr
import Derived.Test.YtelhgpoppgpniaaL3Dist
import Derived.Test.YtelhgpoppgpniaaClone
import Derived.Test.YtelhgpoppgpniaaL16P
namespace Go.Proofs.Ytelhgpoppgpniaa
open Go.RowKit
set_option linter.unusedVariables false
set_option maxRecDepth 100000
theorem impl_longWord (s : ByteArray) (w : World) (hs : s.size ≤ 1048577) :
    Calls Try.prog 94 #[.string s] w fun e w' => e = .returned (.bool (decide ((20 : Int) < (s.size : Int)))) ∧ w = w' := by
  go_enter Try.func94, Try.ntmps94
  go_wp2
  go_ret
  exact ⟨rfl, rfl⟩
set_option maxHeartbeats 2000000 in
theorem sl_longWord (t : Nat → ByteArray) (n : Nat) (a : Option Addr) (cap : Nat) (w : World) (h : Vals w a (strL t n)) (hlen : n ≤ 1048577) (hts : ∀ i, i < n → (t i).size ≤ 1048577) :
    Calls Try.prog 102 #[.slice a n cap, .func (.func 94) #[] #[]] w fun e w' => ∃ r : Int, e = .returned (.int .i64 r) ∧ ((r = -1 ∧ ∀ i, i < n → (t i).size ≤ 20) ∨ (0 ≤ r ∧ ¬ ∀ i, i < n → (t i).size ≤ 20)) ∧ Below w.heap.size w w' := by
  have HN := Lib.hid (strL_length t n)
  go_enter Try.func102, Try.ntmps102
  go_wp2
  go_loopw [8] (fun i wr => ∃ k : Nat, k ≤ n ∧ i = .int .i64 k ∧ (∀ j, j < k → (t j).size ≤ 20) ∧ Below w.heap.size w wr)
    (fun i _ => n - (intOf i).toNat)
  case atStart => exact ⟨0, by omega, rfl, fun i hi => by omega, Below.refl _ _⟩
  case round =>
    obtain ⟨k, hk, rfl, hall, hb⟩ := hrel
    by_cases hlt : k < n
    · obtain ⟨b, off, rfl, hp⟩ := (h.kept hb).at k (by rw [HN.out]; omega)
      have c0 := hp k (by rw [HN.out]; omega)
      rw [strL_at t n k hlt] at c0
      have hsz := hts k hlt
      by_cases hle : (t k).size ≤ 20
      · have hall2 : ∀ j, j < k + 1 → (t j).size ≤ 20 := fun j hj => by
          by_cases e : j = k
          · subst e; omega
          · exact hall j (by omega)
        have HA := Lib.hid hall2
        have HD := Lib.hid (show decide ((20 : Int) < ((t k).size : Int)) = false from decide_eq_false (by omega))
        clear hall hall2 h hp hts
        generalize t k = p at *
        go_wp2_with (go_at_call 94; refine (impl_longWord p _ hsz).mono ?_; rintro e w1 ⟨rfl, rfl⟩; rw [HD.out])
        go_roundw
        case rel => exact ⟨k + 1, by omega, by go_num, HA.out, hb⟩
        case measure => simp [intOf]; omega
      · have HF : Hid (¬ ∀ i, i < n → (t i).size ≤ 20) := Lib.hid (fun h2 => hle (h2 k hlt))
        have HD := Lib.hid (show decide ((20 : Int) < ((t k).size : Int)) = true from decide_eq_true (by omega))
        clear hall h hp hts
        generalize t k = p at c0 hsz HD
        clear hle
        go_wp2_with (go_at_call 94; refine (impl_longWord p _ hsz).mono ?_; rintro e w1 ⟨rfl, rfl⟩; rw [HD.out])
        go_ret
        exact ⟨k, rfl, .inr ⟨by omega, HF.out⟩, hb⟩
    · obtain rfl : k = n := by omega
      have HA := Lib.hid hall
      clear hall hts
      go_wp2
      go_ret
      exact ⟨-1, rfl, .inl ⟨rfl, HA.out⟩, hb⟩
set_option maxHeartbeats 1000000 in
theorem sl_anyLong (t : Nat → ByteArray) (n : Nat) (a : Option Addr) (cap : Nat) (w : World) (h : Vals w a (strL t n)) (hlen : n ≤ 1048577) (hts : ∀ i, i < n → (t i).size ≤ 1048577) :
    Calls Try.prog 93 #[.slice a n cap, .func (.func 94) #[] #[]] w fun e w' => ∃ c : Bool, e = .returned (.bool c) ∧ (c = false ↔ ∀ i, i < n → (t i).size ≤ 20) ∧ Below w.heap.size w w' := by
  go_enter Try.func93, Try.ntmps93
  go_wp2_with (go_at_call 102; refine (sl_longWord t n a cap _ h hlen hts).mono ?_; rintro e w1 ⟨r, rfl, hr, hb1⟩)
  go_ret
  rcases hr with ⟨rfl, hr⟩ | ⟨h0, hr⟩
  · exact ⟨false, rfl, ⟨fun _ => hr, fun _ => rfl⟩, hb1⟩
  · refine ⟨true, ?_, ⟨fun h => (by cases h), fun h => absurd h hr⟩, hb1⟩
    show Ending.returned (Value.bool (decide ((0 : Int) ≤ r))) = _
    rw [decide_eq_true h0]
set_option maxHeartbeats 1000000 in
theorem impl_wordsOk (t : Nat → ByteArray) (n : Nat) (a : Option Addr) (cap : Nat) (w : World) (h : Vals w a (strL t n)) (hlen : n ≤ 1048577) (hts : ∀ i, i < n → (t i).size ≤ 1048577) :
    Calls Try.prog 59 #[.slice a n cap] w fun e w' => e = .returned (.bool (wordsOkB t n)) ∧ Below w.heap.size w w' := by
  by_cases h30 : n ≤ 30
  · go_enter Try.func59, Try.ntmps59
    go_wp2_with (go_at_call 93; refine (sl_anyLong t n a cap _ h hlen hts).mono ?_; rintro e w1 ⟨c, rfl, hc, hb1⟩; have HC := Lib.hid hc; clear hc)
    go_ret
    refine ⟨?_, hb1⟩
    show Ending.returned (Value.bool (!c)) = _
    cases c
    · rw [wordsOkB_iff.2 ⟨HC.out.1 rfl, h30⟩]; rfl
    · rw [show wordsOkB t n = false from decide_eq_false fun h2 => Bool.noConfusion (HC.out.2 h2.1)]; rfl
  · have HF := Lib.hid (show wordsOkB t n = false from decide_eq_false fun h2 => h30 h2.2)
    clear hts
    go_enter Try.func59, Try.ntmps59
    go_wp2
    go_ret
    exact ⟨by rw [HF.out]; rfl, Below.refl _ _⟩
def nearArgB (s : ByteArray) (k : Int) : Bool := decide (s.size ≤ 20) && inB k 0 20
theorem impl_nearOk (s : ByteArray) (k : Int) (w : World) (hs : s.size ≤ 1048576) :
    Calls Try.prog 69 #[.string s, .int .i64 k] w fun e w' => e = .returned (.bool (nearArgB s k)) ∧ w = w' := by
  by_cases h1 : s.size ≤ 20
  · by_cases h2 : 0 ≤ k
    · by_cases h3 : k ≤ 20
      · have H := Lib.hid (show nearArgB s k = true by unfold nearArgB; rw [decide_eq_true h1, inB_yes ⟨h2, h3⟩]; rfl)
        go_enter Try.func69, Try.ntmps69
        go_wp2
        go_ret
        exact ⟨by rw [H.out]; rfl, rfl⟩
      · have H := Lib.hid (show nearArgB s k = false by unfold nearArgB; rw [inB_no (n := k) (lo := 0) (hi := 20) (by omega)]; simp)
        go_enter Try.func69, Try.ntmps69
        go_wp2
        go_ret
        exact ⟨by rw [H.out]; rfl, rfl⟩
    · have H := Lib.hid (show nearArgB s k = false by unfold nearArgB; rw [inB_no (n := k) (lo := 0) (hi := 20) (by omega)]; simp)
      go_enter Try.func69, Try.ntmps69
      go_wp2
      go_ret
      exact ⟨by rw [H.out]; rfl, rfl⟩
  · have H := Lib.hid (show nearArgB s k = false by unfold nearArgB; rw [decide_eq_false h1]; rfl)
    go_enter Try.func69, Try.ntmps69
    go_wp2
    go_ret
    exact ⟨by rw [H.out]; rfl, rfl⟩
theorem nearIn {n lo hi : Int} : inB n lo hi = true ↔ lo ≤ n ∧ n ≤ hi := by simp [inB]
theorem nearOkB_eq (t : Nat → ByteArray) (n : Nat) (s : ByteArray) (k q : Int) : nearOkB t n s k q = (wordsOkB t n && nearArgB s k && inB q 1 10) := by
  unfold nearOkB nearArgB
  cases wordsOkB t n <;> cases decide (s.size ≤ 20) <;> cases inB k 0 20 <;> rfl
theorem strs_one_text (L : List (List UInt8)) (y : ByteArray) : strs (L ++ [bl y]) = strs L ++ [Value.string y] := by
  rw [strs_append]; simp [strs, strV, txt_bl]
set_option maxHeartbeats 8000000 in
theorem impl_nearBy (t : Nat → ByteArray) (n : Nat) (a : Option Addr) (cap : Nat) (s : ByteArray) (k q : Int) (w : World) (h : Vals w a (strL t n)) (hlen : n ≤ 1048577) (hts : ∀ i, i < n → (t i).size ≤ 1048576) (hs : s.size ≤ 1048576) :
    Calls Try.prog 44 #[.slice a n cap, .string s, .int .i64 k, .int .i64 q] w fun e w' => ∃ a' cap', e = .returned (.tuple #[.slice a' (nearV t n s k q).length cap', .bool (nearOkB t n s k q)]) ∧ OwnV 9 1 w' w.heap.size a' (nearV t n s k q).length cap' (strs (nearV t n s k q)) ∧ Below w.heap.size w w' := by
  obtain ⟨i0, hi, ht0, ht1, ht2⟩ := info_parts str_info
  have HN := Lib.hid (strL_length t n)
  have HT := Lib.hid (show ∀ i, i < n → (t i).size ≤ 1048577 from fun i hi => by have := hts i hi; omega)
  have HTS := Lib.hid hts
  have HV := Lib.hid h
  clear hts h
  cases hok : nearOkB t n s k q
  · rw [nearV_no hok]
    have FIN : ∀ W : World, Below w.heap.size w W → OwnV 9 1 W w.heap.size none 0 0 (strs []) ∧ Below w.heap.size w W := fun W hW => ⟨OwnV.nil _ _, hW⟩
    have FIN := Lib.hid FIN
    rw [nearOkB_eq] at hok
    cases h1 : wordsOkB t n
    · have H1 := Lib.hid h1
      clear hok h1
      go_enter Try.func44, Try.ntmps44
      go_wp2_with (go_at_call 59; refine (impl_wordsOk t n a cap _ HV.out hlen HT.out).mono ?_; rintro e w1 ⟨rfl, hb1⟩; rw [H1.out])
      go_ret2
      exact ⟨none, 0, rfl, FIN.out _ hb1⟩
    · cases h2 : nearArgB s k
      · have H1 := Lib.hid h1; have H2 := Lib.hid h2
        clear hok h1 h2
        go_enter Try.func44, Try.ntmps44
        go_wp2_with (first | (go_at_call 59; refine (impl_wordsOk t n a cap _ HV.out hlen HT.out).mono ?_; rintro e w1 ⟨rfl, hb1⟩; rw [H1.out]) | (go_at_call 69; refine (impl_nearOk _ _ _ hs).mono ?_; rintro r w2 ⟨rfl, rfl⟩; rw [H2.out]))
        go_ret2
        exact ⟨none, 0, rfl, FIN.out _ hb1⟩
      · have h4 : inB q 1 10 = false := by rw [h1, h2] at hok; simpa using hok
        have H1 := Lib.hid h1; have H2 := Lib.hid h2; have H4 := Lib.hid h4
        clear hok h1 h2 h4
        go_enter Try.func44, Try.ntmps44
        go_wp2_with (first | (go_at_call 59; refine (impl_wordsOk t n a cap _ HV.out hlen HT.out).mono ?_; rintro e w1 ⟨rfl, hb1⟩; rw [H1.out]) | (go_at_call 69; refine (impl_nearOk _ _ _ hs).mono ?_; rintro r w2 ⟨rfl, rfl⟩; rw [H2.out]) | (go_at_call 80; refine (impl_gramLengthOk _ _).mono ?_; rintro r w2 ⟨rfl, rfl⟩; rw [H4.out]))
        go_ret2
        exact ⟨none, 0, rfl, FIN.out _ hb1⟩
  · rw [nearV_yes hok]
    rw [nearOkB_eq] at hok
    simp only [Bool.and_eq_true] at hok
    obtain ⟨⟨h1, h2⟩, h4⟩ := hok
    obtain ⟨hw1, hw2⟩ := wordsOkB_iff.1 h1
    have h2b : s.size ≤ 20 ∧ 0 ≤ k ∧ k ≤ 20 := by
      unfold nearArgB at h2
      simp only [Bool.and_eq_true, decide_eq_true_eq] at h2
      exact ⟨h2.1, nearIn.1 h2.2⟩
    obtain ⟨z1, z2, z3⟩ := h2b
    obtain ⟨z4, z5⟩ := nearIn.1 h4
    obtain ⟨qn, rfl⟩ : ∃ qn : Nat, q = (qn : Int) := ⟨q.toNat, by omega⟩
    have HW := Lib.hid hw1
    have H1 := Lib.hid h1; have H2 := Lib.hid h2; have H4 := Lib.hid h4
    clear h1 h2 h4 hw1
    go_enter Try.func44, Try.ntmps44
    go_wp2_with (first | (go_at_call 59; refine (impl_wordsOk t n a cap _ HV.out hlen HT.out).mono ?_; rintro e w1 ⟨rfl, hb1⟩; rw [H1.out]; have HB1 := Lib.hid hb1; clear hb1) | (go_at_call 69; refine (impl_nearOk _ _ _ hs).mono ?_; rintro r w2 ⟨rfl, rfl⟩; rw [H2.out]) | (go_at_call 80; refine (impl_gramLengthOk _ _).mono ?_; rintro r w2 ⟨rfl, rfl⟩; rw [H4.out]))
    go_loopw [10, 29] (fun o i wr => ∃ (m cp ln : Nat) (a' : Option Addr) (L : List (List UInt8)), m ≤ n ∧ i = .int .i64 (m : Int) ∧ foundTo t s k m = L ∧ L.length = ln ∧ o = .slice a' ln cp ∧ OwnV 9 1 wr w.heap.size a' ln cp (strs L) ∧ Below w.heap.size w wr)
      (fun _ i _ => n - (intOf i).toNat)
    case atStart => exact ⟨0, 0, 0, none, [], by omega, rfl, rfl, rfl, rfl, OwnV.nil _ _, HB1.out⟩
    case round =>
      obtain ⟨m, cp, ln, a', L, hm, rfl, hL, hln, rfl, hO, hb⟩ := hrel
      by_cases hlt : m < n
      · obtain ⟨b, off, rfl, hp⟩ := (HV.out.kept hb).at m (by rw [HN.out]; exact hlt)
        have c0 := hp m (by rw [HN.out]; exact hlt)
        rw [strL_at t n m hlt] at c0
        have hsz := HTS.out m hlt
        have hszw := HW.out m hlt
        have hll : ln ≤ 200 := by have := foundTo_len t s k m; rw [hL] at this; omega
        have hst : foundTo t s k (m + 1) = if distI (t m) s false ≤ k then foundTo t s k m ++ [bl (t m)] else foundTo t s k m := rfl
        rw [hL] at hst
        obtain ⟨y, hy⟩ : ∃ y, t m = y := ⟨_, rfl⟩
        rw [hy] at c0 hst hsz hszw
        have hmay := near_may (n := qn) hszw z1 (by omega) (by omega) z2 z3
        obtain ⟨d, hd⟩ : ∃ d, distI y s false = d := ⟨_, rfl⟩
        rw [hd] at hst hmay
        obtain ⟨mb, hmb⟩ : ∃ mb, mayB y s k (qn : Int) = mb := ⟨_, rfl⟩
        rw [hmb] at hmay
        have HD := Lib.hid hd
        have HMB := Lib.hid hmb
        have HO := Lib.hid hO
        have HB := Lib.hid hb
        have HLN := Lib.hid hln
        clear hp hy hd hO hb hL hln hmb hszw
        by_cases hdk : d ≤ k
        · rw [if_pos hdk] at hst
          have HS := Lib.hid hst
          have hmt := hmay hdk
          subst hmt
          clear hst hmay
          go_wp2_with (first
            | (go_at_call 42; refine (impl_mayBe y s k (qn : Int) _ hsz hs).mono ?_; rintro e w2 ⟨rfl, hb2⟩; rw [HMB.out]; have HO2 := Lib.hid (HO.out.kept hb2); have HB2 := Lib.hid (HB.out.trans (hb2.mono HB.out.size)); clear hb2)
            | (go_at_call 81; refine (impl_distance y s false _ hsz hs).mono ?_; rintro e w3 ⟨rfl, hb3⟩; rw [HD.out]; have HO3 := Lib.hid (HO2.out.kept hb3); have HB3 := Lib.hid (HB2.out.trans (hb3.mono HB2.out.size)); clear hb3)
            | (go_at_call 61; refine (str_clone y _ hsz).mono ?_; rintro e w4 ⟨rfl, hb4⟩; have HO4 := Lib.hid (HO3.out.kept hb4); have HB4 := Lib.hid (HB3.out.trans (hb4.mono HB3.out.size)); clear hb4; have hB5 : Below w4.heap.size w4 (w4.alloc (.cells #[Value.string y] 9)) := (Below.refl _ _).alloc (Nat.le_refl _) _; have HK5 := Lib.hid (HO4.out.kept hB5); have HC5 := Lib.hid (cells_new w4 #[Value.string y] 9); have HZ5 := Lib.hid HB4.out.size; have HL5 := Lib.hid (show (strs L ++ [Value.string y]).length = (ln + 1) * 1 by rw [List.length_append, strs_length, HLN.out]; simp); clear hB5)
            | (at_builtin; refine wpList_append_own _ rfl _ _ 34 rfl w.heap.size 9 i0 (.string ⟨#[]⟩) 1 16 Try.underlying34 hi ht0 ht1 ht2 rfl (by decide) _ _ _ rfl HK5.out.2 ⟨w4.heap.size, 0, none⟩ 1 1 [Value.string y] rfl rfl HC5.out (by simp [Value.oneCell']) (by unfold maxLen; omega) (by omega) (by have := HZ5.out; simp; omega) ?_; intro v6 w6 hown6 hg6 _; obtain ⟨a6, cap6, rfl, hO6⟩ := OwnV.shape HL5.out (show w6.ownsRow w.heap.size 9 1 v6 (ln + 1) (strs L ++ [Value.string y]) by exact hown6); have HO6 := Lib.hid hO6; have HB6 := Lib.hid (HB4.out.trans (((Below.refl _ w4).alloc HZ5.out _).trans (HK5.out.turn (by have := HZ5.out; simp; omega) hg6))); clear hown6 hg6 hO6))
          go_roundw
          case rel => exact ⟨m + 1, cap6, ln + 1, a6, _, by omega, by go_num, HS.out, by rw [List.length_append, HLN.out]; rfl, rfl, by rw [strs_one_text]; exact HO6.out, HB6.out⟩
          case measure => simp [intOf]; omega
        · rw [if_neg hdk] at hst
          have HS := Lib.hid hst
          clear hst hmay
          cases mb
          · go_wp2_with (first
              | (go_at_call 42; refine (impl_mayBe y s k (qn : Int) _ hsz hs).mono ?_; rintro e w2 ⟨rfl, hb2⟩; rw [HMB.out]; have HO2 := Lib.hid (HO.out.kept hb2); have HB2 := Lib.hid (HB.out.trans (hb2.mono HB.out.size)); clear hb2))
            go_roundw
            case rel => exact ⟨m + 1, cp, ln, a', L, by omega, by go_num, HS.out, HLN.out, rfl, HO2.out, HB2.out⟩
            case measure => simp [intOf]; omega
          · go_wp2_with (first
              | (go_at_call 42; refine (impl_mayBe y s k (qn : Int) _ hsz hs).mono ?_; rintro e w2 ⟨rfl, hb2⟩; rw [HMB.out]; have HO2 := Lib.hid (HO.out.kept hb2); have HB2 := Lib.hid (HB.out.trans (hb2.mono HB.out.size)); clear hb2)
              | (go_at_call 81; refine (impl_distance y s false _ hsz hs).mono ?_; rintro e w3 ⟨rfl, hb3⟩; rw [HD.out]; have HO3 := Lib.hid (HO2.out.kept hb3); have HB3 := Lib.hid (HB2.out.trans (hb3.mono HB2.out.size)); clear hb3))
            go_roundw
            case rel => exact ⟨m + 1, cp, ln, a', L, by omega, by go_num, HS.out, HLN.out, rfl, HO3.out, HB3.out⟩
            case measure => simp [intOf]; omega
      · obtain rfl : m = n := by omega
        have hll : ln ≤ 200 := by have := foundTo_len t s k m; rw [hL] at this; omega
        have hcn := compact_near t s k m
        rw [hL] at hcn
        obtain ⟨K, hK⟩ : ∃ K, L.mergeSort (fun x y => decide (x ≤ y)) = K := ⟨_, rfl⟩
        have hKl : K.length = ln := by rw [← hK, List.length_mergeSort, hln]
        rw [hK] at hcn
        have HO := Lib.hid hO
        have HB := Lib.hid hb
        have HLN := Lib.hid hln
        have HCN := Lib.hid hcn
        have HK := Lib.hid hK
        have HKL := Lib.hid hKl
        clear hO hb hln hL hcn hK hKl
        go_wp2_with (first
          | (go_at_call 71; refine (sl_sortStrs L a' ln cp w.heap.size _ HLN.out HO.out (by omega)).mono ?_; rintro e w2 ⟨rfl, hO2, hg2⟩; rw [HK.out] at hO2; have HO2 := Lib.hid hO2; have HB2 := Lib.hid (HB.out.trans (HO.out.turn HB.out.size hg2)); clear hO2 hg2)
          | (go_at_call 82; refine (sl_compactStrs K a' ln cp w.heap.size _ HKL.out HO2.out (by omega)).mono ?_; rintro e w3 ⟨rfl, hO3, hg3⟩; rw [HCN.out] at hO3; rw [HCN.out]; have HO3 := Lib.hid hO3; have HB3 := Lib.hid (HB2.out.trans (HO2.out.turn HB2.out.size hg3)); clear hO3 hg3))
        go_ret2
        exact ⟨a', cp, rfl, HO3.out, HB3.out⟩
end Go.Proofs.Ytelhgpoppgpniaa

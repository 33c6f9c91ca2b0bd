/-
  Chapter 15, the program: Near.
-/
import Derived.Test.YtpniiaemgobaiabNearSpT
import Derived.Test.YtpniiaemgobaiabNearW
import Derived.Test.YtpniiaemgobaiabBkGrow
import Derived.Test.YtpniiaemgobaiabSortStr
namespace Go.Proofs.Ytpniiaemgobaiab
open Go.RowKit
set_option linter.unusedVariables false
set_option maxRecDepth 100000
theorem nearTo_same {t u : Nat → ByteArray} (s : ByteArray) (k : Int) : ∀ m, (∀ i, i < m → t i = u i) → nearTo t s k m = nearTo u s k m
  | 0, _ => rfl
  | m + 1, h => by
    rw [nearTo, nearTo, nearTo_same s k m (fun i hi => h i (by omega)), h m (by omega)]
/-- a right tree is that of its words -/
theorem tree_words {T : List BkN} (h : bkOkB T = true) : (bkTo (bkW T) T.length).length = T.length ∧ (∀ i, i < T.length → (bkAt (bkTo (bkW T) T.length) i).t = (bkAt T i).t) ∧ (∀ i, i < T.length → (bkAt T i).t.size ≤ 20) ∧ T.length ≤ 30 := by
  unfold bkOkB at h
  obtain ⟨h1, h2⟩ := (Bool.and_eq_true _ _).mp h
  have e : bkV (bkW T) T.length = bkTo (bkW T) T.length := if_pos h1
  rw [e] at h2
  obtain ⟨h3, h4⟩ := bkSame_iff.1 h2
  obtain ⟨h5, h6⟩ := wordsOkB_iff.1 h1
  refine ⟨h3, fun i hi => ?_, h5, h6⟩
  have h7 := (h4 i hi).1
  rw [toList_bl, toList_bl] at h7
  rw [← txt_bl (bkAt (bkTo (bkW T) T.length) i).t, h7, txt_bl]
set_option maxHeartbeats 4000000 in
theorem impl_near (T : List BkN) (n : Nat) (a : Option Addr) (cap : Nat) (s : ByteArray) (k : Int) (w : World) (hn : T.length = n) (h : Vals w a (bks T)) (hlen : n ≤ 1048576) (hts : ∀ i, i < n → (bkAt T i).t.size ≤ 1048576) (hs : s.size ≤ 1048576) :
    Calls Try.prog 19 #[.slice a n cap, .string s, .int .i64 k] w fun e w' => ∃ a' cap', e = .returned (.tuple #[.slice a' (nearT T s k).length cap', .bool (treeOkB T s k)]) ∧ OwnV 9 1 w' w.heap.size a' (nearT T s k).length cap' (strs (nearT T s k)) ∧ Below w.heap.size w w' := by
  have HN := Lib.hid hn
  have HTS := Lib.hid hts
  have HV := Lib.hid h
  have COK := Lib.hid (fun W (hW : Below w.heap.size w W) => impl_bkOk T n a cap W HN.out (HV.out.kept hW) hlen HTS.out)
  have hoe : treeOkB T s k = (bkOkB T && nearArgB s k) := by unfold treeOkB nearArgB; rw [Bool.and_assoc]
  clear hts h hn
  cases hok : treeOkB T s k
  · have hno : nearT T s k = [] := if_neg (by rw [hok]; exact Bool.false_ne_true)
    rw [hno]
    have FIN : ∀ W : World, Below w.heap.size w W → OwnV 9 1 W w.heap.size none 0 0 (strs []) ∧ Below w.heap.size w W := fun W hW => ⟨OwnV.nil _ _, hW⟩
    have FIN := Lib.hid FIN
    rw [hoe] at hok
    clear hno
    cases h1 : bkOkB T
    · have H1 := Lib.hid h1
      clear hok h1 hoe
      go_enter Try.func19, Try.ntmps19
      go_wp2_with (go_at_call 15; refine (COK.out _ (Below.refl _ _)).mono ?_; rintro e w1 ⟨rfl, hb1⟩; rw [H1.out])
      go_ret2
      exact ⟨none, 0, rfl, FIN.out _ hb1⟩
    · have h2 : nearArgB s k = false := by rw [h1] at hok; exact hok
      have H1 := Lib.hid h1; have H2 := Lib.hid h2
      clear hok h1 h2 hoe
      go_enter Try.func19, Try.ntmps19
      go_wp2_with (first | (go_at_call 15; refine (COK.out _ (Below.refl _ _)).mono ?_; rintro e w1 ⟨rfl, hb1⟩; rw [H1.out]) | (go_at_call 56; refine (impl_nearOk _ _ _ hs).mono ?_; rintro r w2 ⟨rfl, rfl⟩; rw [H2.out]))
      go_ret2
      exact ⟨none, 0, rfl, FIN.out _ hb1⟩
  · have hyes : nearT T s k = nearTo (fun i => (bkAt T i).t) s k n := by unfold nearT; rw [if_pos hok, HN.out]
    rw [hoe] at hok
    obtain ⟨h1, h2⟩ := (Bool.and_eq_true _ _).mp hok
    obtain ⟨ht1, ht2, ht3, ht4⟩ := tree_words h1
    rw [HN.out] at ht1 ht2 ht3 ht4
    have h2b : s.size ≤ 20 ∧ 0 ≤ k ∧ k ≤ 20 := by
      unfold nearArgB at h2
      simp only [Bool.and_eq_true, decide_eq_true_eq] at h2
      exact ⟨h2.1, nearIn.1 h2.2⟩
    obtain ⟨z1, z2, z3⟩ := h2b
    have hsame : nearTo (fun i => (bkAt T i).t) s k n = nearTo (fun i => (bkAt (bkTo (bkW T) n) i).t) s k n := nearTo_same s k n fun i hi => (ht2 i hi).symm
    have hsz : ∀ j, j < n → (bkAt (bkTo (bkW T) n) j).t.size ≤ 200 := fun j hj => by rw [ht2 j hj]; have := ht3 j hj; omega
    have hup := bkTo_up (bkW T) n
    have H1 := Lib.hid h1; have H2 := Lib.hid h2
    have HYES := Lib.hid (hyes.trans hsame)
    have CTW := Lib.hid (fun W (hW : Below w.heap.size w W) => impl_treeWords T n a cap W HN.out (HV.out.kept hW) (by omega))
    have CGT := Lib.hid (fun a1 cap1 W (hW : Vals W a1 (strL (bkW T) n)) => impl_growTree (bkW T) n a1 cap1 W hW ht4 HTS.out)
    have HLN := Lib.hid ht1
    by_cases h0 : n = 0
    · subst h0
      have hem : nearT T s k = [] := hyes
      rw [hem]
      clear hyes hsame hsz hup ht1 ht2 ht3 h1 h2 hok hoe hem
      go_enter Try.func19, Try.ntmps19
      go_wp2_with (first
        | (go_at_call 15; refine (COK.out _ (Below.refl _ _)).mono ?_; rintro e w1 ⟨rfl, hb1⟩; rw [H1.out]; have HB1 := Lib.hid hb1; clear hb1)
        | (go_at_call 56; refine (impl_nearOk _ _ _ hs).mono ?_; rintro r w2 ⟨rfl, rfl⟩; rw [H2.out])
        | (go_at_call 50; refine (CTW.out _ HB1.out).mono ?_; rintro e w3 ⟨a3, cap3, rfl, hO3, hb3⟩; have HO3 := Lib.hid hO3; have HB3 := Lib.hid (HB1.out.trans (hb3.mono HB1.out.size)); clear hO3 hb3)
        | (go_at_call 43; refine (CGT.out _ _ _ HO3.out.vals).mono ?_; rintro e w4 ⟨a4, cap4, A, Tg, ka, kc, rfl, hM4, hO4, hb4⟩; rw [HLN.out]; have HB4 := Lib.hid (HB3.out.trans (hb4.mono HB3.out.size)); clear hO4 hM4 hb4))
      go_ret2
      exact ⟨none, 0, rfl, OwnV.nil _ _, HB4.out⟩
    · have hsrt := near_sorted (bkW T) n s k (by omega) (by rw [ht1]; exact hsz) (by omega) n (by omega)
      rw [ht1] at hsrt
      have CNW := Lib.hid (fun B A Tg ka kc => impl_nearW (bkTo (bkW T) n) B A Tg ka kc s k hup (by omega) (by rw [ht1]; exact hsz) (by omega) z2 z3 n 0)
      have hwl := near_le hup s k n 0 (by omega)
      obtain ⟨L, hL⟩ : ∃ L, bkTo (bkW T) n = L := ⟨_, rfl⟩
      have hsrt2 : (wdsB L (nearB L s k n 0)).mergeSort (fun x y => decide (x ≤ y)) = nearT T s k := by rw [HYES.out, ← hsrt, hL]; rfl
      rw [hL] at hwl
      obtain ⟨K, hK⟩ : ∃ K, wdsB L (nearB L s k n 0) = K := ⟨_, rfl⟩
      have hKl : K.length ≤ 200 := by rw [← hK]; unfold wdsB; rw [List.length_map]; rw [← hL] at hwl ⊢; omega
      rw [hK] at hsrt2
      obtain ⟨R, hR⟩ : ∃ R, nearT T s k = R := ⟨_, rfl⟩
      rw [hR] at hsrt2 ⊢
      have hRl : R.length = K.length := by rw [← hsrt2, List.length_mergeSort]
      have HR := Lib.hid hsrt2
      have CNW : Hid (∀ B A Tg ka kc W, BM W B L A Tg ka kc → Calls Try.prog 57 #[.pointer (some ⟨A 0, 0, none⟩), .string s, .int .i64 k] W fun e w' => ∃ a n cap, e = .returned (.slice a n cap) ∧ n = K.length ∧ OwnV 9 1 w' W.heap.size a n cap (strs K) ∧ Below W.heap.size W w') := by
        refine Lib.hid fun B A Tg ka kc W hW => ?_
        have := CNW.out B A Tg ka kc W (by rw [hL]; exact hW) (by omega) (by omega)
        rw [hL, hK] at this
        exact this
      have CGT2 : Hid (∀ a1 cap1 W, Vals W a1 (strL (bkW T) n) → Calls Try.prog 43 #[.slice a1 n cap1] W fun e w' => ∃ (a' : Option Addr) (c' : Nat) (A T : Nat → Nat) (ka : Nat → Option Addr) (kc : Nat → Nat), e = .returned (.slice a' n c') ∧ BM w' W.heap.size L A T ka kc ∧
          OwnV 60 1 w' W.heap.size a' n c' (bptrs A n) ∧ Below W.heap.size W w') := by
        refine Lib.hid fun a1 cap1 W hW => ?_
        have := CGT.out a1 cap1 W hW
        rw [HLN.out, hL] at this
        exact this
      have g0 : ((n : Int) == 0) = false := by simp; omega
      rw [hRl]
      have HKL := Lib.hid hKl
      clear hyes hsame hsz hup ht1 ht2 ht3 h1 h2 hok hoe hsrt hwl hL hK hR hsrt2 hRl CGT HYES hKl
      go_enter Try.func19, Try.ntmps19
      go_wp2_with (first
        | (go_at_call 15; refine (COK.out _ (Below.refl _ _)).mono ?_; rintro e w1 ⟨rfl, hb1⟩; rw [H1.out]; have HB1 := Lib.hid hb1; clear hb1)
        | (go_at_call 56; refine (impl_nearOk _ _ _ hs).mono ?_; rintro r w2 ⟨rfl, rfl⟩; rw [H2.out])
        | (go_at_call 50; refine (CTW.out _ HB1.out).mono ?_; rintro e w3 ⟨a3, cap3, rfl, hO3, hb3⟩; have HO3 := Lib.hid hO3; have HB3 := Lib.hid (HB1.out.trans (hb3.mono HB1.out.size)); clear hO3 hb3)
        | (go_at_call 43; refine (CGT2.out _ _ _ HO3.out.vals).mono ?_; rintro e w4 ⟨a4, cap4, A, Tg, ka, kc, rfl, hM4, hO4, hb4⟩; obtain ⟨b4, o4, rfl, hI⟩ := hO4.vals.at 0 (by rw [bptrs_length]; omega); have d4 := hI 0 (by rw [bptrs_length]; omega); rw [bptrs_at _ _ _ (by omega)] at d4; simp only [ptrB, Nat.add_zero] at d4; have HM4 := Lib.hid hM4; have HB4 := Lib.hid (HB3.out.trans (hb4.mono HB3.out.size)); clear hO4 hM4 hb4 hI)
        | (go_at_call 57; refine (CNW.out _ _ _ _ _ _ HM4.out).mono ?_; rintro e w5 ⟨a5, n5, cap5, rfl, hn5, hO5, hb5⟩; subst hn5; have HO5 := Lib.hid (hO5.mono HB4.out.size); have HB5 := Lib.hid (HB4.out.trans (hb5.mono HB4.out.size)); clear hO5 hb5)
        | (go_at_call 58; refine (sl_sortStrs K a5 _ cap5 w.heap.size _ rfl HO5.out (by have := HKL.out; omega)).mono ?_; rintro e w6 ⟨rfl, hO6, hg6⟩; rw [HR.out] at hO6; have HO6 := Lib.hid hO6; have HB6 := Lib.hid (HB5.out.trans (HO5.out.turn HB5.out.size hg6)); clear hO6 hg6))
      go_ret2
      exact ⟨a5, cap5, rfl, HO6.out, HB6.out⟩
end Go.Proofs.Ytpniiaemgobaiab

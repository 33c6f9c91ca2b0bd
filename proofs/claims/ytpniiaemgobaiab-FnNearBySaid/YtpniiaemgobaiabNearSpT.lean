/-
  Chapter 15's model: Near.
-/
import Derived.Test.YtpniiaemgobaiabNearSp
import Derived.Test.YtpniiaemgobaiabNearU
import Derived.Test.YtpniiaemgobaiabBkOk
namespace Go.Proofs.Ytpniiaemgobaiab
open Go.RowKit
set_option linter.unusedVariables false
set_option maxRecDepth 100000
/-- is all right that Near is given? -/
def treeOkB (T : List BkN) (s : ByteArray) (k : Int) : Bool := bkOkB T && decide (s.size ≤ 20) && inB k 0 20
def nearT (T : List BkN) (s : ByteArray) (k : Int) : List (List UInt8) := if treeOkB T s k = true then nearTo (fun i => (bkAt T i).t) s k T.length else []
theorem nearT_len (T : List BkN) (s : ByteArray) (k : Int) : (nearT T s k).length ≤ T.length := by
  unfold nearT
  split
  · exact nearTo_len _ _ _ _
  · simp
set_option maxHeartbeats 4000000 in
theorem spec_near (T : List BkN) (n : Nat) (a : Option Addr) (cap : Nat) (s : ByteArray) (k : Int) (w : World) (hn : T.length = n) (h : Vals w a (bks T)) (hlen : n ≤ 1048576) (hts : ∀ i, i < n → (bkAt T i).t.size ≤ 1048576) (hs : s.size ≤ 1048576) :
    Calls Try.prog 20 #[.slice a n cap, .string s, .int .i64 k] w fun e w' => ∃ a' cap', e = .returned (.tuple #[.slice a' (nearT T s k).length cap', .bool (treeOkB T s k)]) ∧ OwnV 9 1 w' w.heap.size a' (nearT T s k).length cap' (strs (nearT T s k)) ∧ Below w.heap.size w w' := by
  have HL := Lib.hid (show (bks T).length = n * 3 by rw [bks_length, hn])
  have HN := Lib.hid hn
  have HTS := Lib.hid hts
  have HV := Lib.hid h
  have COK := Lib.hid (fun W (hW : Below w.heap.size w W) => spec_bkOk T n a cap W HN.out (HV.out.kept hW) hlen HTS.out)
  clear hts h hn
  cases hok : treeOkB T s k
  · have hno : nearT T s k = [] := if_neg (by rw [hok]; exact Bool.false_ne_true)
    rw [hno]
    have FIN : ∀ W : World, Below w.heap.size w W → OwnV 9 1 W w.heap.size none 0 0 (strs []) ∧ Below w.heap.size w W := fun W hW => ⟨OwnV.nil _ _, hW⟩
    have FIN := Lib.hid FIN
    unfold treeOkB at hok
    cases h1 : bkOkB T
    · have H1 := Lib.hid h1
      clear hok h1 hno
      go_enter Try.func20, Try.ntmps20
      go_wp2_with (go_at_call 16; refine (COK.out _ (Below.refl _ _)).mono ?_; rintro e w1 ⟨rfl, hb1⟩; rw [H1.out])
      go_ret2
      exact ⟨none, 0, rfl, FIN.out _ hb1⟩
    · by_cases h2 : s.size ≤ 20
      · have h3 : inB k 0 20 = false := by rw [h1, decide_eq_true h2] at hok; simpa using hok
        have H1 := Lib.hid h1; have H3 := Lib.hid h3
        have g2 : decide ((20 : Int) < (s.size : Int)) = false := decide_eq_false (by omega)
        clear hok h1 h3 hno
        go_enter Try.func20, Try.ntmps20
        go_wp2_with (first | (go_at_call 16; refine (COK.out _ (Below.refl _ _)).mono ?_; rintro e w1 ⟨rfl, hb1⟩; rw [H1.out]) | (go_at_call 59; refine (spec_l1In _ _ _ _).mono ?_; rintro r w2 ⟨rfl, rfl⟩; rw [H3.out]))
        go_ret2
        exact ⟨none, 0, rfl, FIN.out _ hb1⟩
      · have g2 : decide ((20 : Int) < (s.size : Int)) = true := decide_eq_true (by omega)
        have H1 := Lib.hid h1
        clear hok h1 hno
        go_enter Try.func20, Try.ntmps20
        go_wp2_with (go_at_call 16; refine (COK.out _ (Below.refl _ _)).mono ?_; rintro e w1 ⟨rfl, hb1⟩; rw [H1.out])
        go_ret2
        exact ⟨none, 0, rfl, FIN.out _ hb1⟩
  · have hyes : nearT T s k = nearTo (fun i => (bkAt T i).t) s k n := by unfold nearT; rw [if_pos hok, HN.out]
    have HYES := Lib.hid hyes
    unfold treeOkB at hok
    simp only [Bool.and_eq_true, decide_eq_true_eq] at hok
    obtain ⟨⟨h1, h2⟩, h3⟩ := hok
    have hw1 : wordsOkB (bkW T) T.length = true := by
      unfold bkOkB at h1
      exact (Bool.and_eq_true _ _ ▸ h1).1
    obtain ⟨hw2, hw3⟩ := wordsOkB_iff.1 hw1
    have hn30 : n ≤ 200 := by rw [← HN.out]; omega
    have g2 : decide ((20 : Int) < (s.size : Int)) = false := decide_eq_false (by omega)
    have H1 := Lib.hid h1; have H3 := Lib.hid h3
    obtain ⟨t, ht⟩ : ∃ t : Nat → ByteArray, (fun i => (bkAt T i).t) = t := ⟨_, rfl⟩
    have HT := Lib.hid (fun i => congrFun ht i)
    rw [ht] at HYES
    have hO0 : ∀ W : World, OwnV 9 1 (W.alloc (.cells #[] 9)) W.heap.size (some ⟨W.heap.size, 0, none⟩) 0 0 (strs []) := fun W =>
      ⟨rfl, World.ownsRow_made W #[] 0 (Nat.le_refl _) (by decide) rfl⟩
    have HO0 := Lib.hid hO0
    clear hO0 h1 h3 hw1 hw2 hw3 hyes ht
    go_enter Try.func20, Try.ntmps20
    go_wp2_with (first | (go_at_call 16; refine (COK.out _ (Below.refl _ _)).mono ?_; rintro e w1 ⟨rfl, hb1⟩; rw [H1.out]; have HB1 := Lib.hid hb1; clear hb1) | (go_at_call 59; refine (spec_l1In _ _ _ _).mono ?_; rintro r w2 ⟨rfl, rfl⟩; rw [H3.out]))
    go_loopw [8, 9] (fun o i wr => ∃ (m g cp ln : Nat) (L : List (List UInt8)), m ≤ n ∧ i = .int .i64 (m : Int) ∧ nearTo t s k m = L ∧ L.length = ln ∧ o = .slice (some ⟨g, 0, none⟩) ln cp ∧ OwnV 9 1 wr w.heap.size (some ⟨g, 0, none⟩) ln cp (strs L) ∧ Below w.heap.size w wr)
      (fun _ i _ => n - (intOf i).toNat)
    case atStart => exact ⟨0, _, 0, 0, [], by omega, rfl, rfl, rfl, rfl, (HO0.out _).mono HB1.out.size, HB1.out.alloc HB1.out.size _⟩
    case round =>
      obtain ⟨m, g, cp, ln, L, hm, rfl, hL, hln, rfl, hO, hb⟩ := hrel
      by_cases hlt : m < n
      · obtain ⟨b, off, rfl, hp⟩ := (HV.out.kept hb).at (m * 3) (by rw [HL.out]; omega)
        have c0 := hp (m * 3) (by rw [HL.out]; omega)
        rw [(bks_at T m (by rw [HN.out]; exact hlt)).1] at c0
        have hsz := HTS.out m hlt
        have hlb := block_lt_of_cell c0
        have hll : ln ≤ 200 := by have := nearTo_len t s k m; rw [hL] at this; omega
        have hst : nearTo t s k (m + 1) = if distI (t m) s false ≤ k then putL (bl (t m)) (nearTo t s k m) else nearTo t s k m := rfl
        rw [hL] at hst
        rw [HT.out m] at c0 hsz
        obtain ⟨y, hy⟩ : ∃ y, t m = y := ⟨_, rfl⟩
        rw [hy] at c0 hst hsz
        obtain ⟨d, hd⟩ : ∃ d, distI y s false = d := ⟨_, rfl⟩
        rw [hd] at hst
        have HD := Lib.hid hd
        have HO := Lib.hid hO
        have HB := Lib.hid hb
        have HLN := Lib.hid hln
        clear hp hy hd hO hb hL hln
        by_cases hdk : d ≤ k
        · rw [if_pos hdk] at hst
          have HS := Lib.hid hst
          clear hst
          go_wp2_with (first | (go_at_call 60; refine (spec_distance y s false _ hsz hs).mono ?_; rintro e w2 ⟨rfl, hb2⟩; rw [HD.out]; have hc2 := (hb2.cell (p := ⟨b, _, none⟩) hlb).trans c0; have HO2 := Lib.hid (HO.out.kept hb2); have HB2 := Lib.hid (HB.out.trans (hb2.mono HB.out.size)); clear hb2) | (go_at_call 61; refine (spec_l15Put y L g ln cp w.heap.size _ HLN.out hll HO2.out HB2.out.size hsz).mono ?_; rintro e w3 ⟨g3, cp3, rfl, hO3, hb3⟩; have HO3 := Lib.hid hO3; have HB3 := Lib.hid (HB2.out.trans (hb3.mono HB2.out.size)); clear hO3 hb3))
          go_roundw
          case rel => exact ⟨m + 1, g3, cp3, _, _, by omega, by go_num, HS.out, rfl, rfl, HO3.out, HB3.out⟩
          case measure => simp [intOf]; omega
        · rw [if_neg hdk] at hst
          have HS := Lib.hid hst
          clear hst
          go_wp2_with (first | (go_at_call 60; refine (spec_distance y s false _ hsz hs).mono ?_; rintro e w2 ⟨rfl, hb2⟩; rw [HD.out]; have HO2 := Lib.hid (HO.out.kept hb2); have HB2 := Lib.hid (HB.out.trans (hb2.mono HB.out.size)); clear hb2))
          go_roundw
          case rel => exact ⟨m + 1, g, cp, ln, L, by omega, by go_num, HS.out, HLN.out, rfl, HO2.out, HB2.out⟩
          case measure => simp [intOf]; omega
      · obtain rfl : m = n := by omega
        have HO := Lib.hid hO
        have HB := Lib.hid hb
        have HLN := Lib.hid hln
        have HLL := Lib.hid hL
        clear hO hb hln hL
        go_wp2
        go_ret2
        exact ⟨some ⟨g, 0, none⟩, cp, by rw [HYES.out, HLL.out, HLN.out]; rfl, by rw [HYES.out, HLL.out, HLN.out]; exact HO.out, HB.out⟩
end Go.Proofs.Ytpniiaemgobaiab

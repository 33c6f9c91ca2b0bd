/-
  Chapter 16's model: the words near a text.
-/
import Derived.Test.YtpniiaemgobaiabWdOk
import Derived.Test.YtpniiaemgobaiabStrIn
import Derived.Test.YtpniiaemgobaiabNearP
import Derived.Test.YtpniiaemgobaiabL15Put
import Derived.Test.YtpniiaemgobaiabMTree
namespace Go.Proofs.Ytpniiaemgobaiab
open Go.RowKit
set_option linter.unusedVariables false
set_option maxRecDepth 100000
/-- the words' lengths and number are right -/
def nearOkB (t : Nat → ByteArray) (n : Nat) (s : ByteArray) (k q : Int) : Bool := wordsOkB t n && decide (s.size ≤ 20) && inB k 0 20 && inB q 1 10
def nearV (t : Nat → ByteArray) (n : Nat) (s : ByteArray) (k q : Int) : List (List UInt8) := if nearOkB t n s k q = true then nearTo t s k n else []
theorem nearV_yes {t : Nat → ByteArray} {n : Nat} {s : ByteArray} {k q : Int} (h : nearOkB t n s k q = true) : nearV t n s k q = nearTo t s k n := if_pos h
theorem nearV_no {t : Nat → ByteArray} {n : Nat} {s : ByteArray} {k q : Int} (h : nearOkB t n s k q = false) : nearV t n s k q = [] := if_neg (by rw [h]; exact Bool.false_ne_true)
theorem nearV_len (t : Nat → ByteArray) (n : Nat) (s : ByteArray) (k q : Int) : (nearV t n s k q).length ≤ n := by
  unfold nearV
  split
  · exact nearTo_len _ _ _ _
  · simp
set_option maxHeartbeats 4000000 in
theorem spec_nearBy (t : Nat → ByteArray) (n : Nat) (a : Option Addr) (cap : Nat) (s : ByteArray) (k q : Int) (w : World) (h : Vals w a (strL t n)) (hlen : n ≤ 1048577) (hts : ∀ i, i < n → (t i).size ≤ 1048576) (hs : s.size ≤ 1048576) :
    Calls Try.prog 24 #[.slice a n cap, .string s, .int .i64 k, .int .i64 q] w fun e w' => ∃ a' cap', e = .returned (.tuple #[.slice a' (nearV t n s k q).length cap', .bool (nearOkB t n s k q)]) ∧ OwnV 9 1 w' w.heap.size a' (nearV t n s k q).length cap' (strs (nearV t n s k q)) ∧ Below w.heap.size w w' := by
  have HN := Lib.hid (strL_length t n)
  have HT := Lib.hid (show ∀ i, i < n → (t i).size ≤ 1048577 from fun i hi => by have := hts i hi; omega)
  have HTS := Lib.hid hts
  have HV := Lib.hid h
  clear hts h
  cases hok : nearOkB t n s k q
  · rw [nearV_no hok]
    have FIN : ∀ W : World, Below w.heap.size w W → OwnV 9 1 W w.heap.size none 0 0 (strs []) ∧ Below w.heap.size w W := fun W hW => ⟨OwnV.nil _ _, hW⟩
    have FIN := Lib.hid FIN
    unfold nearOkB at hok
    cases h1 : wordsOkB t n
    · have H1 := Lib.hid h1
      clear hok h1
      go_enter Try.func24, Try.ntmps24
      go_wp2_with (go_at_call 45; refine (spec_l15Words t n a cap _ HV.out hlen HT.out).mono ?_; rintro e w1 ⟨rfl, hb1⟩; rw [H1.out])
      go_ret2
      exact ⟨none, 0, rfl, FIN.out _ hb1⟩
    · by_cases h2 : s.size ≤ 20
      · cases h3 : inB k 0 20
        · have H1 := Lib.hid h1; have H3 := Lib.hid h3
          clear hok h1 h3
          go_enter Try.func24, Try.ntmps24
          go_wp2_with (first | (go_at_call 45; refine (spec_l15Words t n a cap _ HV.out hlen HT.out).mono ?_; rintro e w1 ⟨rfl, hb1⟩; rw [H1.out]) | (go_at_call 59; refine (spec_l1In _ _ _ _).mono ?_; rintro r w2 ⟨rfl, rfl⟩; rw [H3.out]))
          go_ret2
          exact ⟨none, 0, rfl, FIN.out _ hb1⟩
        · have h4 : inB q 1 10 = false := by rw [h1, decide_eq_true h2, h3] at hok; simpa using hok
          have H1 := Lib.hid h1; have H3 := Lib.hid h3; have H4 := Lib.hid h4
          clear hok h1 h3 h4
          go_enter Try.func24, Try.ntmps24
          go_wp2_with (first | (go_at_call 45; refine (spec_l15Words t n a cap _ HV.out hlen HT.out).mono ?_; rintro e w1 ⟨rfl, hb1⟩; rw [H1.out]) | (go_at_call 59; refine (spec_l1In _ _ _ _).mono ?_; rintro r w2 ⟨rfl, rfl⟩; first | rw [H3.out] | rw [H4.out]))
          go_ret2
          exact ⟨none, 0, rfl, FIN.out _ hb1⟩
      · have g2 : decide ((20 : Int) < (s.size : Int)) = true := decide_eq_true (by omega)
        have H1 := Lib.hid h1
        clear hok h1
        go_enter Try.func24, Try.ntmps24
        go_wp2_with (go_at_call 45; refine (spec_l15Words t n a cap _ HV.out hlen HT.out).mono ?_; rintro e w1 ⟨rfl, hb1⟩; rw [H1.out])
        go_ret2
        exact ⟨none, 0, rfl, FIN.out _ hb1⟩
  · rw [nearV_yes hok]
    unfold nearOkB at hok
    simp only [Bool.and_eq_true, decide_eq_true_eq] at hok
    obtain ⟨⟨⟨h1, h2⟩, h3⟩, h4⟩ := hok
    obtain ⟨hw1, hw2⟩ := wordsOkB_iff.1 h1
    have HW := Lib.hid hw1
    have H1 := Lib.hid h1; have H3 := Lib.hid h3; have H4 := Lib.hid h4
    clear h1 h3 h4 hw1
    have hO0 : ∀ W : World, OwnV 9 1 (W.alloc (.cells #[] 9)) W.heap.size (some ⟨W.heap.size, 0, none⟩) 0 0 (strs []) := fun W =>
      ⟨rfl, World.ownsRow_made W #[] 0 (Nat.le_refl _) (by decide) rfl⟩
    have HO0 := Lib.hid hO0
    clear hO0
    go_enter Try.func24, Try.ntmps24
    go_wp2_with (first | (go_at_call 45; refine (spec_l15Words t n a cap _ HV.out hlen HT.out).mono ?_; rintro e w1 ⟨rfl, hb1⟩; rw [H1.out]; have HB1 := Lib.hid hb1; clear hb1) | (go_at_call 59; refine (spec_l1In _ _ _ _).mono ?_; rintro r w2 ⟨rfl, rfl⟩; first | rw [H3.out] | rw [H4.out]))
    go_loopw [10, 11] (fun o i wr => ∃ (m g cp ln : Nat) (L : List (List UInt8)), m ≤ n ∧ i = .int .i64 (m : Int) ∧ nearTo t s k m = L ∧ L.length = ln ∧ o = .slice (some ⟨g, 0, none⟩) ln cp ∧ OwnV 9 1 wr w.heap.size (some ⟨g, 0, none⟩) ln cp (strs L) ∧ Below w.heap.size w wr)
      (fun _ i _ => n - (intOf i).toNat)
    case atStart => exact ⟨0, _, 0, 0, [], by omega, rfl, rfl, rfl, rfl, (HO0.out _).mono HB1.out.size, HB1.out.alloc HB1.out.size _⟩
    case round =>
      obtain ⟨m, g, cp, ln, L, hm, rfl, hL, hln, rfl, hO, hb⟩ := hrel
      by_cases hlt : m < n
      · obtain ⟨b, off, rfl, hp⟩ := (HV.out.kept hb).at m (by rw [HN.out]; exact hlt)
        have c0 := hp m (by rw [HN.out]; exact hlt)
        rw [strL_at t n m hlt] at c0
        have hsz := HTS.out m hlt
        have hlb := block_lt_of_cell c0
        have hll : ln ≤ 200 := by have := nearTo_len t s k m; rw [hL] at this; omega
        have hst : nearTo t s k (m + 1) = if distI (t m) s false ≤ k then putL (bl (t m)) (nearTo t s k m) else nearTo t s k m := rfl
        rw [hL] at hst
        obtain ⟨y, hy⟩ : ∃ y, t m = y := ⟨_, rfl⟩
        rw [hy] at c0 hst hsz
        obtain ⟨d, hd⟩ : ∃ d, distI y s false = d := ⟨_, rfl⟩
        rw [hd] at hst
        have HD := Lib.hid hd
        have HO := Lib.hid hO
        have HB := Lib.hid hb
        have HLN := Lib.hid hln
        clear hp hy hd hO hb hL hln
        by_cases hdk : d ≤ k
        · rw [if_pos hdk] at hst
          have HS := Lib.hid hst
          clear hst
          go_wp2_with (first | (go_at_call 60; refine (spec_distance y s false _ hsz hs).mono ?_; rintro e w2 ⟨rfl, hb2⟩; rw [HD.out]; have hc2 := (hb2.cell (p := ⟨b, _, none⟩) hlb).trans c0; have HO2 := Lib.hid (HO.out.kept hb2); have HB2 := Lib.hid (HB.out.trans (hb2.mono HB.out.size)); clear hb2) | (go_at_call 61; refine (spec_l15Put y L g ln cp w.heap.size _ HLN.out hll HO2.out HB2.out.size hsz).mono ?_; rintro e w3 ⟨g3, cp3, rfl, hO3, hb3⟩; have HO3 := Lib.hid hO3; have HB3 := Lib.hid (HB2.out.trans (hb3.mono HB2.out.size)); clear hO3 hb3))
          go_roundw
          case rel => exact ⟨m + 1, g3, cp3, _, _, by omega, by go_num, HS.out, rfl, rfl, HO3.out, HB3.out⟩
          case measure => simp [intOf]; omega
        · rw [if_neg hdk] at hst
          have HS := Lib.hid hst
          clear hst
          go_wp2_with (first | (go_at_call 60; refine (spec_distance y s false _ hsz hs).mono ?_; rintro e w2 ⟨rfl, hb2⟩; rw [HD.out]; have HO2 := Lib.hid (HO.out.kept hb2); have HB2 := Lib.hid (HB.out.trans (hb2.mono HB.out.size)); clear hb2))
          go_roundw
          case rel => exact ⟨m + 1, g, cp, ln, L, by omega, by go_num, HS.out, HLN.out, rfl, HO2.out, HB2.out⟩
          case measure => simp [intOf]; omega
      · obtain rfl : m = n := by omega
        have HO := Lib.hid hO
        have HB := Lib.hid hb
        have HLN := Lib.hid hln
        have HL := Lib.hid hL
        clear hO hb hln hL
        go_wp2
        go_ret2
        exact ⟨some ⟨g, 0, none⟩, cp, by rw [HL.out, HLN.out]; rfl, by rw [HL.out, HLN.out]; exact HO.out, HB.out⟩
end Go.Proofs.Ytpniiaemgobaiab

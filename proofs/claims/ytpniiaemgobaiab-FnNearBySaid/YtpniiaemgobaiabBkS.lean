/-
  Chapter 15's model: a tree with one word more; the tree of words.
-/
import Derived.Test.YtpniiaemgobaiabMTree
import Derived.Test.YtpniiaemgobaiabWdOk
namespace Go.Proofs.Ytpniiaemgobaiab
open Go.RowKit
set_option linter.unusedVariables false
set_option maxRecDepth 100000
theorem bk_info : (Try.prog.info? 33).map (fun i => (i.zero, i.size, i.bytes)) = some (some (.agg #[.string ⟨#[]⟩, .int .i64 0, .int .i64 0]), 3, 32) := by kernel_rfl
theorem OwnV.all {e m : Nat} {w : World} {B g n cap : Nat} {V : List Value} (h : OwnV e m w B (some ⟨g, 0, none⟩) n cap V) : ∀ j u, V[j]? = some u → w.cell? ((⟨g, 0, none⟩ : Addr).add j) = some u := by
  intro j u hj
  obtain ⟨hl, he⟩ := List.getElem?_eq_some_iff.1 hj
  have := h.cell j (by rw [← h.len]; exact hl)
  rw [Addr.add_lit, Nat.zero_add, this]
  unfold valAt
  rw [List.getD_eq_getElem?_getD, List.getElem?_eq_getElem hl, he]; rfl
def kidI : Option Nat → Int
  | none => -1
  | some k => (k : Int)
set_option maxHeartbeats 2000000 in
theorem spec_l15Kid (T : List BkN) (n : Nat) (a : Option Addr) (cap p : Nat) (d : Int) (w : World) (hn : T.length = n) (hnn : n ≤ 1048576) (h : Vals w a (bks T)) :
    Calls Try.prog 80 #[.slice a n cap, .int .i64 (p : Int), .int .i64 d] w fun e w' => e = .returned (.int .i64 (kidI (kidB T p d (n - 1) 1))) ∧ Below w.heap.size w w' := by
  have HN := Lib.hid (show (bks T).length = n * 3 by rw [bks_length, hn])
  have HA := Lib.hid (fun i (hi : i < n) => bks_at T i (by rw [hn]; exact hi))
  clear hn
  go_enter Try.func80, Try.ntmps80
  go_wp2
  go_loopw [7] (fun i wr => ∃ k : Nat, 1 ≤ k ∧ (k ≤ n ∨ k = 1) ∧ i = .int .i64 (k : Int) ∧ Hid (kidB T p d (n - 1) 1 = kidB T p d (n - k) k) ∧ Below w.heap.size w wr)
    (fun i _ => n - (intOf i).toNat)
  case atStart => exact ⟨1, by omega, by omega, rfl, Lib.hid rfl, Below.refl _ _⟩
  case round =>
    obtain ⟨k, hk1, hk2, rfl, hK, hb⟩ := hrel
    by_cases hlt : k < n
    · obtain ⟨b, off, rfl, hp⟩ := (h.kept hb).at (k * 3) (by rw [HN.out]; omega)
      have c1 := hp (k * 3 + 1) (by rw [HN.out]; omega)
      have c2 := hp (k * 3 + 2) (by rw [HN.out]; omega)
      obtain ⟨_, q1, q2⟩ := HA.out k hlt
      rw [q1] at c1
      rw [q2] at c2
      rw [← Nat.add_assoc] at c1 c2
      have HK := Lib.hid (show kidB T p d (n - k) k = if (bkAt T k).u = (p : Int) ∧ (bkAt T k).d = d then some k else kidB T p d (n - (k + 1)) (k + 1) by
        rw [show n - k = n - (k + 1) + 1 by omega]; rfl)
      obtain ⟨x, hx⟩ : ∃ x, (bkAt T k).u = x := ⟨_, rfl⟩
      obtain ⟨y, hy⟩ : ∃ y, (bkAt T k).d = y := ⟨_, rfl⟩
      have HX := Lib.hid hx
      have HY := Lib.hid hy
      rw [hx] at c2
      rw [hy] at c1
      clear hp q1 q2 h hx hy
      by_cases hu : x = (p : Int)
      · by_cases hd : y = d
        · subst hu hd
          have g1 : ((p : Int) == (p : Int)) = true := by simp
          have g2 : (y == y) = true := by simp
          have HF : Hid (kidI (kidB T p y (n - 1) 1) = (k : Int)) := Lib.hid (by rw [hK.out, HK.out, if_pos ⟨HX.out, HY.out⟩]; rfl)
          go_wp2_with fail
          go_ret
          exact ⟨by rw [HF.out]; rfl, hb⟩
        · have g1 : (x == (p : Int)) = true := by rw [hu]; simp
          have g2 : (y == d) = false := by simpa using hd
          have HF : Hid (kidB T p d (n - 1) 1 = kidB T p d (n - (k + 1)) (k + 1)) := Lib.hid (by rw [hK.out, HK.out, if_neg fun h => hd (by rw [← HY.out]; exact h.2)])
          clear hu hd
          go_wp2_with fail
          go_roundw
          case rel => exact ⟨k + 1, by omega, by omega, by go_num, HF, hb⟩
          case measure => simp [intOf]; omega
      · have g1 : (x == (p : Int)) = false := by simpa using hu
        have HF : Hid (kidB T p d (n - 1) 1 = kidB T p d (n - (k + 1)) (k + 1)) := Lib.hid (by rw [hK.out, HK.out, if_neg fun h => hu (by rw [← HX.out]; exact h.1)])
        clear hu
        go_wp2_with fail
        go_roundw
        case rel => exact ⟨k + 1, by omega, by omega, by go_num, HF, hb⟩
        case measure => simp [intOf]; omega
    · have HF : Hid (kidI (kidB T p d (n - 1) 1) = -1) := Lib.hid (by rw [hK.out, show n - k = 0 by omega]; rfl)
      have hlt2 : ¬ (k : Int) < (n : Int) := by omega
      go_wp2
      go_ret
      exact ⟨by rw [HF.out]; rfl, hb⟩
set_option maxHeartbeats 8000000 in
theorem spec_l15Add (T : List BkN) (y : ByteArray) (g n cap B : Nat) (w : World) (hn : T.length = n) (hnn : n ≤ 200) (hU : UpB T) (hS : ∀ i, i < n → (bkAt T i).t.size ≤ 1048576) (hO : OwnV 33 3 w B (some ⟨g, 0, none⟩) n cap (bks T)) (hB : B ≤ w.heap.size) (hy : y.size ≤ 1048576) :
    Calls Try.prog 46 #[.slice (some ⟨g, 0, none⟩) n cap, .string y] w fun e w' => ∃ g' cap', e = .returned (.slice (some ⟨g', 0, none⟩) (addB T y).length cap') ∧ OwnV 33 3 w' B (some ⟨g', 0, none⟩) (addB T y).length cap' (bks (addB T y)) ∧ Below w.heap.size w w' := by
  obtain ⟨i0, hi, ht0, ht1, ht2⟩ := info_parts bk_info
  have hnc := hO.cap_le
  by_cases h0 : n = 0
  · subst h0
    have hT : T = [] := List.eq_nil_of_length_eq_zero hn
    have HF := Lib.hid (show addB T y = [⟨y, 0, 0⟩] by rw [hT]; rfl)
    have HO : Hid (OwnV 33 3 (w.alloc (.cells #[.string y, .int .i64 0, .int .i64 0] 33)) w.heap.size (some ⟨w.heap.size, 0, none⟩) 1 1 (bks [⟨y, 0, 0⟩])) :=
      Lib.hid ⟨rfl, World.ownsRow_lit w _ 1 (Nat.le_refl _) (by decide) rfl⟩
    clear hO hS hU hT
    go_enter Try.func46, Try.ntmps46
    go_wp2
    go_ret
    exact ⟨_, 1, by rw [HF.out]; rfl, by rw [HF.out]; exact HO.out.mono hB, (Below.refl _ _).alloc (Nat.le_refl _) _⟩
  · have e0 : ((n : Int) == 0) = false := by simpa using h0
    have HN := Lib.hid hn
    have HU := Lib.hid hU
    have HS := Lib.hid hS
    have HO := Lib.hid hO
    have HADD : Hid (addB T y = match goB T y n 0 with | none => T | some (p, d) => T ++ [⟨y, d, (p : Int)⟩]) := Lib.hid (by
      unfold addB
      rw [if_neg (by intro h; rw [h] at hn; exact h0 hn.symm), hn]
      rfl)
    have HL := Lib.hid (show (bks T).length = n * 3 by rw [bks_length, hn])
    have HA := Lib.hid (fun i (hi : i < n) => bks_at T i (by rw [hn]; exact hi))
    clear hn hU hS hO
    go_enter Try.func46, Try.ntmps46
    go_wp2
    go_loopw [5] (fun i wr => ∃ p f : Nat, p < n ∧ i = .int .i64 (p : Int) ∧ Hid (goB T y n 0 = goB T y f p) ∧ n ≤ p + f ∧ Below w.heap.size w wr)
      (fun i _ => n - (intOf i).toNat)
    case atStart => exact ⟨0, n, by omega, rfl, Lib.hid rfl, by omega, Below.refl _ _⟩
    case round =>
      obtain ⟨p, f, hp, rfl, hG, hpf, hb⟩ := hrel
      obtain ⟨f, rfl⟩ : ∃ f', f = f' + 1 := ⟨f - 1, by omega⟩
      have HO1 := Lib.hid (HO.out.kept hb)
      have c0 := HO1.out.cell (p * 3) (by omega)
      rw [(HA.out p hp).1] at c0
      have hs := HS.out p hp
      have HGO := Lib.hid (show goB T y (f + 1) p = if distI (bkAt T p).t y false = 0 then none else match kidB T p (distI (bkAt T p).t y false) (n - 1) 1 with
        | none => some (p, distI (bkAt T p).t y false)
        | some k => goB T y f k by rw [goB, HN.out]; rfl)
      obtain ⟨x, hx⟩ : ∃ x, (bkAt T p).t = x := ⟨_, rfl⟩
      obtain ⟨d, hd⟩ : ∃ d, distI x y false = d := ⟨_, rfl⟩
      rw [hx] at c0 hs
      have HD := Lib.hid hd
      have hgo := HGO.out
      rw [hx, hd] at hgo
      have HGO := Lib.hid hgo
      have HB := Lib.hid hb
      clear hx hd hb hgo
      by_cases hd0 : d = 0
      · subst hd0
        have HF : Hid (addB T y = T) := Lib.hid (by rw [HADD.out, hG.out, HGO.out, if_pos rfl])
        go_wp2_with (go_at_call 60; refine (spec_distance x y false _ hs hy).mono ?_; rintro e w2 ⟨rfl, hb2⟩; rw [HD.out]; have HO2 := Lib.hid (HO1.out.kept hb2); have HB2 := Lib.hid (HB.out.trans (hb2.mono HB.out.size)); clear hb2)
        go_ret
        exact ⟨g, cap, by rw [HF.out, HN.out]; rfl, by rw [HF.out, HN.out]; exact HO2.out, HB2.out⟩
      · have e1 : (d == 0) = false := by simpa using hd0
        cases hk : kidB T p d (n - 1) 1 with
        | none =>
          have HK := Lib.hid (show kidI (kidB T p d (n - 1) 1) = -1 by rw [hk]; rfl)
          have HF : Hid (addB T y = T ++ [⟨y, d, (p : Int)⟩]) := Lib.hid (by rw [HADD.out, hG.out, HGO.out, if_neg hd0, hk])
          clear hk hd0
          go_wp2_with (first
            | (go_at_call 60; refine (spec_distance x y false _ hs hy).mono ?_; rintro e w2 ⟨rfl, hb2⟩; rw [HD.out]; have HO2 := Lib.hid (HO1.out.kept hb2); have HB2 := Lib.hid (HB.out.trans (hb2.mono HB.out.size)); clear hb2)
            | (go_at_call 80; refine (spec_l15Kid T n _ _ p d _ HN.out (by omega) HO2.out.vals).mono ?_; rintro e w3 ⟨rfl, hb3⟩; rw [HK.out]; have HO3 := Lib.hid ((HO2.out.kept hb3).kept ((Below.refl w3.heap.size w3).alloc (Nat.le_refl _) (.cells #[] 33))); have HB3 := Lib.hid (HB2.out.trans (hb3.mono HB2.out.size)); clear hb3)
            | (at_builtin; refine wpList_append_own _ rfl _ _ 26 rfl w3.heap.size 33 i0 (.agg #[.string ⟨#[]⟩, .int .i64 0, .int .i64 0]) 3 32 Try.underlying26 hi ht0 ht1 ht2 rfl (by decide) _ _ _ rfl (World.ownsRow_made w3 #[] 0 (Nat.le_refl _) (by decide) rfl) ⟨g, 0, none⟩ n cap (bks T) rfl HL.out HO3.out.all (bks_cell T) (by unfold maxLen; omega) (by omega) (by simp) ?_; intro v4 w4 hown4 hg4 _; obtain ⟨a4, cap4, rfl, hO4⟩ := OwnV.shape HL.out (show w4.ownsRow w3.heap.size 33 3 v4 n (bks T) by simpa using hown4); have HB4 := Lib.hid (((Below.refl _ w3).alloc (Nat.le_refl _) _).grown hg4 (by simp) (fun q hq => by cases hq; exact Nat.le_refl _)); have HO4 := Lib.hid hO4; have HZ4 := Lib.hid HB4.out.size; have HL4 := Lib.hid (show (bks T ++ [Value.string y, .int .i64 d, .int .i64 (p : Int)]).length = (n + 1) * 3 by rw [List.length_append, HL.out]; simp; omega); clear hown4 hg4 hO4)
            | (at_builtin; refine wpList_append_own _ rfl _ _ 26 rfl w3.heap.size 33 i0 (.agg #[.string ⟨#[]⟩, .int .i64 0, .int .i64 0]) 3 32 Try.underlying26 hi ht0 ht1 ht2 rfl (by decide) _ _ _ rfl (HO4.out.2.alloc _) ⟨w4.heap.size, 0, none⟩ 1 1 [Value.string y, .int .i64 d, .int .i64 (p : Int)] rfl rfl (fun j u h => cells_new w4 _ _ j u h) (by simp [Value.oneCell']) (by unfold maxLen; omega) (by omega) (by have := HZ4.out; simp; omega) ?_; intro v5 w5 hown5 hg5 _; obtain ⟨a5, cap5, rfl, hO5⟩ := OwnV.shape HL4.out (show w5.ownsRow w3.heap.size 33 3 v5 (n + 1) (bks T ++ [Value.string y, .int .i64 d, .int .i64 (p : Int)]) by exact hown5); have HB5 := Lib.hid (HB4.out.trans (((Below.refl _ w4).alloc HZ4.out _).trans ((HO4.out.kept ((Below.refl w4.heap.size w4).alloc (Nat.le_refl _) _)).turn (by have := HZ4.out; simp; omega) hg5))); have HO5 := Lib.hid hO5; clear hown5 hg5 hO5))
          obtain ⟨g5, rfl, _, _⟩ := HO5.out.head 0 (by omega)
          have HFL := Lib.hid (show (T ++ [(⟨y, d, (p : Int)⟩ : BkN)]).length = n + 1 by rw [List.length_append, HN.out]; rfl)
          have HZ3 := Lib.hid HB3.out.size
          go_ret
          exact ⟨g5, cap5, by rw [HF.out, HFL.out]; rfl, by rw [HF.out, HFL.out, bks_append, bks_one]; exact HO5.out.mono (by have := HZ3.out; omega), HB3.out.trans (HB5.out.mono HZ3.out)⟩
        | some k =>
          have hk2 := kidB_up HU.out (by rw [HN.out]; exact hk)
          rw [HN.out] at hk2
          have HK := Lib.hid (show kidI (kidB T p d (n - 1) 1) = (k : Int) by rw [hk]; rfl)
          have HF : Hid (goB T y n 0 = goB T y f k) := Lib.hid (by rw [hG.out, HGO.out, if_neg hd0, hk])
          clear hk hd0
          go_wp2_with (first
            | (go_at_call 60; refine (spec_distance x y false _ hs hy).mono ?_; rintro e w2 ⟨rfl, hb2⟩; rw [HD.out]; have HO2 := Lib.hid (HO1.out.kept hb2); have HB2 := Lib.hid (HB.out.trans (hb2.mono HB.out.size)); clear hb2)
            | (go_at_call 80; refine (spec_l15Kid T n _ _ p d _ HN.out (by omega) HO2.out.vals).mono ?_; rintro e w3 ⟨rfl, hb3⟩; rw [HK.out]; have HB3 := Lib.hid (HB2.out.trans (hb3.mono HB2.out.size)); clear hb3))
          go_roundw
          case rel => exact ⟨k, f, hk2.2, rfl, HF, by omega, HB3.out⟩
          case measure => simp [intOf]; omega
/-- the tree of the words, if they are right -/
def bkV (t : Nat → ByteArray) (n : Nat) : List BkN := if wordsOkB t n = true then bkTo t n else []
theorem bkV_len (t : Nat → ByteArray) (n : Nat) : (bkV t n).length ≤ n := by
  unfold bkV
  split
  · exact bkTo_len _ _
  · simp
theorem bkAt_sz {T : List BkN} {B : Nat} (h : ∀ b ∈ T, b.t.size ≤ B) (i : Nat) (hi : i < T.length) : (bkAt T i).t.size ≤ B := by
  unfold bkAt
  rw [List.getD_eq_getElem?_getD, List.getElem?_eq_getElem hi]
  exact h _ (List.getElem_mem hi)
set_option maxHeartbeats 4000000 in
theorem spec_bkOf (t : Nat → ByteArray) (n : Nat) (a : Option Addr) (cap : Nat) (w : World) (h : Vals w a (strL t n)) (hlen : n ≤ 1048577) (hts : ∀ i, i < n → (t i).size ≤ 1048576) :
    Calls Try.prog 12 #[.slice a n cap] w fun e w' => ∃ a' cap', e = .returned (.tuple #[.slice a' (bkV t n).length cap', .bool (wordsOkB t n)]) ∧ OwnV 33 3 w' w.heap.size a' (bkV t n).length cap' (bks (bkV t n)) ∧ Below w.heap.size w w' := by
  have HN := Lib.hid (strL_length t n)
  have HT := Lib.hid (show ∀ i, i < n → (t i).size ≤ 1048577 from fun i hi => by have := hts i hi; omega)
  have HTS := Lib.hid hts
  have HV := Lib.hid h
  clear hts h
  cases h1 : wordsOkB t n
  · have HE := Lib.hid (show bkV t n = [] by unfold bkV; rw [if_neg (by rw [h1]; exact Bool.false_ne_true)])
    rw [HE.out]
    have H1 := Lib.hid h1
    clear h1
    go_enter Try.func12, Try.ntmps12
    go_wp2_with (go_at_call 45; refine (spec_l15Words t n a cap _ HV.out hlen HT.out).mono ?_; rintro e w1 ⟨rfl, hb1⟩; rw [H1.out])
    go_ret2
    exact ⟨none, 0, rfl, OwnV.nil _ _, hb1⟩
  · have HE := Lib.hid (show bkV t n = bkTo t n from if_pos h1)
    rw [HE.out]
    obtain ⟨hw1, hw2⟩ := wordsOkB_iff.1 h1
    have H1 := Lib.hid h1
    have hO0 : ∀ W : World, OwnV 33 3 (W.alloc (.cells #[] 33)) W.heap.size (some ⟨W.heap.size, 0, none⟩) 0 0 (bks []) := fun W =>
      ⟨rfl, World.ownsRow_made W #[] 0 (Nat.le_refl _) (by decide) rfl⟩
    have HO0 := Lib.hid hO0
    clear hO0 h1 hw1
    go_enter Try.func12, Try.ntmps12
    go_wp2_with (go_at_call 45; refine (spec_l15Words t n a cap _ HV.out hlen HT.out).mono ?_; rintro e w1 ⟨rfl, hb1⟩; rw [H1.out]; have HB1 := Lib.hid hb1; clear hb1)
    go_loopw [4, 5] (fun o i wr => ∃ (m g cp ln : Nat) (T : List BkN), m ≤ n ∧ i = .int .i64 (m : Int) ∧ Hid (bkTo t m = T) ∧ Hid (T.length = ln) ∧ o = .slice (some ⟨g, 0, none⟩) ln cp ∧ OwnV 33 3 wr w.heap.size (some ⟨g, 0, none⟩) ln cp (bks T) ∧ Below w.heap.size w wr)
      (fun _ i _ => n - (intOf i).toNat)
    case atStart => exact ⟨0, _, 0, 0, [], by omega, rfl, Lib.hid rfl, Lib.hid rfl, rfl, (HO0.out _).mono HB1.out.size, HB1.out.alloc HB1.out.size _⟩
    case round =>
      obtain ⟨m, g, cp, ln, T, hm, rfl, hL, hln, rfl, hO, hb⟩ := hrel
      by_cases hlt : m < n
      · obtain ⟨b, off, rfl, hp⟩ := (HV.out.kept hb).at m (by rw [HN.out]; exact hlt)
        have c0 := hp m (by rw [HN.out]; exact hlt)
        rw [strL_at t n m hlt] at c0
        have hsz := HTS.out m hlt
        have hll : ln ≤ 200 := by have := bkTo_len t m; rw [hL.out, hln.out] at this; omega
        have HST := Lib.hid (show bkTo t (m + 1) = addB T (t m) by rw [← hL.out]; rfl)
        have HU := Lib.hid (show UpB T by rw [← hL.out]; exact bkTo_up t m)
        have HSZ := Lib.hid (show ∀ i, i < ln → (bkAt T i).t.size ≤ 1048576 from fun i hi => bkAt_sz (by rw [← hL.out]; exact bkTo_sz HTS.out m hm) i (by rw [hln.out]; exact hi))
        obtain ⟨y, hy⟩ : ∃ y, t m = y := ⟨_, rfl⟩
        rw [hy] at c0 hsz
        have HY := Lib.hid hy
        have HO := Lib.hid hO
        have HB := Lib.hid hb
        clear hp hy hO hb
        go_wp2_with (go_at_call 46; refine (spec_l15Add T y g ln cp w.heap.size _ hln.out hll HU.out HSZ.out HO.out HB.out.size hsz).mono ?_; rintro e w3 ⟨g3, cp3, rfl, hO3, hb3⟩; have HO3 := Lib.hid hO3; have HB3 := Lib.hid (HB.out.trans (hb3.mono HB.out.size)); clear hO3 hb3)
        go_roundw
        case rel => exact ⟨m + 1, g3, cp3, _, _, by omega, by go_num, Lib.hid (by rw [HST.out, HY.out]), Lib.hid rfl, rfl, HO3.out, HB3.out⟩
        case measure => simp [intOf]; omega
      · obtain rfl : m = n := by omega
        have HO := Lib.hid hO
        have HB := Lib.hid hb
        clear hO hb
        go_wp2
        go_ret2
        exact ⟨some ⟨g, 0, none⟩, cp, by rw [hL.out, hln.out]; rfl, by rw [hL.out, hln.out]; exact HO.out, HB.out⟩
end Go.Proofs.Ytpniiaemgobaiab

/-
  XFarIC, XFarSpC, XCompletedL in one. (join.py)
-/
import Derived.Test.YtpniiaemgobaiaaFarA
import Derived.BigQuiet
import Derived.Test.YtpniiaemgobaiaaFarR
import Derived.Test.YtpniiaemgobaiaaL3DistS
import Derived.Test.YtpniiaemgobaiaaStrLaw
import Derived.Test.YtpniiaemgobaiaaStrIn
set_option maxRecDepth 4000
/-
  Chapter 19: Completed in the program. (mk_far.py)
-/
namespace Go.Proofs.Ytpniiaemgobaiaa
open Go.RowKit
set_option linter.unusedVariables false
set_option maxRecDepth 100000
def farC (s : ByteArray) (u : List UInt8) : Int := startDI s (txt u)
def askVC (t : Nat → ByteArray) (n : Nat) (s : ByteArray) (k most : Int) : List (List UInt8) := if askB t n s k most = true then askedW (farC s) (fun i => bl (t i)) n k most else []
set_option maxHeartbeats 8000000 in
theorem impl_nearestC (t : Nat → ByteArray) (n : Nat) (a : Option Addr) (cap : Nat) (s : ByteArray) (k most : Int) (B0 : Nat) (w : World) (h : Vals w a (strL t n)) (hn : n ≤ 30) (hts : ∀ i, i < n → (t i).size ≤ 1048576) (hs : s.size ≤ 1048576) (hm : 0 ≤ most) (hbox : w.cell? ⟨B0, 0, none⟩ = some (.string s)) :
    Calls Try.prog 47 #[.slice a n cap, .int .i64 k, .int .i64 most, .func (.func 51) #[] #[.pointer (some ⟨B0, 0, none⟩)]] w fun e w' => ∃ a' cap', e = .returned (.slice a' (askedW (farC s) (fun i => bl (t i)) n k most).length cap') ∧ OwnV 9 1 w' w.heap.size a' (askedW (farC s) (fun i => bl (t i)) n k most).length cap' (strs (askedW (farC s) (fun i => bl (t i)) n k most)) ∧ Below w.heap.size w w' := by
  obtain ⟨i0, hi, ht0, ht1, ht2⟩ := info_parts far_info
  obtain ⟨is, his, hs0, hs1, hs2⟩ := info_parts str_info
  have HN := Lib.hid (strL_length t n)
  have HTS := Lib.hid hts
  have HV := Lib.hid h
  have hB0 := block_lt_of_cell hbox
  have HBX := Lib.hid hbox
  clear hts h hbox
  go_enter Try.func47, Try.ntmps47
  go_wp2_with fail
  go_loopw [9, 18] (fun o i wr => ∃ (m cp ln : Nat) (a' : Option Addr) (L : List Fw), m ≤ n ∧ i = .int .i64 (m : Int) ∧ foundW (farC s) (fun i => bl (t i)) k m = L ∧ L.length = ln ∧ o = .slice a' ln cp ∧ OwnV 95 2 wr w.heap.size a' ln cp (fws L) ∧ Below w.heap.size w wr)
    (fun _ i _ => n - (intOf i).toNat)
  case atStart => exact ⟨0, 0, 0, none, [], by omega, rfl, rfl, rfl, rfl, OwnV.nil _ _, Below.refl _ _⟩
  case round =>
    obtain ⟨m, cp, ln, a', L, hmn, rfl, hL, hln, rfl, hO, hb⟩ := hrel
    have hll : ln ≤ 30 := by have := foundW_len (farC s) (fun i => bl (t i)) k m; rw [hL] at this; omega
    by_cases hlt : m < n
    · obtain ⟨b, off, rfl, hp⟩ := (HV.out.kept hb).at m (by rw [HN.out]; exact hlt)
      have c0 := hp m (by rw [HN.out]; exact hlt)
      rw [strL_at t n m hlt] at c0
      have hsz := HTS.out m hlt
      have hst : foundW (farC s) (fun i => bl (t i)) k (m + 1) = if farC s (bl (t m)) ≤ k then foundW (farC s) (fun i => bl (t i)) k m ++ [⟨farC s (bl (t m)), bl (t m)⟩] else foundW (farC s) (fun i => bl (t i)) k m := rfl
      rw [hL] at hst
      have hbx : wr.cell? ⟨B0, 0, none⟩ = some (.string s) := (hb.cell (p := ⟨B0, 0, none⟩) hB0).trans HBX.out
      obtain ⟨y, hy⟩ : ∃ y, t m = y := ⟨_, rfl⟩
      rw [hy] at c0 hst hsz
      have hfe : farC s (bl y) = startDI s y := by unfold farC; rw [txt_bl]
      obtain ⟨d, hd⟩ : ∃ d, startDI s y = d := ⟨_, rfl⟩
      rw [hfe, hd] at hst
      have HD := Lib.hid hd
      have HO := Lib.hid hO
      have HB := Lib.hid hb
      have HLN := Lib.hid hln
      clear hp hy hd hfe hO hb hL hln
      by_cases hdk : d ≤ k
      · rw [if_pos hdk] at hst
        have HS := Lib.hid hst
        clear hst
        go_wp2_with (first
          | (go_at_call 51; refine (impl_farC s y B0 _ hbx hs hsz).mono ?_; rintro e w4 ⟨rfl, hb4⟩; rw [HD.out]; have HO4 := Lib.hid (HO.out.kept hb4); have HB4 := Lib.hid (HB.out.trans (hb4.mono HB.out.size)); clear hb4; have hB5 : Below w4.heap.size w4 (w4.alloc (.cells #[Value.int .i64 d, .string y] 95)) := (Below.refl _ _).alloc (Nat.le_refl _) _; have HK5 := Lib.hid (HO4.out.kept hB5); have HC5 := Lib.hid (cells_new w4 #[Value.int .i64 d, .string y] 95); have HZ5 := Lib.hid HB4.out.size; have HL5 := Lib.hid (show (fws L ++ [Value.int .i64 d, Value.string y]).length = (ln + 1) * 2 by rw [List.length_append, fws_length, HLN.out]; simp; omega); clear hB5 c0 hbx)
          | (at_builtin; go_must (refine wpList_append_own _ rfl _ _ 93 rfl w.heap.size 95 i0 (.agg #[.int .i64 0, .string ⟨#[]⟩]) 2 24 Try.underlying93 hi ht0 ht1 ht2 rfl (by decide) _ _ _ rfl HK5.out.2 ⟨w4.heap.size, 0, none⟩ 1 1 [Value.int .i64 d, Value.string y] rfl rfl HC5.out (by simp [Value.oneCell']) (by unfold maxLen; omega) (by omega) (by have := HZ5.out; simp; omega) ?_; intro v6 w6 hown6 hg6 _; obtain ⟨a6, cap6, rfl, hO6⟩ := OwnV.shape HL5.out (show w6.ownsRow w.heap.size 95 2 v6 (ln + 1) (fws L ++ [Value.int .i64 d, Value.string y]) by exact hown6); have HO6 := Lib.hid hO6; have HB6 := Lib.hid (HB4.out.trans (((Below.refl _ w4).alloc HZ5.out _).trans (HK5.out.turn (by have := HZ5.out; simp; omega) hg6))); clear hown6 hg6 hO6)))
        go_roundw
        case rel => exact ⟨m + 1, cap6, ln + 1, a6, _, by omega, by go_num, HS.out, by rw [List.length_append, HLN.out]; rfl, rfl, by rw [fws_one]; exact HO6.out, HB6.out⟩
        case measure => simp [intOf]; omega
      · rw [if_neg hdk] at hst
        have HS := Lib.hid hst
        clear hst
        go_wp2_with (go_at_call 51; refine (impl_farC s y B0 _ hbx hs hsz).mono ?_; rintro e w4 ⟨rfl, hb4⟩; rw [HD.out]; have HO4 := Lib.hid (HO.out.kept hb4); have HB4 := Lib.hid (HB.out.trans (hb4.mono HB.out.size)); clear hb4)
        go_roundw
        case rel => exact ⟨m + 1, cp, ln, a', L, by omega, by go_num, HS.out, HLN.out, rfl, HO4.out, HB4.out⟩
        case measure => simp [intOf]; omega
    · obtain rfl : m = n := by omega
      have SC : Calls Try.prog 71 #[.slice a' ln cp, .func (.func 72) #[] #[]] wr fun e w2 => e = .returned (.tuple #[]) ∧ Below w.heap.size w w2 ∧
          Calls Try.prog 74 #[.slice a' ln cp] w2 fun e w3 => ∃ cp3, e = .returned (.slice a' (rankTo (farC s) (fun i => bl (t i)) k m).length cp3) ∧ (rankTo (farC s) (fun i => bl (t i)) k m).length ≤ cp3 ∧ Vals w3 a' (fws (rankTo (farC s) (fun i => bl (t i)) k m)) ∧ Below w.heap.size w w3 := by
        by_cases h0 : ln = 0
        · have hr0 : rankTo (farC s) (fun i => bl (t i)) k m = [] := by
            have hf0 : foundW (farC s) (fun i => bl (t i)) k m = [] := by rw [hL]; exact List.length_eq_zero_iff.1 (by rw [hln]; exact h0)
            refine List.eq_nil_iff_forall_not_mem.2 fun x hx => ?_
            have := ((rankTo_facts (farC s) (fun i => bl (t i)) k m).2.2 x).1 hx
            rw [hf0] at this; cases this
          rw [hr0, h0]
          refine (sl_sortFar_none _ _ _ _).mono ?_
          rintro e w2 ⟨rfl, rfl⟩
          refine ⟨rfl, hb, (sl_compactFar0 _ _ _).mono ?_⟩
          rintro e w3 ⟨rfl, rfl⟩
          exact ⟨_, rfl, Nat.zero_le _, .inl rfl, hb⟩
        · obtain ⟨g, rfl, hg1, hg2⟩ := hO.head 0 (by omega)
          refine (sl_sortFar L g ln cp w.heap.size _ hln hO (by omega)).mono ?_
          rintro e w2 ⟨rfl, S, hperm, hpw, hO2, hgr⟩
          have hb2 := hb.trans (hO.turn hb.size hgr)
          have hSl : S.length = ln := by rw [hperm.length_eq, hln]
          have hcr := comp_rank (farC s) (fun i => bl (t i)) k m (hL ▸ hperm) hpw
          rw [hSl] at hcr
          refine ⟨rfl, hb2, (sl_compactFar S ln g cp w.heap.size _ hSl (by omega) (by omega) hO2).mono ?_⟩
          rintro e w3 ⟨cp3, rfl, hle, hv, hgr3⟩
          rw [hcr] at hv hle ⊢
          exact ⟨cp3, rfl, hle, hv, hb2.trans (hO2.turn hb2.size hgr3)⟩
      have SC := Lib.hid SC
      have hrl : (rankTo (farC s) (fun i => bl (t i)) k m).length ≤ 30 := by have := rankTo_len (farC s) (fun i => bl (t i)) k m; omega
      have HWS := Lib.hid (show ∀ x ∈ rankTo (farC s) (fun i => bl (t i)) k m, (txt x.w).size ≤ 1048576 from fun x hx => by
        obtain ⟨i, hi, _, rfl⟩ := (foundW_iff _ _ _ _ _).1 (((rankTo_facts (farC s) (fun i => bl (t i)) k m).2.2 x).1 hx)
        rw [show (txt (bl (t i))) = t i from txt_bl _]; exact HTS.out i hi)
      have HA := Lib.hid (show askedW (farC s) (fun i => bl (t i)) m k most = ((rankTo (farC s) (fun i => bl (t i)) k m).take most.toNat).map (·.w) from rfl)
      obtain ⟨AN, hAN⟩ : ∃ AN, askedW (farC s) (fun i => bl (t i)) m k most = AN := ⟨_, rfl⟩
      rw [hAN] at HA
      have HAN := Lib.hid hAN
      clear hAN
      generalize rankTo (farC s) (fun i => bl (t i)) k m = R at *
      obtain ⟨rl, hrle⟩ : ∃ rl, R.length = rl := ⟨_, rfl⟩
      rw [hrle] at hrl
      have HRL := Lib.hid hrle
      obtain ⟨c, hcd⟩ : ∃ c, min most.toNat rl = c := ⟨_, rfl⟩
      have hcrl : c ≤ rl := by omega
      have HA2 := Lib.hid (show AN = (R.take c).map (·.w) by rw [HA.out, ← hcd]; congr 1; rw [List.take_eq_take_iff, hrle]; omega)
      have HCL := Lib.hid (show AN.length = c by rw [HA2.out, List.length_map, List.length_take, hrle]; omega)
      have hmin : min most (rl : Int) = (c : Int) := by omega
      clear hL hO hb hln hrle hcd
      go_wp2_with (first
        | (go_at_call 71; refine SC.out.mono ?_; rintro e w2 ⟨rfl, hb2, hcc⟩; have HCC := Lib.hid hcc; clear hcc)
        | (go_at_call 74; refine HCC.out.mono ?_; rintro e w3 ⟨cp3, rfl, hle3, hv3, hb3⟩; rw [HRL.out] at hle3 ⊢; have HV3 := Lib.hid hv3; have HB3 := Lib.hid hb3; have hz3 := hb3.size; clear hv3 hb3))
      have HW2 := Lib.hid (show ∀ j, j < c → AN.getD j [] = (fwAt R j).w from fun j hj => by
        have hj2 : j < R.length := by rw [HRL.out]; omega
        rw [HA2.out]; simp [fwAt, List.getD_eq_getElem?_getD, hj, hj2])
      go_loopw [13, 46] (fun o i wr => ∃ (j cp ln : Nat) (a2 : Option Addr), j ≤ c ∧ i = .int .i64 (j : Int) ∧ j = ln ∧ o = .slice a2 ln cp ∧ OwnV 9 1 wr w3.heap.size a2 ln cp (strs (AN.take j)) ∧ Below w3.heap.size w3 wr)
        (fun _ i _ => c - (intOf i).toNat)
      case atStart => exact ⟨0, 0, 0, none, by omega, rfl, rfl, rfl, OwnV.nil _ _, Below.refl _ _⟩
      case round =>
        obtain ⟨j, cp, ln, a2, hj, rfl, hjl, rfl, hO, hb⟩ := hrel
        by_cases hjc : j < c
        · obtain ⟨b, off, rfl, hp⟩ := (HV3.out.kept hb).at (j * 2) (by rw [fws_length, HRL.out]; omega)
          have c0 := hp (j * 2) (by rw [fws_length, HRL.out]; omega)
          have c1 := hp (j * 2 + 1) (by rw [fws_length, HRL.out]; omega)
          rw [← Nat.add_assoc] at c1
          have hjR : j < R.length := by rw [HRL.out]; omega
          obtain ⟨q0, q1⟩ := fws_at R j hjR
          rw [q0] at c0; rw [q1] at c1
          have hws := HWS.out (fwAt R j) (by unfold fwAt; rw [List.getD_eq_getElem?_getD, List.getElem?_eq_getElem hjR]; exact List.getElem_mem _)
          have hw2 := HW2.out j hjc
          have HTK := Lib.hid (show strs (AN.take (j + 1)) = strs (AN.take j) ++ [Value.string (txt (fwAt R j).w)] by
            have hja : j < AN.length := by rw [HCL.out]; exact hjc
            rw [List.take_succ_eq_append_getElem hja, strs_append, ← hw2, List.getD_eq_getElem?_getD, List.getElem?_eq_getElem hja]; rfl)
          generalize (fwAt R j).d = d at *
          generalize txt (fwAt R j).w = y at *
          have hB1 : Below wr.heap.size wr (wr.alloc (.cells #[Value.int .i64 d, .string y] 95)) := (Below.refl _ _).alloc (Nat.le_refl _) _
          have HB1 := Lib.hid (hb.trans (hB1.mono hb.size))
          have HO1 := Lib.hid (hO.kept hB1)
          have HJL := Lib.hid hjl
          have hbl := block_lt_of_cell c0
          have hz4 := hb.size
          clear hp q0 q1 hw2 hO hB1 hjl hb
          go_wp2_with (first
            | (go_at_call 75; refine (str_clone y _ hws).mono ?_; rintro e w4 ⟨rfl, hb4⟩; have HO4 := Lib.hid (HO1.out.kept hb4); have HB4 := Lib.hid (HB1.out.trans (hb4.mono HB1.out.size)); clear hb4; have hB5 : Below w4.heap.size w4 (w4.alloc (.cells #[Value.string y] 9)) := (Below.refl _ _).alloc (Nat.le_refl _) _; have HK5 := Lib.hid (HO4.out.kept hB5); have HC5 := Lib.hid (cells_new w4 #[Value.string y] 9); have HZ5 := Lib.hid HB4.out.size; have HL5 := Lib.hid (show (strs (AN.take j) ++ [Value.string y]).length = (ln + 1) * 1 by rw [List.length_append, strs_length, List.length_take, HCL.out, ← HJL.out]; simp; omega); clear hB5)
            | (at_builtin; go_must (refine wpList_append_own _ rfl _ _ 35 rfl w3.heap.size 9 is (.string ⟨#[]⟩) 1 16 Try.underlying35 his hs0 hs1 hs2 rfl (by decide) _ _ _ rfl HK5.out.2 ⟨w4.heap.size, 0, none⟩ 1 1 [Value.string y] rfl rfl HC5.out (by simp [Value.oneCell']) (by have := HJL.out; unfold maxLen; omega) (by have := HJL.out; omega) (by have := HZ5.out; simp; omega) ?_; intro v6 w6 hown6 hg6 _; obtain ⟨a6, cap6, rfl, hO6⟩ := OwnV.shape HL5.out (show w6.ownsRow w3.heap.size 9 1 v6 (ln + 1) (strs (AN.take j) ++ [Value.string y]) by exact hown6); have HO6 := Lib.hid hO6; have HB6 := Lib.hid (HB4.out.trans (((Below.refl _ w4).alloc HZ5.out _).trans (HK5.out.turn (by have := HZ5.out; simp; omega) hg6))); clear hown6 hg6 hO6)))
          go_roundw
          case rel => exact ⟨j + 1, cap6, ln + 1, a6, by omega, by go_num, by rw [HJL.out], rfl, by rw [HTK.out]; exact HO6.out, HB6.out⟩
          case measure => simp [intOf]; omega
        · obtain rfl : j = c := by omega
          have HX := Lib.hid (show ln = AN.length ∧ AN.take j = AN from ⟨by rw [HCL.out, hjl], List.take_of_length_le (by rw [HCL.out]; exact Nat.le_refl _)⟩)
          rw [HX.out.2] at hO
          have HO := Lib.hid hO
          have HB := Lib.hid (HB3.out.trans (hb.mono hz3))
          clear hO hb hjl
          go_wp2_with fail
          go_ret
          rw [HAN.out, ← HX.out.1]
          exact ⟨a2, cp, rfl, HO.out.mono hz3, HB.out⟩
set_option maxHeartbeats 2000000 in
theorem impl_askC (t : Nat → ByteArray) (n : Nat) (a : Option Addr) (cap : Nat) (s : ByteArray) (k most : Int) (w : World) (h : Vals w a (strL t n)) (hlen : n ≤ 1048577) (hts : ∀ i, i < n → (t i).size ≤ 1048576) (hs : s.size ≤ 1048576) :
    Calls Try.prog 28 #[.slice a n cap, .string s, .int .i64 k, .int .i64 most] w fun e w' => ∃ a' cap', e = .returned (.slice a' (askVC t n s k most).length cap') ∧ OwnV 9 1 w' w.heap.size a' (askVC t n s k most).length cap' (strs (askVC t n s k most)) ∧ Below w.heap.size w w' := by
  have hB1 : Below w.heap.size w (w.alloc (.cells #[.string s] 9)) := (Below.refl _ _).alloc (Nat.le_refl _) _
  have HV1 := Lib.hid (h.kept hB1)
  have HB1 := Lib.hid hB1
  have HC1 := Lib.hid (show (w.alloc (.cells #[.string s] 9)).cell? ⟨w.heap.size, 0, none⟩ = some (.string s) by simp)
  have HT := Lib.hid (show ∀ i, i < n → (t i).size ≤ 1048577 from fun i hi => by have := hts i hi; omega)
  have HTS := Lib.hid hts
  have hz1 : w.heap.size < (w.alloc (.cells #[.string s] 9)).heap.size := by simp
  have hav : askVC t n s k most = if askB t n s k most = true then askedW (farC s) (fun i => bl (t i)) n k most else [] := rfl
  clear h hB1 hts
  cases hok : askB t n s k most
  · rw [hav, hok, if_neg Bool.false_ne_true]
    have HOK := Lib.hid hok
    clear hok hav
    go_enter Try.func28, Try.ntmps28
    go_wp2_with (go_at_call 46; refine (impl_askOk t n a cap s k most _ HV1.out hlen HT.out hs).mono ?_; rintro e w2 ⟨rfl, hb2⟩; rw [HOK.out]; have HB2 := Lib.hid (HB1.out.trans (hb2.mono (Nat.le_of_lt hz1))); clear hb2)
    go_ret
    exact ⟨none, 0, rfl, OwnV.nil _ _, HB2.out⟩
  · rw [hav, hok, if_pos rfl]
    have HOK := Lib.hid hok
    have hk : n ≤ 30 ∧ 0 ≤ most := by
      unfold askB at hok
      simp only [Bool.and_eq_true, decide_eq_true_eq] at hok
      exact ⟨(wordsOkB_iff.1 hok.1.1).2, hok.2⟩
    obtain ⟨hn, hm⟩ := hk
    clear hok hav
    go_enter Try.func28, Try.ntmps28
    go_wp2_with (first
      | (go_at_call 46; refine (impl_askOk t n a cap s k most _ HV1.out hlen HT.out hs).mono ?_; rintro e w2 ⟨rfl, hb2⟩; rw [HOK.out]; have HV2 := Lib.hid (HV1.out.kept hb2); have HC2 := Lib.hid ((hb2.cell (p := ⟨w.heap.size, 0, none⟩) hz1).trans HC1.out); have HB2 := Lib.hid (HB1.out.trans (hb2.mono (Nat.le_of_lt hz1))); clear hb2)
      | (go_at_call 47; refine (impl_nearestC t n a cap s k most w.heap.size _ HV2.out hn HTS.out hs hm HC2.out).mono ?_; rintro e w3 ⟨a3, cp3, rfl, hO3, hb3⟩; have HO3 := Lib.hid (hO3.mono HB2.out.size); have HB3 := Lib.hid (HB2.out.trans (hb3.mono HB2.out.size)); clear hO3 hb3))
    go_ret
    exact ⟨a3, cp3, rfl, HO3.out, HB3.out⟩
end Go.Proofs.Ytpniiaemgobaiaa

/-
  Chapter 19's model: Completed. (mk_farspec.py)
-/
namespace Go.Proofs.Ytpniiaemgobaiaa
open Go.RowKit
set_option linter.unusedVariables false
theorem OwnV.preC {e m : Nat} {w : World} {B n cap c : Nat} {a : Option Addr} {V : List Value} (h : OwnV e m w B a n cap V) (hne : a ≠ none) (hc : c ≤ n) : OwnV e m w B a c cap (V.take (c * m)) := by
  obtain ⟨hlen, hrow⟩ := h
  have hl : (V.take (c * m)).length = c * m := by rw [List.length_take, hlen]; exact Nat.min_eq_left (Nat.mul_le_mul_right _ hc)
  refine ⟨hl, hl, ?_⟩
  rcases hrow.2 with ⟨hv, _⟩ | ⟨g, cap2, cur, hv, hB, hg, hnc, hcm, hcs, htk⟩
  · simp only [Value.slice.injEq] at hv
    exact absurd hv.1 hne
  · simp only [Value.slice.injEq] at hv
    obtain ⟨rfl, _, rfl⟩ := hv
    refine .inr ⟨g, cap, cur, rfl, hB, hg, Nat.le_trans hc hnc, hcm, hcs, ?_⟩
    rw [← htk, List.take_take, Nat.min_eq_left (Nat.mul_le_mul_right _ hc)]
theorem askVC_len (t : Nat → ByteArray) (n : Nat) (s : ByteArray) (k most : Int) : (askVC t n s k most).length ≤ n := by
  unfold askVC
  split
  · unfold askedW
    rw [List.length_map, List.length_take]
    have := rankTo_len (farC s) (fun i => bl (t i)) k n
    omega
  · simp
set_option maxHeartbeats 8000000 in
theorem spec_allC (t : Nat → ByteArray) (n : Nat) (a : Option Addr) (cap : Nat) (s : ByteArray) (k most : Int) (w : World) (h : Vals w a (strL t n)) (hlen : n ≤ 1048577) (hts : ∀ i, i < n → (t i).size ≤ 1048576) (hs : s.size ≤ 1048576) :
    Calls Try.prog 45 #[.slice a n cap, .string s, .int .i64 k, .int .i64 most, .bool true] w fun e w' => ∃ a' cap', e = .returned (.slice a' (askVC t n s k most).length cap') ∧ OwnV 9 1 w' w.heap.size a' (askVC t n s k most).length cap' (strs (askVC t n s k most)) ∧ Below w.heap.size w w' := by
  have HN := Lib.hid (strL_length t n)
  have HT := Lib.hid (show ∀ i, i < n → (t i).size ≤ 1048577 from fun i hi => by have := hts i hi; omega)
  have HTS := Lib.hid hts
  obtain ⟨w0, hw0⟩ : ∃ w0, (w.alloc (.cells #[] 9)).alloc (.cells #[] 2) = w0 := ⟨_, rfl⟩
  have hB0 : Below w.heap.size w w0 := by rw [← hw0]; exact (by repeat (first | exact Below.refl _ _ | assumption | (refine Below.drew ?_) | (refine below_drewN ?_ _) | (refine Below.alloc ?_ (by first | omega | (simp; done) | (simp; omega)) _) | (refine Below.setCell ?_ (by first | omega | (simp; done) | (simp; omega)) _)))
  have hz0 : w.heap.size ≤ w0.heap.size := hB0.size
  have hO0 : OwnV 9 1 w0 w.heap.size (some ⟨w.heap.size, 0, none⟩) 0 0 (wsF []) := by
    rw [← hw0]
    exact OwnV.kept (show OwnV 9 1 (w.alloc (.cells #[] 9)) w.heap.size (some ⟨w.heap.size, 0, none⟩) 0 0 (wsF []) from ⟨rfl, World.ownsRow_made w #[] 0 (Nat.le_refl _) (by decide) rfl⟩) ((Below.refl _ _).alloc (Nat.le_refl _) _)
  have hF0 : OwnV 2 1 w0 w.heap.size (some ⟨w.heap.size + 1, 0, none⟩) 0 0 (dsF []) := by
    rw [← hw0]
    have := (show OwnV 2 1 ((w.alloc (.cells #[] 9)).alloc (.cells #[] 2)) (w.alloc (.cells #[] 9)).heap.size (some ⟨(w.alloc (.cells #[] 9)).heap.size, 0, none⟩) 0 0 (dsF []) from ⟨rfl, World.ownsRow_made (w.alloc (.cells #[] 9)) #[] 0 (Nat.le_refl _) (by decide) rfl⟩)
    have e : (w.alloc (.cells #[] 9)).heap.size = w.heap.size + 1 := by simp
    rw [e] at this
    exact this.mono (by omega)
  have HV0 := Lib.hid (h.kept hB0)
  have HW0 := Lib.hid hw0
  have HO0 := Lib.hid hO0; have HF0 := Lib.hid hF0; have HB0 := Lib.hid hB0
  clear h hts hO0 hF0 hB0 hw0
  have hav : askVC t n s k most = if askB t n s k most = true then askedW (farC s) (fun i => bl (t i)) n k most else [] := rfl
  cases hok : askB t n s k most
  · rw [hav, hok, if_neg Bool.false_ne_true]
    have FIN := Lib.hid (fun (W : World) (hW : Below w0.heap.size w0 W) => show OwnV 9 1 W w.heap.size (some ⟨w.heap.size, 0, none⟩) 0 0 (strs []) ∧ Below w.heap.size w W from ⟨HO0.out.kept hW, HB0.out.trans (hW.mono hz0)⟩)
    unfold askB nearArgB at hok
    clear hav
    cases h1 : wordsOkB t n
    · have H1 := Lib.hid h1
      clear hok h1
      go_enter Try.func45, Try.ntmps45
      go_wp2_with (go_at_call 65; go_must (rw [HW0.out]; refine (spec_l15Words t n a cap _ HV0.out hlen HT.out).mono ?_; rintro e w1 ⟨rfl, hb1⟩; rw [H1.out]))
      go_ret
      exact ⟨_, 0, rfl, FIN.out _ hb1⟩
    · by_cases h2 : s.size ≤ 20
      · have g2 : decide ((20 : Int) < (s.size : Int)) = false := decide_eq_false (by omega)
        cases h3 : inB k 0 20
        · have H1 := Lib.hid h1; have H3 := Lib.hid h3
          clear hok h1 h3
          go_enter Try.func45, Try.ntmps45
          go_wp2_with (first | (go_at_call 65; rw [HW0.out]; refine (spec_l15Words t n a cap _ HV0.out hlen HT.out).mono ?_; rintro e w1 ⟨rfl, hb1⟩; rw [H1.out]) | (go_at_call 59; refine (spec_l1In _ _ _ _).mono ?_; rintro r w2 ⟨rfl, rfl⟩; rw [H3.out]))
          go_ret
          exact ⟨_, 0, rfl, FIN.out _ hb1⟩
        · have h4 : most < 0 := by
            rw [h1, decide_eq_true h2, h3] at hok
            have : ¬ (0 ≤ most) := by simpa using hok
            omega
          have g4 : decide (most < 0) = true := decide_eq_true h4
          have H1 := Lib.hid h1; have H3 := Lib.hid h3
          clear hok h1 h3
          go_enter Try.func45, Try.ntmps45
          go_wp2_with (first | (go_at_call 65; rw [HW0.out]; refine (spec_l15Words t n a cap _ HV0.out hlen HT.out).mono ?_; rintro e w1 ⟨rfl, hb1⟩; rw [H1.out]) | (go_at_call 59; refine (spec_l1In _ _ _ _).mono ?_; rintro r w2 ⟨rfl, rfl⟩; rw [H3.out]))
          go_ret
          exact ⟨_, 0, rfl, FIN.out _ hb1⟩
      · have g2 : decide ((20 : Int) < (s.size : Int)) = true := decide_eq_true (by omega)
        have H1 := Lib.hid h1
        clear hok h1
        go_enter Try.func45, Try.ntmps45
        go_wp2_with (go_at_call 65; rw [HW0.out]; refine (spec_l15Words t n a cap _ HV0.out hlen HT.out).mono ?_; rintro e w1 ⟨rfl, hb1⟩; rw [H1.out])
        go_ret
        exact ⟨_, 0, rfl, FIN.out _ hb1⟩
  · rw [hav, hok, if_pos rfl]
    unfold askB nearArgB at hok
    simp only [Bool.and_eq_true, decide_eq_true_eq] at hok
    obtain ⟨⟨h1, h2, h3⟩, h4⟩ := hok
    obtain ⟨hw1, hw2⟩ := wordsOkB_iff.1 h1
    have HW := Lib.hid hw1
    have H1 := Lib.hid h1; have H3 := Lib.hid h3
    have g2 : decide ((20 : Int) < (s.size : Int)) = false := decide_eq_false (by omega)
    have g4 : decide (most < 0) = false := decide_eq_false (by omega)
    clear h1 h3 hw1 hav
    go_enter Try.func45, Try.ntmps45
    go_wp2_with (first | (go_at_call 65; rw [HW0.out]; refine (spec_l15Words t n a cap _ HV0.out hlen HT.out).mono ?_; rintro e w1 ⟨rfl, hb1⟩; rw [H1.out]; have HO1 := Lib.hid (HO0.out.kept hb1); have HF1 := Lib.hid (HF0.out.kept hb1); have HV1 := Lib.hid (HV0.out.kept hb1); have HB1 := Lib.hid (HB0.out.trans (hb1.mono hz0)); clear hb1) | (go_at_call 59; refine (spec_l1In _ _ _ _).mono ?_; rintro r w2 ⟨rfl, rfl⟩; rw [H3.out]))
    have hz1 := HB1.out.size
    go_loopw [11, 12, 13] (fun o f i wr => ∃ (m g gf cp cf ln : Nat) (L : List Fw), m ≤ n ∧ i = .int .i64 (m : Int) ∧ rankTo (farC s) (fun i => bl (t i)) k m = L ∧ L.length = ln ∧ o = .slice (some ⟨g, 0, none⟩) ln cp ∧ f = .slice (some ⟨gf, 0, none⟩) ln cf ∧ OwnV 9 1 wr w.heap.size (some ⟨g, 0, none⟩) ln cp (wsF L) ∧ OwnV 2 1 wr w.heap.size (some ⟨gf, 0, none⟩) ln cf (dsF L) ∧ Vals wr a (strL t n) ∧ Below w.heap.size w wr)
      (fun _ _ i _ => n - (intOf i).toNat)
    case atStart => exact ⟨0, _, _, 0, 0, 0, [], by omega, rfl, rfl, rfl, rfl, rfl, HO1.out, HF1.out, HV1.out, HB1.out⟩
    case round =>
      obtain ⟨m, g, gf, cp, cf, ln, L, hm, rfl, hL, hln, rfl, rfl, hO, hF, hV, hb⟩ := hrel
      have hll : ln ≤ 30 := by have := rankTo_len (farC s) (fun i => bl (t i)) k m; rw [hL] at this; omega
      by_cases hlt : m < n
      · obtain ⟨b, off, rfl, hp⟩ := hV.at m (by rw [HN.out]; exact hlt)
        have c0 := hp m (by rw [HN.out]; exact hlt)
        rw [strL_at t n m hlt] at c0
        have hsz := HTS.out m hlt
        have hsw := HW.out m hlt
        have hlb := block_lt_of_cell c0
        have hst : rankTo (farC s) (fun i => bl (t i)) k (m + 1) = if farC s (bl (t m)) ≤ k then rankIn ⟨farC s (bl (t m)), bl (t m)⟩ (rankTo (farC s) (fun i => bl (t i)) k m) else rankTo (farC s) (fun i => bl (t i)) k m := rfl
        rw [hL] at hst
        obtain ⟨y, hy⟩ : ∃ y, t m = y := ⟨_, rfl⟩
        rw [hy] at c0 hst hsz hsw
        have hfe : farC s (bl y) = leastS s y (y.size + 1) := by unfold farC; rw [txt_bl]; exact startDI_yes ⟨by omega, by omega⟩
        obtain ⟨d, hd⟩ : ∃ d, leastS s y (y.size + 1) = d := ⟨_, rfl⟩
        rw [hfe, hd] at hst
        have HD := Lib.hid hd
        have HO := Lib.hid hO; have HF := Lib.hid hF; have HV := Lib.hid hV
        have HB := Lib.hid hb
        have HLN := Lib.hid hln
        clear hp hy hd hfe hO hF hV hb hL hln
        by_cases hdk : d ≤ k
        · rw [if_pos hdk] at hst
          have HS := Lib.hid hst
          clear hst
          go_wp2_with (first
            | (go_at_call 66; refine (spec_distance s y false _ hs hsz).mono ?_; rintro e w2 ⟨rfl, hb2⟩; have hlb2 : b < w2.heap.size := Nat.lt_of_lt_of_le hlb hb2.size; have hc2 := (hb2.cell (p := ⟨b, _, none⟩) hlb).trans c0; have hlb2 : b < w2.heap.size := Nat.lt_of_lt_of_le hlb hb2.size; have HO2 := Lib.hid (HO.out.kept hb2); have HF2 := Lib.hid (HF.out.kept hb2); have HV2 := Lib.hid (HV.out.kept hb2); have HB2 := Lib.hid (HB.out.trans (hb2.mono HB.out.size)); clear hb2)
            | (go_at_call 67; refine (spec_l19Start s y _ (by omega) (by omega)).mono ?_; rintro e w4 ⟨rfl, hb4⟩; rw [HD.out]; have hc4 := (hb4.cell (p := ⟨b, _, none⟩) (by first | exact hlb2 | omega)).trans hc2; have HO4 := Lib.hid (HO2.out.kept hb4); have HF4 := Lib.hid (HF2.out.kept hb4); have HV4 := Lib.hid (HV2.out.kept hb4); have HB4 := Lib.hid (HB2.out.trans (hb4.mono HB2.out.size)); clear hb4)
            | (go_at_call 68; refine (spec_l19Rank y d L g gf ln cp cf w.heap.size _ HLN.out hll HO4.out HF4.out HB4.out.size hsz).mono ?_; rintro e w3 ⟨g3, gf3, cp3, cf3, rfl, hO3, hF3, hb3⟩; have HO3 := Lib.hid hO3; have HF3 := Lib.hid hF3; have HV3 := Lib.hid (HV4.out.kept hb3); have HB3 := Lib.hid (HB4.out.trans (hb3.mono HB4.out.size)); clear hO3 hF3 hb3))
          go_roundw
          case rel => exact ⟨m + 1, g3, gf3, cp3, cf3, _, _, by omega, by go_num, HS.out, rfl, rfl, rfl, HO3.out, HF3.out, HV3.out, HB3.out⟩
          case measure => simp [intOf]; omega
        · rw [if_neg hdk] at hst
          have HS := Lib.hid hst
          clear hst
          go_wp2_with (first
            | (go_at_call 66; refine (spec_distance s y false _ hs hsz).mono ?_; rintro e w2 ⟨rfl, hb2⟩; have hlb2 : b < w2.heap.size := Nat.lt_of_lt_of_le hlb hb2.size; have hc2 := (hb2.cell (p := ⟨b, _, none⟩) hlb).trans c0; have HO2 := Lib.hid (HO.out.kept hb2); have HF2 := Lib.hid (HF.out.kept hb2); have HV2 := Lib.hid (HV.out.kept hb2); have HB2 := Lib.hid (HB.out.trans (hb2.mono HB.out.size)); clear hb2)
            | (go_at_call 67; refine (spec_l19Start s y _ (by omega) (by omega)).mono ?_; rintro e w4 ⟨rfl, hb4⟩; rw [HD.out]; have hc4 := (hb4.cell (p := ⟨b, _, none⟩) (by first | exact hlb2 | omega)).trans hc2; have HO4 := Lib.hid (HO2.out.kept hb4); have HF4 := Lib.hid (HF2.out.kept hb4); have HV4 := Lib.hid (HV2.out.kept hb4); have HB4 := Lib.hid (HB2.out.trans (hb4.mono HB2.out.size)); clear hb4)
            | fail)
          go_roundw
          case rel => exact ⟨m + 1, g, gf, cp, cf, ln, L, by omega, by go_num, HS.out, HLN.out, rfl, rfl, HO4.out, HF4.out, HV4.out, HB4.out⟩
          case measure => simp [intOf]; omega
      · obtain rfl : m = n := by omega
        obtain ⟨c, hcd⟩ : ∃ c, min most.toNat ln = c := ⟨_, rfl⟩
        have hcl : c ≤ ln := by omega
        have hmin : min most (ln : Int) = (c : Int) := by omega
        have HA := Lib.hid (show askedW (farC s) (fun i => bl (t i)) m k most = (L.take c).map (·.w) by unfold askedW; rw [hL, ← hcd]; congr 1; rw [List.take_eq_take_iff, hln]; omega)
        have HCL := Lib.hid (show ((L.take c).map (·.w)).length = c by rw [List.length_map, List.length_take, hln]; omega)
        have hcap := hO.cap_le
        have HO := Lib.hid (show OwnV 9 1 wr w.heap.size (some ⟨g, 0, none⟩) c cp (strs ((L.take c).map (·.w))) by
          have := hO.preC (fun e => by cases e) hcl
          rw [Nat.mul_one] at this
          have e : (wsF L).take c = strs ((L.take c).map (·.w)) := by unfold wsF strs; rw [← List.map_take, ← List.map_take]
          rw [e] at this; exact this)
        have HB := Lib.hid hb
        clear hO hF hV hb hln hL hcd
        go_wp2_with fail
        go_ret
        rw [HA.out, HCL.out]
        exact ⟨_, _, rfl, HO.out, HB.out⟩
theorem spec_askC (t : Nat → ByteArray) (n : Nat) (a : Option Addr) (cap : Nat) (s : ByteArray) (k most : Int) (w : World) (h : Vals w a (strL t n)) (hlen : n ≤ 1048577) (hts : ∀ i, i < n → (t i).size ≤ 1048576) (hs : s.size ≤ 1048576) :
    Calls Try.prog 27 #[.slice a n cap, .string s, .int .i64 k, .int .i64 most] w fun e w' => ∃ a' cap', e = .returned (.slice a' (askVC t n s k most).length cap') ∧ OwnV 9 1 w' w.heap.size a' (askVC t n s k most).length cap' (strs (askVC t n s k most)) ∧ Below w.heap.size w w' := by
  go_enter Try.func27, Try.ntmps27
  go_wp2_with (go_at_call 45; refine (spec_allC t n a cap s k most _ h hlen hts hs).mono ?_; rintro e w1 ⟨a1, cp1, rfl, hO1, hb1⟩)
  go_ret
  exact ⟨_, _, rfl, hO1, hb1⟩
end Go.Proofs.Ytpniiaemgobaiaa

/-
  FnExactCompleted: the walk (by wip/tools/mk_farspec.py, out of XNearByL).
-/
namespace Go.Proofs.Ytpniiaemgobaiaa
open Go.RowKit
set_option linter.unusedVariables false
theorem OwnV.apart {e m : Nat} {w w1 : World} {B : Nat} {a : Option Addr} {n cap : Nat} {V : List Value} {row : Option Nat} (h : OwnV e m w B a n cap V) (hg : w.grownBy w1 row) (hne : ∀ k, (Value.slice a n cap).ownBlock = some k → row ≠ some k) : OwnV e m w1 B a n cap V :=
  ⟨h.1, h.2.kept hg (by
    cases hv : (Value.slice a n cap).ownBlock with
    | none => exact .inl rfl
    | some k => exact .inr fun e2 => hne k hv e2.symm)⟩
set_option maxHeartbeats 8000000 in
theorem law_FnExactCompleted (t : Nat → ByteArray) (n : Nat) (a : Option Addr) (cap : Nat) (hm : n ≤ maxLen) (hts : ∀ i, i < n → (t i).size ≤ maxLen) (s : ByteArray) (hs : s.size ≤ maxLen) (k : Int) (_wk : (Lit.int .i64 k).wf = true) (q : Int) (_wq : (Lit.int .i64 q).wf = true) (w : World) (h : Vals w a (strL t n)) :
    Calls Try.prog 7 #[.slice a n cap, .string s, .int .i64 k, .int .i64 q] w fun e w' => e = .returned (.bool true) ∧ Below w.heap.size w w' := by
  unfold maxLen at hm hts hs
  have HT := Lib.hid hts
  have HV := Lib.hid h
  clear hts h
  by_cases hsl : s.size ≤ 1048576
  · have hrd : ¬ (1048576 : Int) < (s.size : Int) := by omega
    go_enter Try.func7, Try.ntmps7
    go_wp2_with fail
    refine (laws_szStringS t n a cap _ _ HV.out (by omega) (fun i hi => by have := HT.out i hi; omega) (by omega) (by omega)).mono ?_
    rintro e w1 ⟨r, rfl, hr, hb1⟩
    rcases hr with rfl | ⟨hr0, hr1, hr2, hr3⟩
    · go_wp2_with fail
      go_ret
      exact ⟨rfl, hb1⟩
    · have hn : n ≤ 1048576 := by omega
      have HS := Lib.hid (fun i (hi : i < n) => show (t i).size ≤ 1048576 by have := hr3 i hi; omega)
      have hl1 := askVC_len t n s k q
      have hst := strs_strL (askVC t n s k q)
      have HSP := fun a' cap' W (hv : Vals W a' (strL t n)) => spec_askC t n a' cap' s k q W hv (by omega) HS.out hsl
      have HI := fun a' cap' W (hv : Vals W a' (strL t n)) => impl_askC t n a' cap' s k q W hv (by omega) HS.out hsl
      generalize askVC t n s k q = L at hl1 hst HSP HI
      obtain ⟨u, hu⟩ : ∃ u : Nat → ByteArray, (fun i => txt (L.getD i [])) = u := ⟨_, rfl⟩
      obtain ⟨N, hN⟩ : ∃ N, L.length = N := ⟨_, rfl⟩
      rw [hu, hN] at hst
      rw [hst] at HSP HI
      rw [hN] at HSP HI hl1
      have HSP := Lib.hid HSP; have HI := Lib.hid HI
      have hN2 : N ≤ 1048576 := by omega
      have e1 : ((1 : Int) + (N : Int) != 1 + (N : Int)) = false := by simp
      have e3 : decide ((1 : Int) + (n : Int) < 0) = false := decide_eq_false (by omega)
      have e4 : decide ((1 : Int) + (N : Int) < 0) = false := decide_eq_false (by omega)
      have HB := hb1
      clear hst hu hN hr3 hr2 hb1
      go_wp2_with fail
      refine (laws_toStringS t n a cap _ (HV.out.kept HB) (by omega)).mono ?_
      rintro e w2 ⟨rfl, hO2, hb2⟩
      replace HB := below_step HB hb2
      clear hb2
      go_wp2_with fail
      refine (HSP.out _ _ _ hO2.vals).mono ?_
      rintro e w3 ⟨a3, cap3, rfl, hW, hb3⟩
      have hW3 := hW.turn_lt
      replace HB := below_step HB hb3
      clear hb3
      clear hO2
      go_wp2_with fail
      refine (laws_toStringS t n a cap _ (HV.out.kept HB) (by omega)).mono ?_
      rintro e w4 ⟨rfl, hX, hb4⟩
      have hx4 : w3.heap.size < w4.heap.size := hX.turn_lt _ rfl
      have hz3 := HB.size
      replace HB := below_step HB hb4
      replace hW := hW.kept hb4
      clear hb4
      go_wp2_with fail
      refine (HI.out _ _ _ hX.vals).mono ?_
      rintro e w5 ⟨a5, cap5, rfl, hG, hb5⟩
      have hG5 : ∀ j, (Value.slice a5 N cap5).ownBlock = some j → w4.heap.size ≤ j := fun j hj => (hG.2.lt j hj).1
      have hz5 := hb5.size
      replace HB := below_step HB hb5
      replace hW := hW.kept hb5
      replace hX := hX.kept hb5
      clear hb5
      go_wp2_with fail
      refine (laws_eqStringS u _ _ N _ _ _ hG.vals hW.vals (by omega)).mono ?_
      rintro e w6 ⟨rfl, hb6⟩
      have hz6 := hb6.size
      replace HB := below_step HB hb6
      replace hW := hW.kept hb6
      replace hX := hX.kept hb6
      replace hG := hG.kept hb6
      clear hb6
      go_wp2_with fail
      refine (laws_toStringS t n a cap _ (HV.out.kept HB) (by omega)).mono ?_
      rintro e w7 ⟨rfl, hO7, hb7⟩
      have hz7 := hb7.size
      replace HB := below_step HB hb7
      replace hW := hW.kept hb7
      replace hX := hX.kept hb7
      replace hG := hG.kept hb7
      clear hb7
      go_wp2_with fail
      refine (laws_eqStringS t _ _ n _ _ _ hX.vals hO7.vals (by omega)).mono ?_
      rintro e w8 ⟨rfl, hb8⟩
      have hz8 := hb8.size
      replace HB := below_step HB hb8
      replace hW := hW.kept hb8
      replace hX := hX.kept hb8
      replace hG := hG.kept hb8
      clear hb8
      clear hO7
      go_wp2_with fail
      refine (laws_markStringS t _ n _ _ _ _ hX (by omega) (by omega) (by omega)).mono ?_
      rintro e w9 ⟨rfl, _, hg9⟩
      have hb9 : Below w4.heap.size w4 w4 := Below.refl _ _
      have hz9 := hg9.size
      replace HB := HB.trans ((hX.turn (by omega) hg9).mono (show w.heap.size ≤ w3.heap.size from hz3))
      replace hW := hW.apart hg9 (fun j hj e => by have e5 : w3.heap.size = j := Option.some.inj e; have := hW3 _ hj; omega)
      replace hG := hG.apart hg9 (fun j hj e => by have e5 : w3.heap.size = j := Option.some.inj e; have := hG5 _ hj; omega)
      clear hX hg9 hb9
      go_wp2_with fail
      refine (laws_eqStringS u _ _ N _ _ _ hG.vals hW.vals (by omega)).mono ?_
      rintro e w10 ⟨rfl, hb10⟩
      have hz10 := hb10.size
      replace HB := below_step HB hb10
      replace hW := hW.kept hb10
      replace hG := hG.kept hb10
      clear hb10
      go_wp2_with fail
      refine (laws_markStringS u _ N _ _ _ _ hG (by omega) (by omega) (by omega)).mono ?_
      rintro e w11 ⟨rfl, hM, hg11⟩
      replace HB := HB.trans ((hG.turn (by omega) hg11).mono (show w.heap.size ≤ w4.heap.size by omega))
      replace hW := hW.apart hg11 (fun j hj e => by have := hW3 _ hj; have := hG5 _ e; omega)
      clear hG hg11
      go_wp2_with fail
      refine (laws_heldStringS u _ N _ _ _ hM.vals (by omega) (by omega) (by omega)).mono ?_
      rintro e w12 ⟨rfl, hb12⟩
      replace HB := below_step HB hb12
      replace hW := hW.kept hb12
      replace hM := hM.kept hb12
      clear hb12
      go_wp2_with fail
      refine (laws_toStringS t n a cap _ (HV.out.kept HB) (by omega)).mono ?_
      rintro e w13 ⟨rfl, hO13, hb13⟩
      replace HB := below_step HB hb13
      replace hW := hW.kept hb13
      replace hM := hM.kept hb13
      clear hb13
      go_wp2_with fail
      refine (HI.out _ _ _ hO13.vals).mono ?_
      rintro e w14 ⟨a14, cap14, rfl, hH, hb14⟩
      replace HB := below_step HB hb14
      replace hW := hW.kept hb14
      replace hM := hM.kept hb14
      clear hb14
      clear hO13
      go_wp2_with fail
      refine (laws_eqStringS u _ _ N _ _ _ hH.vals hW.vals (by omega)).mono ?_
      rintro e w15 ⟨rfl, hb15⟩
      replace HB := below_step HB hb15
      replace hM := hM.kept hb15
      clear hb15
      go_wp2_with fail
      refine (laws_heldStringS u _ N _ _ _ hM.vals (by omega) (by omega) (by omega)).mono ?_
      rintro e w16 ⟨rfl, hb16⟩
      replace HB := below_step HB hb16
      clear hb16
      go_wp2_with fail
      go_ret
      exact ⟨rfl, HB⟩
  · have hrd : (1048576 : Int) < (s.size : Int) := by omega
    go_enter Try.func7, Try.ntmps7
    go_wp2_with fail
    go_ret
    exact ⟨rfl, (by repeat (first | exact Below.refl _ _ | assumption | (refine Below.drew ?_) | (refine below_drewN ?_ _) | (refine Below.alloc ?_ (by first | omega | (simp; done) | (simp; omega)) _) | (refine Below.setCell ?_ (by first | omega | (simp; done) | (simp; omega)) _)))⟩
end Go.Proofs.Ytpniiaemgobaiaa


/-
  Chapter 17: Leftmost in the program.
-/
import Derived.Test.YtpniiaemgobaiacLeftS
namespace Go.Proofs.Ytpniiaemgobaiac
open Go.RowKit Go.Sort Go.Shelf
set_option linter.unusedVariables false
set_option maxRecDepth 100000
theorem insF_is (l : List Fd) (n : Nat) (hl : l.length = n) : (Sort.insertionSort (ltOf cfF) l.toArray 0 n).toList = orderF l := by
  have h := insSort_list ltF l.toArray
  rw [ltOf_cfF]
  have e : l.toArray.size = n := by simpa using hl
  rw [e] at h
  exact h
set_option maxHeartbeats 1000000 in
theorem sl_sortStable (l : List Fd) (g n cap B : Nat) (w : World) (hl : l.length = n) (hn : n ≤ 20) (hO : OwnM 30 3 w B (some ⟨g, 0, none⟩) n cap (fdI l)) :
    Calls Try.prog 43 #[.slice (some ⟨g, 0, none⟩) n cap, .func (.func 44) #[] #[]] w fun e w' => e = .returned (.tuple #[]) ∧ OwnM 30 3 w' B (some ⟨g, 0, none⟩) n cap (fdI (orderF l)) ∧ w.grownBy w' (some g) := by
  obtain ⟨hlen, hrow⟩ := hO
  rcases hrow.2 with ⟨hv, _⟩ | ⟨g2, cap2, cur, hv, hB, hg, hnc, hcm, hcs, htk⟩
  · cases hv
  simp only [Value.slice.injEq, Option.some.injEq, Addr.mk.injEq] at hv
  obtain ⟨⟨rfl, _⟩, _, rfl⟩ := hv
  have hH : HoldsK encF 3 w g 0 l.toArray := by
    unfold HoldsK
    rw [flat_fdI]
    intro j hj
    have hj' : j < (fdI l).length := by simpa using hj
    have hc : w.cell? ⟨g, j, none⟩ = some (.int .i64 (intAt (fdI l) j)) := OwnM.cell ⟨hlen, hrow⟩ j (by rw [fdI_length] at hj'; omega)
    refine ⟨?_, ?_⟩
    · rw [Nat.zero_add, hc, getElem!_pos _ j (by simpa using hj')]
      simp [intAt, List.getD_eq_getElem?_getD, hj']
    · rw [Nat.zero_add]; exact hrow.frozenAt j
  have hgl : g < w.heap.size := (Array.getElem?_eq_some_iff.1 hg).1
  have R : RowK encF 3 w g 0 l.toArray := ⟨fun _ => rfl, fun x v hv => by simp [encF] at hv; rcases hv with rfl | rfl | rfl <;> rfl, hH, hgl⟩
  have FIN : ∀ w', SWK encF 3 w g 0 (Sort.insertionSort (ltOf cfF) l.toArray 0 n) w' → OwnM 30 3 w' B (some ⟨g, 0, none⟩) n cap (fdI (orderF l)) ∧ w.grownBy w' (some g) := by
    rintro w' ⟨m, os, rfl⟩
    have hd : flatK encF 3 (Sort.insertionSort (ltOf cfF) l.toArray 0 n) = ((fdI (orderF l)).map (Value.int .i64)).toArray := by
      have := flat_fdI (Sort.insertionSort (ltOf cfF) l.toArray 0 n).toList
      rw [insF_is l n hl] at this
      rw [← this, ← insF_is l n hl]
    have hol : (orderF l).length = n := by rw [(orderF_perm l).length_eq, hl]
    have hdl : (fdI (orderF l)).length = n * 3 := by rw [fdI_length, hol]
    unfold sortWorldK putRowK
    rw [hd]
    refine ⟨⟨hdl, by simp [hdl], .inr ⟨g, cap, _, rfl, hB, heap_put _ hg, hnc, hcm, by simp [putCells, hcs], ?_⟩⟩, grown_put _⟩
    have h3 : ((fdI (orderF l)).map (Value.int .i64)).length = n * 3 := by simp [hdl]
    rw [← h3]
    exact take_put cur _ (by rw [h3, hcs]; exact Nat.mul_le_mul_right _ hnc)
  have FIN := Lib.hid FIN
  have HIN := Lib.hid (sl_stableIn l g n cap w hl hn R)
  clear R hgl hH hg hlen hrow hcs htk hnc hcm hB hl
  go_enter Try.func43, Try.ntmps43
  go_wp2_with fail
  refine HIN.out.mono ?_
  rintro e w' ⟨rfl, hS⟩
  have HS := Lib.hid hS
  clear hS
  go_wp2
  refine bodyPost_end (results_none rfl _ _ _) rfl ⟨rfl, FIN.out _ HS.out⟩
theorem sl_ins0 (p : Option Addr) (cap : Nat) (fv : Value) (w : World) :
    Calls Try.prog 114 #[.slice p 0 cap, .int .i64 0, .int .i64 0, fv] w fun e w' => e = .returned (.tuple #[]) ∧ w' = w := by
  go_enter Try.func114, Try.ntmps114
  go_wp2
  go_loopw [8] (fun i wr => i = .int .i64 1 ∧ wr = w) (fun _ _ => 0)
  case atStart => exact ⟨rfl, rfl⟩
  case round =>
    obtain ⟨rfl, rfl⟩ := hrel
    go_wp2
    exact bodyPost_end (results_none rfl _ _ _) rfl ⟨rfl, rfl⟩
theorem sl_stable0 (p : Option Addr) (cap : Nat) (fv : Value) (w : World) :
    Calls Try.prog 80 #[.slice p 0 cap, .int .i64 0, fv] w fun e w' => e = .returned (.tuple #[]) ∧ w' = w := by
  go_enter Try.func80, Try.ntmps80
  go_wp2
  go_loopw [7, 8] (fun a i wr => a = .int .i64 0 ∧ i = .int .i64 20 ∧ wr = w) (fun _ _ _ => 0)
  case atStart => exact ⟨rfl, rfl, rfl⟩
  case round =>
    obtain ⟨rfl, rfl, hw⟩ := hrel
    subst hw
    go_wp2_with fail
    refine (sl_ins0 p cap fv _).mono ?_
    rintro e w1 ⟨rfl, hw⟩
    subst hw
    go_wp2_with fail
    go_loopw [6, 7, 8, 9] (fun x _ _ _ wr => x = .int .i64 20 ∧ wr = w1) (fun _ _ _ _ _ => 0)
    case atStart => exact ⟨rfl, rfl⟩
    case round =>
      obtain ⟨rfl, rfl⟩ := hrel
      go_wp2
      exact bodyPost_end (results_none rfl _ _ _) rfl ⟨rfl, rfl⟩
theorem sl_sort0 (p : Option Addr) (cap : Nat) (fv : Value) (w : World) :
    Calls Try.prog 43 #[.slice p 0 cap, fv] w fun e w' => e = .returned (.tuple #[]) ∧ w' = w := by
  go_enter Try.func43, Try.ntmps43
  go_wp2_with fail
  refine (sl_stable0 p cap fv _).mono ?_
  rintro e w1 ⟨rfl, hw⟩
  subst hw
  go_wp2
  exact bodyPost_end (results_none rfl _ _ _) rfl ⟨rfl, rfl⟩
set_option maxHeartbeats 1000000 in
theorem sl_cloneFound (L : List Int) (a : Option Addr) (n cap : Nat) (w : World) (hn : L.length = n * 3) (h : Ints w a L) (hlen : n ≤ 1048576) :
    Calls Try.prog 42 #[.slice a n cap] w fun e w' => ∃ a' cap', e = .returned (.slice a' n cap') ∧ OwnM 30 3 w' w.heap.size a' n cap' L ∧ Below w.heap.size w w' := by
  obtain ⟨i0, hi, ht0, ht1, ht2⟩ := info_parts found_info
  cases a with
  | none =>
    have hL : L = [] := by
      rcases h with h | ⟨b, off, e, _⟩
      · exact h
      · cases e
    subst hL
    obtain rfl : n = 0 := by simp at hn; omega
    have EQ : ∀ W : World, (binOp BinOp.eql 24 (.slice none 0 cap) (Value.slice none 0 0)).run Try.prog W = Result.ok (Value.bool true) W := fun W => rfl
    go_enter Try.func42, Try.ntmps42
    go_wp2
    go_ret
    exact ⟨_, _, rfl, OwnM.nil _ _, (by repeat (first | exact Below.refl _ _ | assumption | (refine Below.drew ?_) | (refine below_drewN ?_ _) | (refine Below.alloc ?_ (by first | omega | (simp; done) | (simp; omega)) _) | (refine Below.setCell ?_ (by first | omega | (simp; done) | (simp; omega)) _)))⟩
  | some ad =>
    have hnews := Lib.hid (show News (w.alloc (.cells #[] 30)) (some ad) (L.map (Value.int .i64)) from (h.kept ((Below.refl _ w).alloc (Nat.le_refl _) _)).vals.news)
    have hone := Lib.hid (ints_oneCell .i64 L)
    have HL2 := Lib.hid (show (L.map (Value.int .i64)).length = n * 3 by rw [List.length_map, hn])
    have HN := Lib.hid hn
    clear hn
    have EQ : ∀ W : World, (binOp BinOp.eql 24 (.slice (some ad) n cap) (Value.slice none 0 0)).run Try.prog W = Result.ok (Value.bool false) W := fun W => rfl
    go_enter Try.func42, Try.ntmps42
    go_wp2_with (at_builtin; refine wpList_append_vals rfl _ _ 24 rfl w.heap.size 30 i0 (.agg #[.int .i64 0, .int .i64 0, .int .i64 0]) 3 24 Try.underlying24 hi ht0 ht1 ht2 rfl (by decide) _ _ _ rfl (World.ownsRow_made w #[] 0 (Nat.le_refl _) (by decide) rfl) (some ad) n cap (L.map (Value.int .i64)) rfl HL2.out hnews.out hone.out (by unfold maxLen; omega) (by omega) (by simp) ?_; intro v' w1 hown' hg)
    have hown2 : w1.ownsRow w.heap.size 30 3 v' n (L.map (Value.int .i64)) := by simpa using hown'
    obtain ⟨a', cap', rfl, hO⟩ := OwnM.shape HN.out hown2
    go_wp2
    go_ret
    exact ⟨_, _, rfl, hO, ((Below.refl _ w).alloc (Nat.le_refl _) _).grown hg (by simp) (fun q hq => by cases hq; exact Nat.le_refl _)⟩
theorem passF_drop (S : List Fd) (k : Nat) (e : Int) (h : k < S.length) : passF (S.drop k) e = if e ≤ (fdAt S k).f then fdAt S k :: passF (S.drop (k + 1)) (fdAt S k).t else passF (S.drop (k + 1)) e := by
  rw [fdAt_drop S k h, passF]
set_option maxHeartbeats 8000000 in
theorem impl_leftmost (l : List Fd) (n : Nat) (a : Option Addr) (cap : Nat) (w : World) (hl : l.length = n) (h : Ints w a (fdI l)) (hlen : n ≤ 1048576) :
    Calls Try.prog 11 #[.slice a n cap] w fun e w' => ∃ a' cap', e = .returned (.slice a' (leftV l).length cap') ∧ OwnM 30 3 w' w.heap.size a' (leftV l).length cap' (fdI (leftV l)) ∧ Below w.heap.size w w' := by
  obtain ⟨i0, hi, ht0, ht1, ht2⟩ := info_parts found_info
  have HF := Lib.hid (show (fdI l).length = n * 3 by rw [fdI_length, hl])
  have HL := Lib.hid hl
  have hV : leftV l = if foundOkB (fdI l) l.length = true then leftF l else [] := rfl
  have hfine := found_fine l
  rw [hl] at hV hfine
  obtain ⟨ok, hok⟩ : ∃ ok, foundOkB (fdI l) n = ok := ⟨_, rfl⟩
  rw [hok] at hV hfine
  have HOK := Lib.hid hok
  have HH := Lib.hid h
  clear hl hok h
  cases ok
  · have HV := Lib.hid (show leftV l = [] from hV)
    clear hV hfine
    go_enter Try.func11, Try.ntmps11
    go_wp2_with (go_at_call 15; refine (impl_foundOk (fdI l) n a cap _ HF.out HH.out (by omega)).mono ?_; rintro e w1 ⟨rfl, hb1⟩; rw [HOK.out])
    go_ret
    rw [HV.out]
    exact ⟨none, 0, rfl, OwnM.nil _ _, hb1⟩
  · have HV := Lib.hid (show leftV l = passF (orderF l) 0 from hV)
    obtain ⟨hf, hn20⟩ := hfine.1 rfl
    have hol : (orderF l).length = n := by rw [(orderF_perm l).length_eq, HL.out]
    obtain ⟨S, hS⟩ : ∃ S, orderF l = S := ⟨_, rfl⟩
    have HSS := Lib.hid hS
    rw [hS] at hol HV
    have HSL := Lib.hid hol
    have HSF := Lib.hid (show (fdI S).length = n * 3 by rw [fdI_length, hol])
    clear hV hfine hol hS hf
    go_enter Try.func11, Try.ntmps11
    go_wp2_with (go_at_call 15; refine (impl_foundOk (fdI l) n a cap _ HF.out HH.out (by omega)).mono ?_; rintro e w1 ⟨rfl, hb1⟩; rw [HOK.out])
    refine (sl_cloneFound (fdI l) a n cap _ HF.out (HH.out.kept hb1) (by omega)).mono ?_
    rintro e w2 ⟨a2, c2, rfl, hO2, hb2⟩
    have hB2 := below_step hb1 hb2
    have hz2 : w.heap.size ≤ w1.heap.size := hb1.size
    replace hO2 := hO2.mono (C := w.heap.size) hz2
    have HO2 := Lib.hid hO2; have HB2 := Lib.hid hB2
    clear hb1 hb2 hO2 hB2
    go_wp2_with fail
    have SORT : Calls Try.prog 43 #[.slice a2 n c2, .func (.func 44) #[] #[]] w2 fun e w' => e = .returned (.tuple #[]) ∧ OwnM 30 3 w' w.heap.size a2 n c2 (fdI S) ∧ Below w.heap.size w w' := by
      by_cases hn0 : n = 0
      · subst hn0
        have hS0 : S = [] := List.eq_nil_of_length_eq_zero HSL.out
        have hl0 : l = [] := List.eq_nil_of_length_eq_zero HL.out
        have HO := HO2.out
        rw [hl0] at HO
        rw [hS0]
        exact (sl_sort0 a2 c2 _ w2).mono fun e w' ⟨he, hw⟩ => ⟨he, by rw [hw]; exact HO, by rw [hw]; exact HB2.out⟩
      · obtain ⟨g, rfl, hg1, hg2⟩ := HO2.out.head 0 (by omega)
        refine (sl_sortStable l g n c2 _ w2 HL.out hn20 HO2.out).mono fun e w' ⟨he, hO, hg⟩ => ⟨he, by rw [← HSS.out]; exact hO, HB2.out.grown hg HB2.out.size (fun q hq => by cases hq; omega)⟩
    refine SORT.mono ?_
    rintro e w3 ⟨rfl, hO3, hB3⟩
    have HO3 := Lib.hid hO3; have HB3 := Lib.hid hB3
    clear hO3 hB3 SORT HO2 HB2
    go_wp2_with fail
    go_loopw [4, 5, 7, 17] (fun c e _ i wr => ∃ (k m cp : Nat) (a' : Option Addr) (e0 : Int) (out : List Fd), k ≤ n ∧ i = .int .i64 (k : Int) ∧ e = .int .i64 e0 ∧ c = .slice a' m cp ∧ out.length = m ∧ m ≤ k ∧ OwnM 30 3 wr w3.heap.size a' m cp (fdI out) ∧ passF S 0 = out ++ passF (S.drop k) e0 ∧ Below w3.heap.size w3 wr)
      (fun _ _ _ i _ => n - (intOf i).toNat)
    case atStart => exact ⟨0, 0, 0, none, 0, [], by omega, rfl, rfl, rfl, rfl, by omega, OwnM.nil _ _, rfl, Below.refl _ _⟩
    case round =>
      obtain ⟨k, m, cp, a', e0, out, hk, rfl, rfl, rfl, hm, hmk, hO, hp, hb⟩ := hrel
      have HM := Lib.hid hm; have HO := Lib.hid hO; have HB := Lib.hid hb
      have hzb : w3.heap.size ≤ wr.heap.size := hb.size
      clear hm hO
      by_cases hlt : k < n
      · obtain ⟨b, off, rfl, hq⟩ := (HO3.out.ints.kept hb).at (k * 3) (by rw [HSF.out]; omega)
        have c0 := hq (k * 3) (by rw [HSF.out]; omega)
        have c1 := hq (k * 3 + 1) (by rw [HSF.out]; omega)
        have c2 := hq (k * 3 + 2) (by rw [HSF.out]; omega)
        rw [← Nat.add_assoc] at c1 c2
        obtain ⟨q0, q1, q2⟩ := fdI_at S k (by rw [HSL.out]; exact hlt)
        rw [q0] at c0; rw [q1] at c1; rw [q2] at c2
        have hpd := passF_drop S k e0 (by rw [HSL.out]; exact hlt)
        rw [hpd] at hp
        obtain ⟨x, hx⟩ : ∃ x, fdAt S k = x := ⟨_, rfl⟩
        rw [hx] at hp c0 c1 c2
        obtain ⟨f, t, v⟩ := x
        simp only at c0 c1 c2
        have hlb := block_lt_of_cell c0
        by_cases he : e0 ≤ f
        · have HP := Lib.hid (show passF S 0 = out ++ (⟨f, t, v⟩ :: passF (S.drop (k + 1)) t) by rw [hp, if_pos (show e0 ≤ (⟨f, t, v⟩ : Fd).f from he)])
          clear hp hpd hq q0 q1 q2 hx hb
          have HC : ∀ j u, [Value.int .i64 f, .int .i64 t, .int .i64 v][j]? = some u → ((wr.alloc (.cells #[.int .i64 f, .int .i64 t, .int .i64 v] 30)).alloc (.cells #[.int .i64 f, .int .i64 t, .int .i64 v] 30)).cell? ((⟨wr.heap.size + 1, 0, none⟩ : Addr).add j) = some u := by
            have := cells_new (wr.alloc (.cells #[.int .i64 f, .int .i64 t, .int .i64 v] 30)) #[.int .i64 f, .int .i64 t, .int .i64 v] 30
            simpa using this
          have hbz : Below wr.heap.size wr ((wr.alloc (.cells #[.int .i64 f, .int .i64 t, .int .i64 v] 30)).alloc (.cells #[.int .i64 f, .int .i64 t, .int .i64 v] 30)) := ((Below.refl _ _).alloc (Nat.le_refl _) _).alloc (by simp) _
          have hra := heap_alloc2_old wr (.cells #[.int .i64 f, .int .i64 t, .int .i64 v] 30) (.cells #[.int .i64 f, .int .i64 t, .int .i64 v] 30)
          have HTL := Lib.hid HO.out.turn_lt
          have HK := Lib.hid (HO.out.kept hbz)
          have HBZ := Lib.hid (HB.out.trans (hbz.mono HB.out.size))
          have HRL := Lib.hid (show (fdI (out ++ [⟨f, t, v⟩])).length = (m + 1) * 3 by rw [fdI_length, List.length_append, HM.out]; rfl)
          have HR := Lib.hid (show fdI (out ++ [⟨f, t, v⟩]) = fdI out ++ [f, t, v] from fdI_append _ _)
          have HRA := Lib.hid hra
          have HCC := Lib.hid HC
          clear hbz HO hra HC
          go_wp2_with (at_builtin; refine wpList_append_own _ rfl _ _ 24 rfl w3.heap.size 30 i0 (.agg #[.int .i64 0, .int .i64 0, .int .i64 0]) 3 24 Try.underlying24 hi ht0 ht1 ht2 rfl (by decide) _ _ _ rfl HK.out.2 ⟨wr.heap.size + 1, 0, none⟩ 1 1 [.int .i64 f, .int .i64 t, .int .i64 v] rfl rfl HCC.out (by simp [Value.oneCell']) (by unfold maxLen; omega) (by omega) (by simp; omega) ?_; intro v' w4 hown' hg _; obtain ⟨a4, cap4, rfl, hO'⟩ := OwnM.shape HRL.out (by rw [HR.out, List.map_append]; exact hown'); replace hg : World.grownBy _ w4 (Value.slice a' m cp).ownBlock := hg; have hrow := (hg.block wr.heap.size (by simp; omega) (fun e => by have := HTL.out _ e.symm; omega)).trans HRA.out; have c5 : w4.cell? ⟨wr.heap.size, 1, none⟩ = some (.int .i64 t) := (by rw [cell_of_row _ _ 1 _ _ _ hrow]; rfl); have HO4 := Lib.hid hO'; have HB4 := Lib.hid (HK.out.turn (by simp; omega) hg); clear hown' hg hO' hrow)
          go_roundw
          case rel => exact ⟨k + 1, m + 1, cap4, a4, t, out ++ [⟨f, t, v⟩], by omega, by go_num, rfl, rfl, by rw [List.length_append, HM.out]; rfl, by omega, HO4.out, by rw [HP.out]; simp, HBZ.out.trans HB4.out⟩
          case measure => simp [intOf]; omega
        · have HP := Lib.hid (show passF S 0 = out ++ passF (S.drop (k + 1)) e0 by rw [hp, if_neg (show ¬ e0 ≤ (⟨f, t, v⟩ : Fd).f from he)])
          clear hp hpd hq q0 q1 q2 hx hb
          go_wp2_with fail
          go_roundw
          case rel => exact ⟨k + 1, m, cp, a', e0, out, by omega, by go_num, rfl, rfl, HM.out, by omega, HO.out.kept ((Below.refl _ _).alloc (Nat.le_refl _) _), HP.out, HB.out.alloc HB.out.size _⟩
          case measure => simp [intOf]; omega
      · obtain rfl : k = n := by omega
        have HP := Lib.hid (show passF S 0 = out by rw [hp, List.drop_eq_nil_of_le (by rw [HSL.out]; exact Nat.le_refl _)]; simp [passF])
        have HBF := Lib.hid (HB3.out.trans (hb.mono HB3.out.size))
        clear hp hb
        go_wp2_with fail
        go_ret
        rw [HV.out, HP.out, HM.out]
        exact ⟨_, _, rfl, HO.out.mono HB3.out.size, HBF.out⟩
end Go.Proofs.Ytpniiaemgobaiac

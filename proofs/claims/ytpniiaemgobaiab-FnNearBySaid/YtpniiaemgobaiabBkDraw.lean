/-
  Chapter 15: what the drawers of trees, and of what is near, hand over (by wip/tools/mk_bkdraw.py).
-/
import Derived.Test.YtpniiaemgobaiabWordsDr
import Derived.Test.YtpniiaemgobaiabBkOk
namespace Go.Proofs.Ytpniiaemgobaiab
open Go.RowKit
set_option linter.unusedVariables false
set_option maxRecDepth 100000
theorem bks_set1 : ∀ (T : List BkN) (k : Nat) (x : Int), k < T.length → (bks T).set (k * 3 + 1) (.int .i64 x) = bks (T.set k ⟨(bkAt T k).t, x, (bkAt T k).u⟩)
  | [], _, _, h => by simp at h
  | b :: T, 0, x, _ => by simp [bks, bkC, bkAt]
  | b :: T, k + 1, x, h => by
    have ih := bks_set1 T k x (by simpa using h)
    have e : bkAt (b :: T) (k + 1) = bkAt T k := by simp [bkAt]
    rw [show (k + 1) * 3 + 1 = k * 3 + 1 + 1 + 1 + 1 by omega, e, List.set_cons_succ]
    show (.string b.t :: .int .i64 b.d :: .int .i64 b.u :: bks T : List Value).set (k * 3 + 1 + 1 + 1 + 1) _ = .string b.t :: .int .i64 b.d :: .int .i64 b.u :: bks (T.set k _)
    rw [← ih]; rfl
theorem bks_set2 : ∀ (T : List BkN) (k : Nat) (x : Int), k < T.length → (bks T).set (k * 3 + 2) (.int .i64 x) = bks (T.set k ⟨(bkAt T k).t, (bkAt T k).d, x⟩)
  | [], _, _, h => by simp at h
  | b :: T, 0, x, _ => by simp [bks, bkC, bkAt]
  | b :: T, k + 1, x, h => by
    have ih := bks_set2 T k x (by simpa using h)
    have e : bkAt (b :: T) (k + 1) = bkAt T k := by simp [bkAt]
    rw [show (k + 1) * 3 + 2 = k * 3 + 2 + 1 + 1 + 1 by omega, e, List.set_cons_succ]
    show (.string b.t :: .int .i64 b.d :: .int .i64 b.u :: bks T : List Value).set (k * 3 + 2 + 1 + 1 + 1) _ = .string b.t :: .int .i64 b.d :: .int .i64 b.u :: bks (T.set k _)
    rw [← ih]; rfl
theorem set_sz {T : List BkN} {B k : Nat} {d u : Int} (h : ∀ i, i < T.length → (bkAt T i).t.size ≤ B) : ∀ i, i < (T.set k ⟨(bkAt T k).t, d, u⟩).length → (bkAt (T.set k ⟨(bkAt T k).t, d, u⟩) i).t.size ≤ B := by
  intro i hi
  rw [List.length_set] at hi
  unfold bkAt
  rw [List.getD_eq_getElem?_getD, List.getElem?_set]
  by_cases e : k = i
  · subst e; rw [if_pos rfl, if_pos hi]; exact h k hi
  · rw [if_neg e, ← List.getD_eq_getElem?_getD]; exact h i hi
theorem bkV_sz {t : Nat → ByteArray} {n B : Nat} (h : ∀ i, (t i).size ≤ B) : ∀ i, i < (bkV t n).length → (bkAt (bkV t n) i).t.size ≤ B := by
  intro i hi
  unfold bkV at hi ⊢
  split at hi
  · rename_i e; rw [if_pos e]; exact bkAt_sz (bkTo_sz (n := n) (fun i _ => h i) n (Nat.le_refl _)) i hi
  · simp at hi
set_option maxHeartbeats 4000000 in
theorem drawBkOk (a : Option Addr) (len cap : Nat) (z : List Int) (w : World) (hr : IsRow .u8 w a len cap z) (hl : len ≤ 1048576) :
    Calls Try.prog 13 #[.slice a len cap] w fun e w' => ∃ (T : List BkN) (n : Nat) (a' : Option Addr) (cp : Nat), e = .returned (.slice a' n cp) ∧ T.length = n ∧ n ≤ 10 ∧ (∀ i, i < T.length → (bkAt T i).t.size ≤ 20) ∧ OwnV 33 3 w' w.heap.size a' n cp (bks T) ∧ Below w.heap.size w w' := by
  go_enter Try.func13, Try.ntmps13
  go_wp2_with fail
  refine (l1Open_any _ _ _ _ _ hr hl).mono ?_
  rintro e w1 ⟨rfl, hok, hb⟩
  go_wp2_with fail
  refine (rd_words _ _ _ _ _ _ hok 8 (by omega)).mono ?_
  rintro e w2 ⟨L, m, a1, c1, rfl, hL, hm, hx, hO, hok2, hg2⟩
  have hV := vals_tOf hL hO.vals
  have hsz := tOf_size hx
  have hB2 := below_rd hb hg2
  generalize tOf L = t at *
  clear hL hx hO hb hg2 hok hr
  have HSZ := Lib.hid hsz
  go_wp2_with fail
  refine (spec_bkOf t m a1 c1 _ hV (by omega) (fun i _ => by have := HSZ.out i; omega)).mono ?_
  rintro e w3 ⟨a2, c2, rfl, hO3, hb3⟩
  have hok3 := hok2.below hb3
  have hB3 := below_step hB2 hb3
  have hR := hok2.lt
  have hS : ∀ i, i < (bkV t m).length → (bkAt (bkV t m) i).t.size ≤ 20 := bkV_sz (fun i => by have := HSZ.out i; omega)
  have hTm := bkV_len t m
  replace hO3 := hO3.mono (C := w2.heap.size) (Nat.le_refl _)
  obtain ⟨T, hT⟩ : ∃ T, bkV t m = T := ⟨_, rfl⟩
  rw [hT] at hO3 hS hTm ⊢
  obtain ⟨n, hn⟩ : ∃ n, T.length = n := ⟨_, rfl⟩
  have HN := Lib.hid hn
  rw [hn] at hO3 hTm ⊢
  have HS := Lib.hid hS
  have hBB := hB2.size
  generalize w2.heap.size = B at *
  clear hT hn hsz hok2 hb3 hV hB2 hS
  by_cases h1 : 1 < n
  · go_wp2_with fail
    refine (rd_once _ _ _ _ _ _ hok3 _ (by omega) (by omega)).mono ?_
    rintro e w4 ⟨c, rfl, hok4, hg4⟩
    replace hO3 := hO3.rd hg4 hR
    have hB4 := below_rd hB3 hg4
    clear hok3 hB3 hg4
    cases c
    · go_wp2_with fail
      go_ret
      exact ⟨T, n, a2, c2, rfl, HN.out, by omega, HS.out, hO3.mono (by omega), hB4⟩
    · go_wp2_with fail
      refine (rd_below _ _ _ _ _ _ hok4 _).mono ?_
      rintro e w5 ⟨x, rfl, ⟨hx0, hx3, hx1, _⟩, hok5, hg5⟩
      have hx2 : 1 + x < n := by
        by_cases h2 : (n : Int) - 1 ≤ 1
        · have := hx3 h2; omega
        · have := hx1 (by omega); omega
      clear hx1 hx3
      obtain ⟨k, hk⟩ : ∃ k : Nat, 1 + x = (k : Int) := ⟨(1 + x).toNat, by omega⟩
      have hkn : k < n := by omega
      replace hO3 := hO3.rd hg5 hR
      have hB5 := below_rd hB4 hg5
      clear hok4 hB4 hg5
      go_wp2_with fail
      clear hk hx0 hx2
      refine (rd_once _ _ _ _ _ _ hok5 _ (by omega) (by omega)).mono ?_
      rintro e w6 ⟨c, rfl, hok6, hg6⟩
      replace hO3 := hO3.rd hg6 hR
      have hB6 := below_rd hB5 hg6
      clear hok5 hB5 hg6
      cases c
      · go_wp2_with fail
        refine (rd_off _ _ _ _ _ _ hok6 _ _ (by omega) (by omega) (by omega) (by omega)).mono ?_
        rintro e w7 ⟨y, rfl, hy, hok7, hg7⟩
        replace hO3 := hO3.rd hg7 hR
        have hB7 := below_rd hB6 hg7
        clear hok6 hB6 hg7 hy
        obtain ⟨g, rfl, hg1, hg2⟩ := hO3.head k hkn
        have d0 := hO3.cell (k * 3 + 1) (by omega)
        have f0 := hO3.frozen (k * 3 + 1)
        have HO := Lib.hid (hO3.set (k * 3 + 1) (.int .i64 y))
        have HB := Lib.hid (hB7.setCell (p := ⟨g, k * 3 + 1, none⟩) (by show _ ≤ g; omega) (.int .i64 y))
        clear hO3 hB7
        go_wp2_with fail
        go_ret
        exact ⟨T.set k _, n, _, c2, rfl, by rw [List.length_set, HN.out], by omega, set_sz HS.out, by rw [← bks_set1 T k y (by rw [HN.out]; exact hkn)]; exact HO.out.mono (by omega), HB.out⟩
      · go_wp2_with fail
        refine (rd_off _ _ _ _ _ _ hok6 _ _ (by omega) (by omega) (by omega) (by omega)).mono ?_
        rintro e w7 ⟨y, rfl, hy, hok7, hg7⟩
        replace hO3 := hO3.rd hg7 hR
        have hB7 := below_rd hB6 hg7
        clear hok6 hB6 hg7 hy
        obtain ⟨g, rfl, hg1, hg2⟩ := hO3.head k hkn
        have d0 := hO3.cell (k * 3 + 2) (by omega)
        have f0 := hO3.frozen (k * 3 + 2)
        have HO := Lib.hid (hO3.set (k * 3 + 2) (.int .i64 y))
        have HB := Lib.hid (hB7.setCell (p := ⟨g, k * 3 + 2, none⟩) (by show _ ≤ g; omega) (.int .i64 y))
        clear hO3 hB7
        go_wp2_with fail
        go_ret
        exact ⟨T.set k _, n, _, c2, rfl, by rw [List.length_set, HN.out], by omega, set_sz HS.out, by rw [← bks_set2 T k y (by rw [HN.out]; exact hkn)]; exact HO.out.mono (by omega), HB.out⟩
  · go_wp2_with fail
    go_ret
    exact ⟨T, n, a2, c2, rfl, HN.out, by omega, HS.out, hO3.mono (by omega), hB3⟩
set_option maxHeartbeats 8000000 in
theorem drawNear (a : Option Addr) (len cap : Nat) (z : List Int) (w : World) (hr : IsRow .u8 w a len cap z) (hl : len ≤ 1048576) :
    Calls Try.prog 18 #[.slice a len cap] w fun e w' => ∃ (T : List BkN) (n : Nat) (a' : Option Addr) (cp : Nat) (s : ByteArray) (k : Int), e = .returned (.tuple #[.slice a' n cp, .string s, .int .i64 k]) ∧ T.length = n ∧ n ≤ 10 ∧ (∀ i, i < T.length → (bkAt T i).t.size ≤ 20) ∧ s.size ≤ 20 ∧ i64B k ∧ OwnV 33 3 w' w.heap.size a' n cp (bks T) ∧ Below w.heap.size w w' := by
  go_enter Try.func18, Try.ntmps18
  go_wp2_with fail
  refine (l1Open_any _ _ _ _ _ hr hl).mono ?_
  rintro e w1 ⟨rfl, hok, hb⟩
  go_wp2_with fail
  refine (rd_words _ _ _ _ _ _ hok 9 (by omega)).mono ?_
  rintro e w2 ⟨L, m, a1, c1, rfl, hL, hm, hx, hO, hok2, hg2⟩
  have hV := vals_tOf hL hO.vals
  have hsz := tOf_size hx
  have hB2 := below_rd hb hg2
  have HVT := Lib.hid (show ∀ W : World, OwnV 9 1 W w1.heap.size a1 m c1 (strs L) → Vals W a1 (strL (tOf L) m) from fun W h => vals_tOf hL h.vals)
  have HOW := Lib.hid hO
  have hR1 := hok.lt
  generalize tOf L = t at *
  clear hL hx hO hb hg2 hok hr
  have HSZ := Lib.hid hsz
  go_wp2_with fail
  refine (spec_bkOf t m a1 c1 _ hV (by omega) (fun i _ => by have := HSZ.out i; omega)).mono ?_
  rintro e w3 ⟨a2, c2, rfl, hO3, hb3⟩
  have hok3 := hok2.below hb3
  have hB3 := below_step hB2 hb3
  have HVK := Lib.hid (HOW.out.kept hb3)
  have hR := hok2.lt
  have hS : ∀ i, i < (bkV t m).length → (bkAt (bkV t m) i).t.size ≤ 20 := bkV_sz (fun i => by have := HSZ.out i; omega)
  have hTm := bkV_len t m
  replace hO3 := hO3.mono (C := w2.heap.size) (Nat.le_refl _)
  obtain ⟨T, hT⟩ : ∃ T, bkV t m = T := ⟨_, rfl⟩
  rw [hT] at hO3 hS hTm ⊢
  obtain ⟨n, hn⟩ : ∃ n, T.length = n := ⟨_, rfl⟩
  have HN := Lib.hid hn
  rw [hn] at hO3 hTm ⊢
  have HS := Lib.hid hS
  have hBB := hB2.size
  have hn10 : n ≤ 10 := by omega
  clear hT hn hsz hb3 hV hB2 hS hok2 HOW hTm
  go_wp2_with fail
  refine (rd_term _ _ _ _ _ _ hok3 5 (by omega)).mono ?_
  rintro e w4 ⟨s, rfl, hs, hok4, hg4⟩
  have HO4 := Lib.hid (hO3.rd hg4 hR)
  have HB4 := Lib.hid (below_rd hB3 hg4)
  clear hO3 hB3 hok3
  by_cases hm0 : m = 0
  · have hm1 : decide ((0 : Int) < (m : Int)) = false := by simp; omega
    have hm2 : decide (0 < m) = false := by simp; omega
    clear hm0
    have HOD := HO4; have HBD := HB4; have hokD := hok4
    clear HO4 HB4 hok4 HVK HVT hg4
    go_wp2_with fail
    refine (rd_once _ _ _ _ _ _ hokD _ (by omega) (by omega)).mono ?_
    rintro e wE ⟨c, rfl, hokE, hgE⟩
    have HOE := Lib.hid (HOD.out.rd hgE hR)
    have HBE := Lib.hid (below_rd HBD.out hgE)
    clear hgE
    cases c
    · go_wp2_with fail
      refine (rd_off _ _ _ _ _ _ hokE _ _ (by omega) (by omega) (by omega) (by omega)).mono ?_
      rintro e wF ⟨kk, rfl, hkk, hokF, hgF⟩
      have HOF := Lib.hid (HOE.out.rd hgF hR)
      have HBF := Lib.hid (below_rd HBE.out hgF)
      clear hgF
      go_wp2
      exact bodyPost_ret (v := .tuple #[.slice a2 n c2, .string s, .int .i64 kk]) (by simp [results, Try.results18, go_sem]) rfl ⟨T, n, _, c2, s, kk, rfl, HN.out, by omega, HS.out, by omega, hkk, HOF.out.mono (by omega), HBF.out⟩
    · by_cases hn0 : n = 0
      · have hn1 : decide ((0 : Int) < (n : Int)) = false := by simp; omega
        have hn2 : decide (0 < n) = false := by simp; omega
        clear hn0
        go_wp2_with fail
        refine (rd_off _ _ _ _ _ _ hokE _ _ (by omega) (by omega) (by omega) (by omega)).mono ?_
        rintro e wF ⟨kk, rfl, hkk, hokF, hgF⟩
        have HOF := Lib.hid (HOE.out.rd hgF hR)
        have HBF := Lib.hid (below_rd HBE.out hgF)
        clear hgF
        go_wp2
        exact bodyPost_ret (v := .tuple #[.slice a2 n c2, .string s, .int .i64 kk]) (by simp [results, Try.results18, go_sem]) rfl ⟨T, n, _, c2, s, kk, rfl, HN.out, by omega, HS.out, by omega, hkk, HOF.out.mono (by omega), HBF.out⟩
      · have hn1 : decide ((0 : Int) < (n : Int)) = true := by simp; omega
        have hn2 : decide (0 < n) = true := by simp; omega
        have hn3 : 0 < n := by omega
        obtain ⟨g, rfl, hg1, hg2⟩ := HOE.out.head 0 (by omega)
        have d0 := HOE.out.cell (0 * 3 + 1) (by omega)
        have f0 := HOE.out.frozen (0 * 3 + 1)
        have HOS := Lib.hid (HOE.out.set (0 * 3 + 1) (.int .i64 1))
        have HBS := Lib.hid (HBE.out.setCell (p := ⟨g, 0 * 3 + 1, none⟩) (by show _ ≤ g; omega) (.int .i64 1))
        have hokS := hokE.grown (r := some g) (grownBy_setCell wE g (0 * 3 + 1) (.int .i64 1)) (fun q hq => by cases hq; omega)
        rw [show (0 * 3 + 1 : Nat) = 1 by omega] at d0 f0
        simp only [Nat.zero_mul, Nat.zero_add] at d0 f0 HOS HBS hokS
        clear HOE HBE hokE
        have HOE := HOS; have HBE := HBS; have hokE := hokS
        clear HOS HBS hokS
        go_wp2_with fail
        refine (rd_off _ _ _ _ _ _ hokE _ _ (by omega) (by omega) (by omega) (by omega)).mono ?_
        rintro e wF ⟨kk, rfl, hkk, hokF, hgF⟩
        have HOF := Lib.hid (HOE.out.rd hgF hR)
        have HBF := Lib.hid (below_rd HBE.out hgF)
        clear hgF
        go_wp2
        exact bodyPost_ret (v := .tuple #[.slice (some ⟨g, 0, none⟩) n c2, .string s, .int .i64 kk]) (by simp [results, Try.results18, go_sem]) rfl ⟨T.set 0 ⟨(bkAt T 0).t, 1, (bkAt T 0).u⟩, n, _, c2, s, kk, rfl, by rw [List.length_set, HN.out], by omega, set_sz HS.out, by omega, hkk, (by rw [← bks_set1 T 0 1 (by rw [HN.out]; omega)]; exact HOF.out.mono (by omega)), HBF.out⟩
  · have hm1 : decide ((0 : Int) < (m : Int)) = true := by simp; omega
    have hm2 : decide (0 < m) = true := by simp; omega
    go_wp2_with fail
    refine (rd_once _ _ _ _ _ _ hok4 _ (by omega) (by omega)).mono ?_
    rintro e w5 ⟨c, rfl, hok5, hg5⟩
    have HO5 := Lib.hid (HO4.out.rd hg5 hR)
    have HB5 := Lib.hid (below_rd HB4.out hg5)
    clear hok4
    cases c
    · have HOD := HO5; have HBD := HB5; have hokD := hok5
      clear HO4 HB4 HO5 HB5 hok5 HVK HVT hg4 hg5
      go_wp2_with fail
      refine (rd_once _ _ _ _ _ _ hokD _ (by omega) (by omega)).mono ?_
      rintro e wE ⟨c, rfl, hokE, hgE⟩
      have HOE := Lib.hid (HOD.out.rd hgE hR)
      have HBE := Lib.hid (below_rd HBD.out hgE)
      clear hgE
      cases c
      · go_wp2_with fail
        refine (rd_off _ _ _ _ _ _ hokE _ _ (by omega) (by omega) (by omega) (by omega)).mono ?_
        rintro e wF ⟨kk, rfl, hkk, hokF, hgF⟩
        have HOF := Lib.hid (HOE.out.rd hgF hR)
        have HBF := Lib.hid (below_rd HBE.out hgF)
        clear hgF
        go_wp2
        exact bodyPost_ret (v := .tuple #[.slice a2 n c2, .string s, .int .i64 kk]) (by simp [results, Try.results18, go_sem]) rfl ⟨T, n, _, c2, s, kk, rfl, HN.out, by omega, HS.out, by omega, hkk, HOF.out.mono (by omega), HBF.out⟩
      · by_cases hn0 : n = 0
        · have hn1 : decide ((0 : Int) < (n : Int)) = false := by simp; omega
          have hn2 : decide (0 < n) = false := by simp; omega
          clear hn0
          go_wp2_with fail
          refine (rd_off _ _ _ _ _ _ hokE _ _ (by omega) (by omega) (by omega) (by omega)).mono ?_
          rintro e wF ⟨kk, rfl, hkk, hokF, hgF⟩
          have HOF := Lib.hid (HOE.out.rd hgF hR)
          have HBF := Lib.hid (below_rd HBE.out hgF)
          clear hgF
          go_wp2
          exact bodyPost_ret (v := .tuple #[.slice a2 n c2, .string s, .int .i64 kk]) (by simp [results, Try.results18, go_sem]) rfl ⟨T, n, _, c2, s, kk, rfl, HN.out, by omega, HS.out, by omega, hkk, HOF.out.mono (by omega), HBF.out⟩
        · have hn1 : decide ((0 : Int) < (n : Int)) = true := by simp; omega
          have hn2 : decide (0 < n) = true := by simp; omega
          have hn3 : 0 < n := by omega
          obtain ⟨g, rfl, hg1, hg2⟩ := HOE.out.head 0 (by omega)
          have d0 := HOE.out.cell (0 * 3 + 1) (by omega)
          have f0 := HOE.out.frozen (0 * 3 + 1)
          have HOS := Lib.hid (HOE.out.set (0 * 3 + 1) (.int .i64 1))
          have HBS := Lib.hid (HBE.out.setCell (p := ⟨g, 0 * 3 + 1, none⟩) (by show _ ≤ g; omega) (.int .i64 1))
          have hokS := hokE.grown (r := some g) (grownBy_setCell wE g (0 * 3 + 1) (.int .i64 1)) (fun q hq => by cases hq; omega)
          rw [show (0 * 3 + 1 : Nat) = 1 by omega] at d0 f0
          simp only [Nat.zero_mul, Nat.zero_add] at d0 f0 HOS HBS hokS
          clear HOE HBE hokE
          have HOE := HOS; have HBE := HBS; have hokE := hokS
          clear HOS HBS hokS
          go_wp2_with fail
          refine (rd_off _ _ _ _ _ _ hokE _ _ (by omega) (by omega) (by omega) (by omega)).mono ?_
          rintro e wF ⟨kk, rfl, hkk, hokF, hgF⟩
          have HOF := Lib.hid (HOE.out.rd hgF hR)
          have HBF := Lib.hid (below_rd HBE.out hgF)
          clear hgF
          go_wp2
          exact bodyPost_ret (v := .tuple #[.slice (some ⟨g, 0, none⟩) n c2, .string s, .int .i64 kk]) (by simp [results, Try.results18, go_sem]) rfl ⟨T.set 0 ⟨(bkAt T 0).t, 1, (bkAt T 0).u⟩, n, _, c2, s, kk, rfl, by rw [List.length_set, HN.out], by omega, set_sz HS.out, by omega, hkk, (by rw [← bks_set1 T 0 1 (by rw [HN.out]; omega)]; exact HOF.out.mono (by omega)), HBF.out⟩
    · go_wp2_with fail
      refine (rd_below _ _ _ _ _ _ hok5 _).mono ?_
      rintro e w6 ⟨x, rfl, ⟨hx0, hx3, hx1, _⟩, hok6, hg6⟩
      have hx2 : x < m := by
        by_cases h2 : (m : Int) ≤ 1
        · have := hx3 h2; omega
        · have := hx1 (by omega); omega
      clear hx1 hx3
      obtain ⟨k, rfl⟩ := Int.eq_ofNat_of_zero_le hx0
      have hkm : k < m := by omega
      have hVV := HVT.out _ (((HVK.out.rd hg4 hR1).rd hg5 hR1).rd hg6 hR1)
      obtain ⟨b, off, rfl, hp⟩ := hVV.at k (by rw [strL_length]; exact hkm)
      have c0 := hp k (by rw [strL_length]; exact hkm)
      rw [strL_at t m k hkm] at c0
      have hks := HSZ.out k
      generalize t k = y at *
      have HO6 := Lib.hid (HO5.out.rd hg6 hR)
      have HB6 := Lib.hid (below_rd HB5.out hg6)
      clear hp hVV HVK HVT HO5 HB5 HO4 HB4 hg4 hg5 hg6 hok5
      go_wp2_with fail
      refine (rd_nearly _ _ _ _ _ _ hok6 y (by omega)).mono ?_
      clear hs
      rintro e w7 ⟨s, rfl, hs2, hok7, hg7⟩
      have HOD := Lib.hid (HO6.out.rd hg7 hR); have HBD := Lib.hid (below_rd HB6.out hg7); have hokD := hok7
      clear HO6 HB6 hok6 hok7 hg7
      go_wp2_with fail
      refine (rd_once _ _ _ _ _ _ hokD _ (by omega) (by omega)).mono ?_
      rintro e wE ⟨c, rfl, hokE, hgE⟩
      have HOE := Lib.hid (HOD.out.rd hgE hR)
      have HBE := Lib.hid (below_rd HBD.out hgE)
      clear hgE
      cases c
      · go_wp2_with fail
        refine (rd_off _ _ _ _ _ _ hokE _ _ (by omega) (by omega) (by omega) (by omega)).mono ?_
        rintro e wF ⟨kk, rfl, hkk, hokF, hgF⟩
        have HOF := Lib.hid (HOE.out.rd hgF hR)
        have HBF := Lib.hid (below_rd HBE.out hgF)
        clear hgF
        go_wp2
        exact bodyPost_ret (v := .tuple #[.slice a2 n c2, .string s, .int .i64 kk]) (by simp [results, Try.results18, go_sem]) rfl ⟨T, n, _, c2, s, kk, rfl, HN.out, by omega, HS.out, by omega, hkk, HOF.out.mono (by omega), HBF.out⟩
      · by_cases hn0 : n = 0
        · have hn1 : decide ((0 : Int) < (n : Int)) = false := by simp; omega
          have hn2 : decide (0 < n) = false := by simp; omega
          clear hn0
          go_wp2_with fail
          refine (rd_off _ _ _ _ _ _ hokE _ _ (by omega) (by omega) (by omega) (by omega)).mono ?_
          rintro e wF ⟨kk, rfl, hkk, hokF, hgF⟩
          have HOF := Lib.hid (HOE.out.rd hgF hR)
          have HBF := Lib.hid (below_rd HBE.out hgF)
          clear hgF
          go_wp2
          exact bodyPost_ret (v := .tuple #[.slice a2 n c2, .string s, .int .i64 kk]) (by simp [results, Try.results18, go_sem]) rfl ⟨T, n, _, c2, s, kk, rfl, HN.out, by omega, HS.out, by omega, hkk, HOF.out.mono (by omega), HBF.out⟩
        · have hn1 : decide ((0 : Int) < (n : Int)) = true := by simp; omega
          have hn2 : decide (0 < n) = true := by simp; omega
          have hn3 : 0 < n := by omega
          obtain ⟨g, rfl, hg1, hg2⟩ := HOE.out.head 0 (by omega)
          have d0 := HOE.out.cell (0 * 3 + 1) (by omega)
          have f0 := HOE.out.frozen (0 * 3 + 1)
          have HOS := Lib.hid (HOE.out.set (0 * 3 + 1) (.int .i64 1))
          have HBS := Lib.hid (HBE.out.setCell (p := ⟨g, 0 * 3 + 1, none⟩) (by show _ ≤ g; omega) (.int .i64 1))
          have hokS := hokE.grown (r := some g) (grownBy_setCell wE g (0 * 3 + 1) (.int .i64 1)) (fun q hq => by cases hq; omega)
          rw [show (0 * 3 + 1 : Nat) = 1 by omega] at d0 f0
          simp only [Nat.zero_mul, Nat.zero_add] at d0 f0 HOS HBS hokS
          clear HOE HBE hokE
          have HOE := HOS; have HBE := HBS; have hokE := hokS
          clear HOS HBS hokS
          go_wp2_with fail
          refine (rd_off _ _ _ _ _ _ hokE _ _ (by omega) (by omega) (by omega) (by omega)).mono ?_
          rintro e wF ⟨kk, rfl, hkk, hokF, hgF⟩
          have HOF := Lib.hid (HOE.out.rd hgF hR)
          have HBF := Lib.hid (below_rd HBE.out hgF)
          clear hgF
          go_wp2
          exact bodyPost_ret (v := .tuple #[.slice (some ⟨g, 0, none⟩) n c2, .string s, .int .i64 kk]) (by simp [results, Try.results18, go_sem]) rfl ⟨T.set 0 ⟨(bkAt T 0).t, 1, (bkAt T 0).u⟩, n, _, c2, s, kk, rfl, by rw [List.length_set, HN.out], by omega, set_sz HS.out, by omega, hkk, (by rw [← bks_set1 T 0 1 (by rw [HN.out]; omega)]; exact HOF.out.mono (by omega)), HBF.out⟩
end Go.Proofs.Ytpniiaemgobaiab

/-
  Chapter 19: slices.Compact of words with how far they are.
-/
import Derived.Test.YtpniiaemgobaiaaFarS
import Derived.Lib.SliceRun
import Derived.BigRegion
namespace Go.Proofs.Ytpniiaemgobaiaa
open Go.RowKit
set_option linter.unusedVariables false
set_option maxRecDepth 100000
def zeroF : Value := .agg #[.int .i64 0, .string ⟨#[]⟩]
theorem zero_far (w : World) : (zeroValue 95).run Try.prog w = .ok zeroF w := by kernel_rfl
theorem zeros_len (n : Nat) : (Builtin.zeroCells zeroF.cells n).toList.length = n * 2 := by simp [Builtin.zeroCells, zeroF, Value.cells]
theorem zeros_one (n : Nat) : ∀ v ∈ (Builtin.zeroCells zeroF.cells n).toList, v.oneCell' = true := by
  intro v hv
  have e : zeroF.cells = #[Value.int .i64 0, .string ⟨#[]⟩] := rfl
  rw [e] at hv
  simp only [Builtin.zeroCells, Array.toList_map, List.mem_map] at hv
  obtain ⟨i, _, rfl⟩ := hv
  have hm : i % (#[Value.int .i64 0, .string ⟨#[]⟩] : Array Value).size = 0 ∨ i % (#[Value.int .i64 0, .string ⟨#[]⟩] : Array Value).size = 1 := by
    have : (#[Value.int .i64 0, .string ⟨#[]⟩] : Array Value).size = 2 := rfl
    rw [this]; omega
  rcases hm with h | h
  · rw [h]; rfl
  · rw [h]; rfl
theorem run_clear_far (w : World) (ty : TypeId) (g o n c : Nat) (hn : 0 < n) (hc : ∀ j, j < n * 2 → (w.cell? ⟨g, o + j, none⟩).isSome = true) (hf : ∀ j, j < n * 2 → w.frozen? ⟨g, o + j, none⟩ = false) :
    (Builtin.clear_ #[93] ty #[.slice (some ⟨g, o, none⟩) n c]).run Try.prog w = .ok (.tuple #[]) (w.setCells g o (Builtin.zeroCells zeroF.cells n).toList) := by
  have hst := run_storeCells_cells (P := Try.prog) g o (Builtin.zeroCells zeroF.cells n).toList 0 w (by rw [zeros_len]; simpa using hc) (by rw [zeros_len]; simpa using hf) (zeros_one n)
  simp only [Nat.add_zero] at hst
  obtain ⟨m, rfl⟩ : ∃ m, n = m + 1 := ⟨n - 1, by omega⟩
  have hz := zero_far
  generalize zeroF = z at *
  simp [Builtin.clear_, run_underlying Try.underlying93, hz, hst]
theorem OwnV.clears {e m B g n cap : Nat} : ∀ (Z : List Value) (o : Nat) (V : List Value) (w : World), OwnV e m w B (some ⟨g, 0, none⟩) n cap V → ∃ V', OwnV e m (w.setCells g o Z) B (some ⟨g, 0, none⟩) n cap V' ∧ V'.take o = V.take o ∧ w.grownBy (w.setCells g o Z) (some g)
  | [], o, V, w, h => ⟨V, h, rfl, World.grownBy.refl _ _⟩
  | z :: Z, o, V, w, h => by
    obtain ⟨V', h1, h2, h3⟩ := OwnV.clears Z (o + 1) _ _ (h.set o z)
    refine ⟨V', h1, ?_, grown_trans (h.set_grown o z) h3⟩
    have := congrArg (List.take o) h2
    rw [List.take_take, List.take_take, Nat.min_eq_left (by omega)] at this
    rw [this, List.take_set_of_le (Nat.le_refl _)]
theorem fws_set : ∀ (L : List Fw) (k : Nat) (x : Fw), k < L.length → ((fws L).set (k * 2) (.int .i64 x.d)).set (k * 2 + 1) (.string (txt x.w)) = fws (L.set k x)
  | [], _, _, h => by simp at h
  | b :: L, 0, x, _ => by simp [fws]
  | b :: L, k + 1, x, h => by
    have ih := fws_set L k x (by simpa using h)
    rw [show (k + 1) * 2 = k * 2 + 1 + 1 by omega, show k * 2 + 1 + 1 + 1 = k * 2 + 1 + 1 + 1 from rfl, List.set_cons_succ]
    show ((.int .i64 b.d :: .string (txt b.w) :: fws L : List Value).set (k * 2 + 1 + 1) _).set (k * 2 + 1 + 1 + 1) _ = .int .i64 b.d :: .string (txt b.w) :: fws (L.set k x)
    rw [← ih]; rfl
theorem fwAt_eq {S : List Fw} {i : Nat} : fwAt S i = S.getD i default := rfl
theorem fwAt_set (L : List Fw) (k j : Nat) (x : Fw) (h : ¬ k = j) : fwAt (L.set k x) j = fwAt L j := by
  unfold fwAt; rw [List.getD_eq_getElem?_getD, List.getElem?_set, if_neg h, ← List.getD_eq_getElem?_getD]
theorem take_set_self (L : List Fw) (k : Nat) (x : Fw) (h : k < L.length) : (L.set k x).take (k + 1) = L.take k ++ [x] := by
  rw [List.take_succ_eq_append_getElem (by simpa using h), List.take_set_of_le (Nat.le_refl _)]; simp
theorem compN_take {S : List Fw} {k : Nat} (h1 : 1 ≤ k) (hk : k < S.length) (hc : compN S k = S.take k) (hne : ¬ fwAt S k = fwAt S (k - 1)) : compN S (k + 1) = S.take (k + 1) := by
  obtain ⟨j, rfl⟩ : ∃ j, k = j + 1 := ⟨k - 1, by omega⟩
  rw [compN, if_neg (show ¬ S.getD (j + 1) default = S.getD j default from hne), hc, List.take_succ_eq_append_getElem hk, List.getD_eq_getElem?_getD, List.getElem?_eq_getElem hk]; rfl
theorem compN_same {S : List Fw} {k : Nat} (h1 : 1 ≤ k) (he : fwAt S k = fwAt S (k - 1)) : compN S (k + 1) = compN S k := by
  obtain ⟨j, rfl⟩ : ∃ j, k = j + 1 := ⟨k - 1, by omega⟩
  rw [compN, if_pos (show S.getD (j + 1) default = S.getD j default from he)]
theorem compN_next {S : List Fw} {k : Nat} (h1 : 1 ≤ k) (hne : ¬ fwAt S k = fwAt S (k - 1)) : compN S (k + 1) = compN S k ++ [fwAt S k] := by
  obtain ⟨j, rfl⟩ : ∃ j, k = j + 1 := ⟨k - 1, by omega⟩
  rw [compN, if_neg (show ¬ S.getD (j + 1) default = S.getD j default from hne)]; rfl
theorem compN_one {S : List Fw} (h : 0 < S.length) : compN S 1 = S.take 1 := by
  match S, h with
  | x :: xs, _ => rfl
theorem fw_ext {x y : Fw} (hd : x.d = y.d) (hw : x.w = y.w) : x = y := by cases x; cases y; simp only at hd hw; rw [hd, hw]
theorem sl_compactFar0 (p : Option Addr) (cap : Nat) (w : World) :
    Calls Try.prog 74 #[.slice p 0 cap] w fun e w' => e = .returned (.slice p 0 cap) ∧ w' = w := by
  go_enter Try.func74, Try.ntmps74
  go_wp2
  go_ret
  exact ⟨rfl, rfl⟩
set_option maxHeartbeats 8000000 in
theorem sl_compactFar (S : List Fw) (n g cap B : Nat) (w : World) (hS : S.length = n) (hn0 : 0 < n) (hn : n ≤ 1000) (hO : OwnV 95 2 w B (some ⟨g, 0, none⟩) n cap (fws S)) :
    Calls Try.prog 74 #[.slice (some ⟨g, 0, none⟩) n cap] w fun e w' => ∃ cap', e = .returned (.slice (some ⟨g, 0, none⟩) (compN S n).length cap') ∧ (compN S n).length ≤ cap' ∧ Vals w' (some ⟨g, 0, none⟩) (fws (compN S n)) ∧ w.grownBy w' (some g) := by
  have hcap := hO.cap_le
  have HO := Lib.hid hO; have HS := Lib.hid hS
  clear hO hS
  by_cases h2 : n < 2
  · obtain rfl : n = 1 := by omega
    have HC := Lib.hid (show compN S 1 = S from by
      have := HS.out
      match S, this with
      | [x], _ => rfl)
    go_enter Try.func74, Try.ntmps74
    go_wp2
    go_ret
    rw [HC.out, HS.out]
    exact ⟨_, rfl, hcap, HO.out.vals, World.grownBy.refl _ _⟩
  · have hd : ¬ (n : Int) < 2 := by omega
    have hd2 : decide ((n : Int) < 2) = false := by simp; omega
    have hd3 : decide (n < 2) = false := by simp; omega
    go_enter Try.func74, Try.ntmps74
    go_wp2_with fail
    go_loopw [3, 4, 5] (fun x _ _ wr => ∃ k : Nat, 1 ≤ k ∧ k ≤ n ∧ x = .int .i64 (k : Int) ∧ compN S k = S.take k ∧ Below w.heap.size w wr)
      (fun x _ _ _ => n - (intOf x).toNat)
    case atStart => exact ⟨1, by omega, by omega, rfl, compN_one (by rw [HS.out]; exact hn0), Below.refl _ _⟩
    case round =>
      obtain ⟨k, hk1, hk, rfl, hc, hb⟩ := hrel
      by_cases hlt : k < n
      · obtain ⟨p, rfl⟩ : ∃ p, k = p + 1 := ⟨k - 1, by omega⟩
        have hOk := HO.out.kept hb
        obtain ⟨q0, q1⟩ := fws_at S (p + 1) (by rw [HS.out]; exact hlt)
        obtain ⟨r0, r1⟩ := fws_at S p (by rw [HS.out]; omega)
        have c0 := hOk.cell ((p + 1) * 2) (by omega)
        have c1 := hOk.cell ((p + 1) * 2 + 1) (by omega)
        have d0 := hOk.cell (p * 2) (by omega)
        have d1 := hOk.cell (p * 2 + 1) (by omega)
        rw [q0] at c0; rw [q1] at c1; rw [r0] at d0; rw [r1] at d1
        have hgl : g < wr.heap.size := (hOk.2.lt g rfl).2
        have HOK := Lib.hid hOk; have HC := Lib.hid hc; have HB := Lib.hid hb
        have HT := Lib.hid (compN_take (S := S) (k := p + 1) (by omega) (by rw [HS.out]; exact hlt) hc)
        have HE := Lib.hid (compN_same (S := S) (k := p + 1) (by omega))
        rw [Nat.add_sub_cancel] at HT HE
        have hw : IntKind.i64.wrap (((p + 1 : Nat) : Int) - 1) = (p : Int) := by rw [IntKind.wrap_i64]; omega
        have hw2 : (((p + 1 : Nat) : Int) - 1) = (p : Int) := by omega
        have hpn : p < n := by omega
        have HEX := Lib.hid (fun (hd : (fwAt S (p + 1)).d = (fwAt S p).d) (hw : (txt (fwAt S (p + 1)).w).toList = (txt (fwAt S p).w).toList) => fw_ext hd (by rw [toList_bl, toList_bl, bl_txt, bl_txt] at hw; exact hw))
        have HNX := Lib.hid (fun (h : ¬ ((txt (fwAt S (p + 1)).w).toList = (txt (fwAt S p).w).toList ∧ (fwAt S (p + 1)).d = (fwAt S p).d)) (e : fwAt S (p + 1) = fwAt S p) => h (by rw [e]; exact ⟨rfl, rfl⟩))
        generalize (fwAt S (p + 1)).d = x1 at c0 HEX HNX
        generalize txt (fwAt S (p + 1)).w = y1 at c1 HEX HNX
        generalize (fwAt S p).d = x2 at d0 HEX HNX
        generalize txt (fwAt S p).w = y2 at d1 HEX HNX
        clear hOk hc hb q0 q1 r0 r1
        by_cases hd : x1 = x2
        · by_cases hy : y1.toList = y2.toList
          · have HSAME := Lib.hid (HE.out (HEX.out hd hy))
            subst hd
            have e0 : (y1.toList == y2.toList) = true := by simp [hy]
            have hlen0 : (compN S (p + 1 + 1)).length = p + 1 := by rw [HSAME.out, HC.out, List.length_take, HS.out]; omega
            have HK0 := Lib.hid (show S.take (p + 1) = compN S (p + 1 + 1) by rw [HSAME.out, HC.out])
            have HL0 := Lib.hid hlen0
            clear HEX HNX HT HE hlen0
            go_wp2_with fail
            go_quiet (fail)
            have kc : ¬ cap = p + 1 := by omega
            go_wp2_with fail
            have kwl : 1 ≤ n - (p + 1) := by omega
            go_loopw [3, 5] (fun x y wi => ∃ (kk q : Nat) (C : List Fw), 1 ≤ q ∧ q ≤ n - (p + 1) ∧ kk ≤ p + q ∧ x = .int .i64 (kk : Int) ∧ y = .int .i64 (q : Int) ∧ C.length = n ∧ (compN S (p + 1 + q)).length = kk ∧ C.take kk = compN S (p + 1 + q) ∧ (∀ j, p + q ≤ j → fwAt C j = fwAt S j) ∧ OwnV 95 2 wi B (some ⟨g, 0, none⟩) n cap (fws C) ∧ w.grownBy wi (some g))
              (fun _ y _ => n - (intOf y).toNat)
            case atStart =>
              exact ⟨p + 1, 1, S, by omega, by omega, by omega, rfl, rfl, HS.out, HL0.out, HK0.out, fun _ _ => rfl, HOK.out.kept (below_drewN (Below.refl _ _) _), grown_of_below (below_drewN HB.out _) _⟩
            case round =>
              obtain ⟨kk, q, C, hq1, hqn, hkk, rfl, rfl, hC, hlen, htk, hrest, hOw, hgr⟩ := hrel
              have HG := Lib.hid hgr
              have hwi : Below wr.heap.size wr wr := Below.refl _ _
              clear hgr
              by_cases hlt : q < n - (p + 1)
              · obtain ⟨r, rfl⟩ : ∃ r, q = r + 1 := ⟨q - 1, by omega⟩
                have hi1 : p + 1 + (r + 1) < C.length := by rw [hC]; omega
                have hi0 : p + 1 + r < C.length := by rw [hC]; omega
                obtain ⟨q0, q1⟩ := fws_at C (p + 1 + (r + 1)) hi1
                obtain ⟨r0, r1⟩ := fws_at C (p + 1 + r) hi0
                have c0 := hOw.cell ((p + 1 + (r + 1)) * 2) (by omega)
                have c1 := hOw.cell ((p + 1 + (r + 1)) * 2 + 1) (by omega)
                have d0 := hOw.cell ((p + 1 + r) * 2) (by omega)
                have d1 := hOw.cell ((p + 1 + r) * 2 + 1) (by omega)
                rw [q0] at c0; rw [q1] at c1; rw [r0] at d0; rw [r1] at d1
                have m1 : (p + 1 + (r + 1)) * 2 = (p + 1) * 2 + (r + 1) * 2 := by omega
                have m0 : (p + 1 + r) * 2 = (p + 1) * 2 + r * 2 := by omega
                rw [m1] at c0 c1; rw [m0] at d0 d1
                have hr1 := hrest (p + 1 + (r + 1)) (by omega)
                have hr0 := hrest (p + 1 + r) (by omega)
                have HT := Lib.hid (compN_next (S := S) (k := p + 1 + (r + 1)) (by omega))
                have HE := Lib.hid (compN_same (S := S) (k := p + 1 + (r + 1)) (by omega))
                rw [show p + 1 + (r + 1) - 1 = p + 1 + r by omega, ← hr1, ← hr0] at HT HE
                have hw : IntKind.i64.wrap (((r + 1 : Nat) : Int) - 1) = (r : Int) := by rw [IntKind.wrap_i64]; omega
                have hw2 : (((r + 1 : Nat) : Int) - 1) = (r : Int) := by omega
                have hrn : r < n - (p + 1) := by omega
                have HEX := Lib.hid (fun (hd : (fwAt C (p + 1 + (r + 1))).d = (fwAt C (p + 1 + r)).d) (hw : (txt (fwAt C (p + 1 + (r + 1))).w).toList = (txt (fwAt C (p + 1 + r)).w).toList) => fw_ext hd (by rw [toList_bl, toList_bl, bl_txt, bl_txt] at hw; exact hw))
                have HNX := Lib.hid (fun (h : ¬ ((txt (fwAt C (p + 1 + (r + 1))).w).toList = (txt (fwAt C (p + 1 + r)).w).toList ∧ (fwAt C (p + 1 + (r + 1))).d = (fwAt C (p + 1 + r)).d)) (e : fwAt C (p + 1 + (r + 1)) = fwAt C (p + 1 + r)) => h (by rw [e]; exact ⟨rfl, rfl⟩))
                have hkn : kk < n := by omega
                have hknc : kk < C.length := by omega
                have HS1 := Lib.hid (fun nq => by
                  have h1 := (hOw.kept (below_drewN hwi nq)).set (kk * 2) (.int .i64 (fwAt C (p + 1 + (r + 1))).d)
                  have h2 := h1.set (kk * 2 + 1) (.string (txt (fwAt C (p + 1 + (r + 1))).w))
                  rw [fws_set C kk (fwAt C (p + 1 + (r + 1))) hknc] at h2
                  exact And.intro h2 (grown_trans (grown_trans (grown_trans HG.out (grown_of_below (below_drewN hwi nq) _)) ((hOw.kept (below_drewN hwi nq)).set_grown (kk * 2) _)) (h1.set_grown (kk * 2 + 1) (.string (txt (fwAt C (p + 1 + (r + 1))).w)))))
                have HC1 := Lib.hid (show (C.set kk (fwAt C (p + 1 + (r + 1)))).length = n ∧ (C.set kk (fwAt C (p + 1 + (r + 1)))).take (kk + 1) = compN S (p + 1 + (r + 1)) ++ [fwAt C (p + 1 + (r + 1))] ∧ ∀ j, p + (r + 2) ≤ j → fwAt (C.set kk (fwAt C (p + 1 + (r + 1)))) j = fwAt S j from
                  ⟨by rw [List.length_set, hC], by rw [take_set_self _ _ _ hknc, htk], fun j hj => by rw [fwAt_set _ _ _ _ (by omega)]; exact hrest j (by omega)⟩)
                have hgl : g < wr.heap.size := (hOw.2.lt g rfl).2
                have e0c := hOw.cell (kk * 2) (by omega)
                have e1c := hOw.cell (kk * 2 + 1) (by omega)
                have hoff : ¬ kk * 2 = kk * 2 + 1 := by omega
                have hoff2 : ¬ kk * 2 + 1 = kk * 2 := by omega
                have fz0 := hOw.frozen (kk * 2)
                have fz1 := hOw.frozen (kk * 2 + 1)
                have HOW := Lib.hid hOw; have HCL := Lib.hid hC; have HLEN := Lib.hid hlen; have HTK := Lib.hid htk; have HRE := Lib.hid hrest
                obtain ⟨y, hy⟩ : ∃ y, fwAt C (p + 1 + (r + 1)) = y := ⟨_, rfl⟩
                rw [hy] at c0 c1 HT HE HEX HNX HS1 HC1
                have HY1 := Lib.hid (show fwAt S (p + 1 + (r + 1)) = y by rw [← hr1, hy])
                clear hOw hC hlen htk hrest q0 q1 r0 r1 hr1 hr0 hi1 hi0 m1 m0 hy hknc
                obtain ⟨yd, yw⟩ := y
                obtain ⟨yt, hyt⟩ : ∃ t, txt yw = t := ⟨_, rfl⟩
                simp only [hyt] at c0 c1 HEX HNX HS1
                generalize (fwAt C (p + 1 + r)).d = x2 at d0 HEX HNX
                generalize txt (fwAt C (p + 1 + r)).w = y2 at d1 HEX HNX
                have kr : IntKind.i64.wrap (((r + 1 : Nat) : Int) + 1) = ((r + 2 : Nat) : Int) := by rw [IntKind.wrap_i64]; omega
                have kk1 : IntKind.i64.wrap ((kk : Int) + 1) = ((kk + 1 : Nat) : Int) := by rw [IntKind.wrap_i64]; omega
                by_cases hd : yd = x2
                · by_cases hy : yt.toList = y2.toList
                  · have HN := Lib.hid (HE.out (HEX.out hd hy))
                    subst hd
                    have e0 : (yt.toList == y2.toList) = true := by simp [hy]
                    clear HEX HNX HT HE HS1 HC1
                    go_wp2_with fail
                    go_quiet (fail)
                    go_wp2_with fail
                    go_roundw
                    case rel => exact ⟨kk, r + 2, C, by omega, by omega, by omega, by go_num, by go_num, HCL.out, by rw [show p + 1 + (r + 2) = p + 1 + (r + 1) + 1 by omega, HN.out]; exact HLEN.out, by rw [show p + 1 + (r + 2) = p + 1 + (r + 1) + 1 by omega, HN.out]; exact HTK.out, fun j hj => HRE.out j (by omega), HOW.out.kept (below_drewN hwi _), grown_trans HG.out (grown_of_below (below_drewN hwi _) _)⟩
                    case measure => simp [intOf]; omega
                  · have HN := Lib.hid (HT.out (HNX.out fun h => hy h.1))
                    subst hd
                    have e0 : (yt.toList == y2.toList) = false := by simp [hy]
                    clear HEX HNX HT HE
                    go_wp2_with fail
                    go_quiet (fail)
                    go_wp2_with fail
                    go_roundw
                    case rel => exact ⟨kk + 1, r + 2, _, by omega, by omega, by omega, by go_num, by go_num, HC1.out.1, by rw [show p + 1 + (r + 2) = p + 1 + (r + 1) + 1 by omega, HN.out, List.length_append, HLEN.out]; rfl, by rw [show p + 1 + (r + 2) = p + 1 + (r + 1) + 1 by omega, HN.out]; exact HC1.out.2.1, fun j hj => HC1.out.2.2 j (by omega), (HS1.out _).1, (HS1.out _).2⟩
                    case measure => simp [intOf]; omega
                · have HN := Lib.hid (HT.out (HNX.out fun h => hd h.2))
                  have e0 : decide (yd = x2) = false := by simp [hd]
                  have e1 : (yd == x2) = false := by simp [hd]
                  clear HEX HNX HT HE
                  go_wp2_with fail
                  go_quiet (fail)
                  go_wp2_with fail
                  go_roundw
                  case rel => exact ⟨kk + 1, r + 2, _, by omega, by omega, by omega, by go_num, by go_num, HC1.out.1, by rw [show p + 1 + (r + 2) = p + 1 + (r + 1) + 1 by omega, HN.out, List.length_append, HLEN.out]; rfl, by rw [show p + 1 + (r + 2) = p + 1 + (r + 1) + 1 by omega, HN.out]; exact HC1.out.2.1, fun j hj => HC1.out.2.2 j (by omega), (HS1.out _).1, (HS1.out _).2⟩
                  case measure => simp [intOf]; omega
              · obtain rfl : q = n - (p + 1) := by omega
                have hpn2 : p + 1 + (n - (p + 1)) = n := by omega
                rw [hpn2] at hlen htk
                have hkn : kk < n := by omega
                have hcells : ∀ j, j < (n - kk) * 2 → (wr.cell? ⟨g, kk * 2 + j, none⟩).isSome = true := fun j hj => by rw [hOw.cell (kk * 2 + j) (by omega)]; rfl
                have hfr : ∀ j, j < (n - kk) * 2 → wr.frozen? ⟨g, kk * 2 + j, none⟩ = false := fun j _ => hOw.frozen _
                have hrun := run_clear_far wr 0 g (kk * 2) (n - kk) (cap - kk) (by omega) hcells hfr
                obtain ⟨Z, hZ⟩ : ∃ Z, (Builtin.zeroCells zeroF.cells (n - kk)).toList = Z := ⟨_, rfl⟩
                rw [hZ] at hrun
                clear hZ
                have kc : ¬ cap = kk := by omega
                have HOW := Lib.hid hOw; have HLEN := Lib.hid hlen; have HTK := Lib.hid htk; have HCL := Lib.hid hC
                clear hOw hlen htk hC hcells hfr hrest
                have HEND := Lib.hid (fun Z => HOW.out.clears (g := g) Z (kk * 2))
                go_wp2_with fail
                go_ret
                obtain ⟨V', h1, h2, h3⟩ := HEND.out Z
                rw [HLEN.out]
                refine ⟨_, rfl, by omega, .inr ⟨g, 0, rfl, fun i hi => ?_⟩, grown_trans HG.out h3⟩
                rw [fws_length, HLEN.out] at hi
                rw [Nat.zero_add, h1.cell i (by omega)]
                have e1 : fws (compN S n) = (fws C).take (kk * 2) := by rw [← HTK.out, fws_take _ _ (by rw [HCL.out]; omega)]
                rw [e1, ← h2]
                simp [valAt, List.getD_eq_getElem?_getD, hi]
          · have HN := Lib.hid (HT.out (HNX.out fun h => hy h.1))
            subst hd
            have e0 : (y1.toList == y2.toList) = false := by simp [hy]
            clear HEX HNX HT HE
            go_wp2_with fail
            go_quiet (fail)
            go_wp2_with fail
            go_roundw
            case rel => exact ⟨p + 1 + 1, by omega, by omega, by go_num, HN.out, below_drewN HB.out _⟩
            case measure => simp [intOf]; omega
        · have HN := Lib.hid (HT.out (HNX.out fun h => hd h.2))
          have e0 : decide (x1 = x2) = false := by simp [hd]
          have e1 : (x1 == x2) = false := by simp [hd]
          clear HEX HNX HT HE
          go_wp2_with fail
          go_quiet (fail)
          go_wp2_with fail
          go_roundw
          case rel => exact ⟨p + 1 + 1, by omega, by omega, by go_num, HN.out, below_drewN HB.out _⟩
          case measure => simp [intOf]; omega
      · obtain rfl : k = n := by omega
        have HC := Lib.hid (show compN S k = S by rw [hc, List.take_of_length_le (by rw [HS.out]; exact Nat.le_refl _)])
        clear hc
        go_wp2_with fail
        go_ret
        rw [HC.out, HS.out]
        exact ⟨_, rfl, hcap, (HO.out.kept hb).vals, grown_of_below hb _⟩
end Go.Proofs.Ytpniiaemgobaiaa

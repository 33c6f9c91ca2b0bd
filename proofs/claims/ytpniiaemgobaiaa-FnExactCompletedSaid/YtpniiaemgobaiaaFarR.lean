/-
  Chapter 19's model: a word more, by rank. (mk_farr.py)
-/
import Derived.Test.YtpniiaemgobaiaaFarA
import Derived.Deep.RegionLaw
import Derived.BigRegion
import Derived.Test.YtpniiaemgobaiaaAppV
namespace Go.Proofs.Ytpniiaemgobaiaa
open Go.RowKit
set_option linter.unusedVariables false
set_option maxRecDepth 100000
def dsF (L : List Fw) : List Value := (L.map (·.d)).map (Value.int .i64)
def wsF (L : List Fw) : List Value := strs (L.map (·.w))
theorem OwnV.other {e1 e2 m1 m2 : Nat} {w w1 : World} {B1 B2 n1 n2 c1 c2 : Nat} {a1 a2 : Option Addr} {V1 V2 : List Value} (h1 : OwnV e1 m1 w B1 a1 n1 c1 V1) (h2 : OwnV e2 m2 w B2 a2 n2 c2 V2) (hne : e1 ≠ e2) (hg : w.grownBy w1 (Value.slice a2 n2 c2).ownBlock) : OwnV e1 m1 w1 B1 a1 n1 c1 V1 := by
  refine ⟨h1.1, h1.2.kept hg ?_⟩
  rcases h1.2.2 with ⟨hv, _⟩ | ⟨g1, d1, cur1, hv1, _, hg1, _⟩
  · rw [hv]; exact .inl rfl
  · refine .inr fun e => ?_
    rcases h2.2.2 with ⟨hv2, _⟩ | ⟨g2, d2, cur2, hv2, _, hg2, _⟩
    · rw [hv1, hv2] at e; cases e
    · rw [hv1, hv2] at e
      have : g1 = g2 := by simpa [Value.ownBlock] using e
      subst this
      rw [hg1] at hg2
      cases hg2
      exact hne rfl
theorem own_ints_take {w : World} {B g n cap : Nat} {D : List Int} (h : OwnV 2 1 w B (some ⟨g, 0, none⟩) n cap (D.map (Value.int .i64))) (k : Nat) : Ints w (some ⟨g, 0, none⟩) (D.take k) := by
  refine .inr ⟨g, 0, rfl, fun i hi => ?_⟩
  have hl := h.len
  rw [List.length_map] at hl
  rw [List.length_take] at hi
  rw [Nat.zero_add, h.cell i (by omega), valAt_map D i (by omega)]
  simp [intAt, List.getD_eq_getElem?_getD, show i < k by omega]
set_option maxHeartbeats 1000000 in
theorem spec_l1CopyF (L : List Int) (a : Option Addr) (n cap : Nat) (w : World) (hn : L.length = n) (h : Ints w a L) (hlen : n ≤ 1048577) :
    Calls Try.prog 85 #[.slice a n cap] w fun e w' => ∃ a' cap', e = .returned (.slice a' n cap') ∧ OwnV 2 1 w' w.heap.size a' n cap' (L.map (Value.int .i64)) ∧ Below w.heap.size w w' := by
  obtain ⟨i0, hi, ht0, ht1, ht2⟩ := info_parts int_info
  have HN := Lib.hid hn; clear hn
  have hnews := Lib.hid (show News (w.alloc (.cells #[] 2)) a (L.map (Value.int .i64)) from (h.kept ((Below.refl _ w).alloc (Nat.le_refl _) _)).vals.news)
  have hone := Lib.hid (ints_oneCell .i64 L)
  have HL2 := Lib.hid (show (L.map (Value.int .i64)).length = n * 1 by rw [List.length_map, HN.out, Nat.mul_one])
  go_enter Try.func85, Try.ntmps85
  go_wp2_with (at_builtin; refine wpList_append_vals rfl _ _ 78 rfl w.heap.size 2 i0 (.int .i64 0) 1 8 Try.underlying78 hi ht0 ht1 ht2 rfl (by decide) _ _ _ rfl (World.ownsRow_made w #[] 0 (Nat.le_refl _) (by decide) rfl) a n cap (L.map (Value.int .i64)) rfl HL2.out hnews.out hone.out (by unfold maxLen; omega) (by omega) (by simp) ?_; intro v' w1 hown' hg)
  have hown2 : w1.ownsRow w.heap.size 2 1 v' n (L.map (Value.int .i64)) := by simpa using hown'
  obtain ⟨a', cap', rfl, hO⟩ := OwnV.shape HL2.out hown2
  go_wp2
  go_ret
  exact ⟨_, _, rfl, hO, ((Below.refl _ w).alloc (Nat.le_refl _) _).grown hg (by simp) (fun q hq => by cases hq; exact Nat.le_refl _)⟩
set_option maxHeartbeats 16000000 in
theorem spec_l19Rank (X : ByteArray) (d : Int) (L : List Fw) (g gf n cap capf B : Nat) (w : World) (hn : L.length = n) (hnn : n ≤ 30) (hO : OwnV 9 1 w B (some ⟨g, 0, none⟩) n cap (wsF L)) (hF : OwnV 2 1 w B (some ⟨gf, 0, none⟩) n capf (dsF L)) (hB : B ≤ w.heap.size) (hXs : X.size ≤ 1048576) :
    Calls Try.prog 68 #[.slice (some ⟨g, 0, none⟩) n cap, .slice (some ⟨gf, 0, none⟩) n capf, .string X, .int .i64 d] w fun e w' => ∃ g' gf' cap' capf', e = .returned (.tuple #[.slice (some ⟨g', 0, none⟩) (rankIn ⟨d, bl X⟩ L).length cap', .slice (some ⟨gf', 0, none⟩) (rankIn ⟨d, bl X⟩ L).length capf']) ∧ OwnV 9 1 w' B (some ⟨g', 0, none⟩) (rankIn ⟨d, bl X⟩ L).length cap' (wsF (rankIn ⟨d, bl X⟩ L)) ∧ OwnV 2 1 w' B (some ⟨gf', 0, none⟩) (rankIn ⟨d, bl X⟩ L).length capf' (dsF (rankIn ⟨d, bl X⟩ L)) ∧ Below w.heap.size w w' := by
  obtain ⟨i0, hi, ht0, ht1, ht2⟩ := info_parts str_info
  obtain ⟨iz, hzi, hy0, hy1, hy2⟩ := info_parts int_info
  obtain ⟨x, hx⟩ : ∃ x, bl X = x := ⟨_, rfl⟩
  rw [hx]
  have HX := Lib.hid hx
  have HN := Lib.hid hn
  have hnc := hO.cap_le
  have hncf := hF.cap_le
  have hgl : g < w.heap.size := hO.turn_lt g rfl
  have hgfl : gf < w.heap.size := hF.turn_lt gf rfl
  have HOO := Lib.hid hO
  have HFF := Lib.hid hF
  obtain ⟨M, hM⟩ : ∃ M, L.map (·.w) = M := ⟨_, rfl⟩
  obtain ⟨D, hD⟩ : ∃ D, L.map (·.d) = D := ⟨_, rfl⟩
  have HM := Lib.hid (show wsF L = strs M by rw [← hM]; rfl); have HDD := Lib.hid (show dsF L = D.map (Value.int .i64) by rw [← hD]; rfl)
  have HMM := Lib.hid hM; have HDM := Lib.hid hD
  rw [HM.out] at HOO; rw [HDD.out] at HFF
  have HML := Lib.hid (show M.length = n by rw [← hM, List.length_map, hn])
  have HDL0 := Lib.hid (show D.length = n by rw [← hD, List.length_map, hn])
  have HAT := Lib.hid (show ∀ j, j < n → M.getD j [] = (L.getD j default).w ∧ intAt D j = (L.getD j default).d from fun j hj => by
    have hjl : j < L.length := by rw [hn]; exact hj
    rw [← hM, ← hD]; simp [intAt, List.getD_eq_getElem?_getD, hjl])
  clear hx hn hO hF hM hD
  go_enter Try.func68, Try.ntmps68
  go_wp2_with fail
  go_loopw [10] (fun i wi => ∃ (k : Nat), k ≤ n ∧ i = .int .i64 (k : Int) ∧ (∀ j, j < k → ltW (L.getD j default) ⟨d, x⟩ = true) ∧ wi = w)
    (fun i _ => n - (intOf i).toNat)
  case atStart => exact ⟨0, by omega, rfl, fun j hj => by omega, rfl⟩
  case round =>
    obtain ⟨k, hk, rfl, hall, hwi⟩ := hrel
    have hwj := hwi.symm
    clear hwi
    subst hwj
    have HA := Lib.hid hall
    clear hall
    by_cases hlt2 : k < n
    · have r0 := HOO.out.cell k (by omega)
      rw [strs_at (by rw [HML.out]; exact hlt2)] at r0
      have f0 := HFF.out.cell k (by omega)
      rw [valAt_map D k (by rw [HDL0.out]; exact hlt2)] at f0
      obtain ⟨hat1, hat2⟩ := HAT.out k hlt2
      rw [hat1] at r0; rw [hat2] at f0
      obtain ⟨q, hq⟩ : ∃ q, L.getD k default = q := ⟨_, rfl⟩
      rw [hq] at r0 f0
      obtain ⟨dq, wq⟩ := q
      simp only at r0 f0
      obtain ⟨A, hA⟩ : ∃ A, txt wq = A := ⟨_, rfl⟩
      have hY : bl A = wq := by rw [← hA, bl_txt]
      rw [hA] at r0
      have sl := strLt A X
      have se := strEq A X
      rw [hY, HX.out] at sl se
      have HQ := Lib.hid hq
      have HGO := Lib.hid (fun (h : ltW ⟨dq, wq⟩ ⟨d, x⟩ = true) => show ∀ j, j < k + 1 → ltW (L.getD j default) ⟨d, x⟩ = true from fun j hj => by
        by_cases e : j = k
        · rw [e, hq]; exact h
        · exact HA.out j (by omega))
      clear hA hY hq hat1 hat2
      by_cases hd1 : dq < d
      · have HS := Lib.hid (HGO.out (ltW_yes.2 (.inl hd1)))
        have e0 : decide (dq < d) = true := decide_eq_true hd1
        clear sl se HGO
        go_wp2_with fail
        go_roundw
        case rel => exact ⟨k + 1, by omega, by go_num, HS.out, by first | rfl | trivial⟩
        case measure => simp [intOf]; omega
      · have e0 : decide (dq < d) = false := decide_eq_false hd1
        by_cases hd2 : dq = d
        · subst hd2
          have e00 : (dq == dq) = true := by simp
          by_cases hxy : wq < x
          · have HS := Lib.hid (HGO.out (ltW_yes.2 (.inr ⟨rfl, hxy⟩)))
            have e1 : Op.bytesLess A.toList X.toList = true := by rw [sl]; exact decide_eq_true hxy
            clear sl se HGO
            go_wp2_with fail
            go_roundw
            case rel => exact ⟨k + 1, by omega, by go_num, HS.out, by first | rfl | trivial⟩
            case measure => simp [intOf]; omega
          · have e1 : Op.bytesLess A.toList X.toList = false := by rw [sl]; exact decide_eq_false hxy
            have hno : ltW (L.getD k default) ⟨dq, x⟩ = false := by rw [HQ.out, ltW_no]; rintro (h | ⟨_, h⟩); exact hd1 h; exact hxy h
            by_cases he : wq = x
            · have e2 : (A.toList == X.toList) = true := by rw [se]; exact decide_eq_true he
              have HS := Lib.hid (rankIn_same (x := ⟨dq, x⟩) L k (by rw [HN.out]; exact hlt2) HA.out hno (by rw [HQ.out]; exact he))
              clear sl se HGO hno he hxy
              go_wp2_with fail
              go_ret2
              exact ⟨g, gf, cap, capf, by rw [HS.out, HN.out]; rfl, by rw [HS.out, HN.out, HM.out]; exact HOO.out, by rw [HS.out, HN.out, HDD.out]; exact HFF.out, Below.refl _ _⟩
            · have e2 : (A.toList == X.toList) = false := by rw [se]; exact decide_eq_false he
              have HS := Lib.hid (rankIn_split (x := ⟨dq, x⟩) L k (by rw [HN.out]; omega) HA.out (.inr ⟨hno, by rw [HQ.out]; exact he⟩))
              clear sl se HGO hno he hxy HA
              have hck : ¬ cap = k := by omega
              have hcfk : ¬ capf = k := by omega
              have hO := HOO.out
              have hBA : Below w.heap.size w (w.alloc (.cells #[] 9)) := (Below.refl _ _).alloc (Nat.le_refl _) _
              have hp1 := (hO.kept hBA).part 0 k
              have hl1 : (((strs M).drop 0).take k).length = k := by rw [List.length_take, List.drop_zero, strs_length, HML.out]; omega
              have HP1 := Lib.hid hp1; have HL1 := Lib.hid hl1
              have HT := Lib.hid (show ((strs M).drop 0).take k = strs (M.take k) by unfold strs; rw [List.drop_zero, List.map_take])
              have HONE := Lib.hid (show ∀ u ∈ ((strs M).drop 0).take k, u.oneCell' = true by rw [HT.out]; exact strs_one _)
              clear hp1 hl1 hBA hO
              have HTL := Lib.hid (show (strs (M.take k)).length = k * 1 by rw [strs_length, List.length_take, HML.out]; omega)
              have HDL := Lib.hid (show (strs (M.drop k)).length = n - k by rw [strs_length, List.length_drop, HML.out])
              have HDF := Lib.hid (show ((D.drop k).map (Value.int .i64)).length = n - k by rw [List.length_map, List.length_drop, HDL0.out])
              have HTK := Lib.hid (show (D.take k).length = k by rw [List.length_take, HDL0.out]; omega)
              have HNL := Lib.hid (show ∀ (W : World) (ad : Option Addr), Below w.heap.size w W → (ad = some ⟨g, k, none⟩ ∨ (ad = some ⟨g, 0, none⟩ ∧ n = k)) → News W ad (strs (M.drop k)) from fun W ad hW h => by
                rcases h with rfl | ⟨rfl, h⟩
                · refine .inr ⟨_, rfl, ?_⟩
                  have := (HOO.out.kept hW).part k (n - k)
                  rwa [show ((strs M).drop k).take (n - k) = strs (M.drop k) by unfold strs; rw [← List.map_drop]; exact List.take_of_length_le (by rw [List.length_map, List.length_drop, HML.out]; omega)] at this
                · rw [List.drop_of_length_le (by rw [HML.out]; omega)]
                  exact .inr ⟨_, rfl, fun j u hu => by simp [strs] at hu⟩)
              have HNF := Lib.hid (show ∀ (W : World) (ad : Option Addr), Below w.heap.size w W → (ad = some ⟨gf, k, none⟩ ∨ (ad = some ⟨gf, 0, none⟩ ∧ n = k)) → News W ad ((D.drop k).map (Value.int .i64)) from fun W ad hW h => by
                rcases h with rfl | ⟨rfl, h⟩
                · refine .inr ⟨_, rfl, ?_⟩
                  have := (HFF.out.kept hW).part k (n - k)
                  rwa [show ((D.map (Value.int .i64)).drop k).take (n - k) = (D.drop k).map (Value.int .i64) by rw [← List.map_drop]; exact List.take_of_length_le (by rw [List.length_map, List.length_drop, HDL0.out]; omega)] at this
                · rw [List.drop_of_length_le (by rw [HDL0.out]; omega)]
                  exact .inr ⟨_, rfl, fun j u hu => by simp at hu⟩)
              have HRL := Lib.hid (show (rankIn ⟨dq, x⟩ L).length = n + 1 by rw [HS.out, List.length_append, List.length_cons, List.length_take, List.length_drop, HN.out]; omega)
              have HRM := Lib.hid (show wsF (rankIn ⟨dq, x⟩ L) = strs (M.take k) ++ [Value.string X] ++ strs (M.drop k) by unfold wsF; rw [HS.out, List.map_append, List.map_cons, List.map_take, List.map_drop, HMM.out, strs_append, ← HX.out]; simp [strs, strV, txt_bl])
              have HRD := Lib.hid (show dsF (rankIn ⟨dq, x⟩ L) = (D.take k).map (Value.int .i64) ++ [Value.int .i64 dq] ++ (D.drop k).map (Value.int .i64) by unfold dsF; rw [HS.out, List.map_append, List.map_cons, List.map_take, List.map_drop, HDM.out]; simp)
              clear HS
              go_wp2_with (first
                | (at_builtin; (refine wpList_append_own _ rfl _ _ 35 rfl w.heap.size 9 i0 (.string ⟨#[]⟩) 1 16 Try.underlying35 hi ht0 ht1 ht2 rfl (by decide) _ _ _ rfl (World.ownsRow_made w #[] 0 (Nat.le_refl _) (by decide) rfl) ⟨g, 0, none⟩ k cap (((strs M).drop 0).take k) rfl (by rw [HL1.out]; omega) HP1.out HONE.out (by unfold maxLen; omega) (by omega) (by simp) ?_; intro v1 w1 hown1 hg1 _; obtain ⟨a1, cap1, rfl, hO1⟩ := OwnV.shape HTL.out (show w1.ownsRow w.heap.size 9 1 v1 k (strs (M.take k)) by rw [← HT.out]; simpa using hown1); have hb1 : Below w.heap.size w w1 := ((Below.refl _ w).alloc (Nat.le_refl _) _).grown hg1 (by simp) (fun q hq => by cases hq; exact Nat.le_refl _); have HO1 := Lib.hid hO1; have HB1 := Lib.hid hb1; clear hown1 hg1 hO1 hb1))
                | (at_builtin; have hB2 : Below w1.heap.size w1 (w1.alloc (.cells #[Value.string X] 9)) := (Below.refl _ _).alloc (Nat.le_refl _) _; have HK2 := Lib.hid (HO1.out.kept hB2); have HC2 := Lib.hid (cells_new w1 #[Value.string X] 9); have HS1 := Lib.hid HB1.out.size; have HL2 := Lib.hid (show (strs (M.take k) ++ [Value.string X]).length = (k + 1) * 1 by rw [List.length_append, HTL.out]; simp); clear hB2; (refine wpList_append_own _ rfl _ _ 35 rfl w.heap.size 9 i0 (.string ⟨#[]⟩) 1 16 Try.underlying35 hi ht0 ht1 ht2 rfl (by decide) _ _ _ rfl HK2.out.2 ⟨w1.heap.size, 0, none⟩ 1 1 [Value.string X] rfl rfl HC2.out (by simp [Value.oneCell']) (by unfold maxLen; omega) (by omega) (by have := HS1.out; simp; omega) ?_; intro v2 w2 hown2 hg2 _; obtain ⟨a2, cap2, rfl, hO2⟩ := OwnV.shape HL2.out (show w2.ownsRow w.heap.size 9 1 v2 (k + 1) (strs (M.take k) ++ [Value.string X]) by exact hown2); have HB2 := Lib.hid (HB1.out.trans (((Below.refl _ w1).alloc HS1.out _).trans (HK2.out.turn (by have := HS1.out; simp; omega) hg2))); have HO2 := Lib.hid hO2; have hz2 := HB2.out.size; clear hown2 hg2 hO2 HC2 HK2))
                | (go_at_call 85; refine (spec_l1CopyF (D.take k) _ k capf _ HTK.out (own_ints_take (HFF.out.kept HB2.out) k) (by omega)).mono ?_; rintro e w3 ⟨a3, cap3, rfl, hO3, hb3⟩; have HO3 := Lib.hid hO3; have HB3 := Lib.hid hb3; have hz3 := hb3.size; clear hO3 hb3)
                | (at_builtin; have hB4 : Below w3.heap.size w3 (w3.alloc (.cells #[Value.int .i64 dq] 2)) := (Below.refl _ _).alloc (Nat.le_refl _) _; have HK4 := Lib.hid (HO3.out.kept hB4); have HC4 := Lib.hid (cells_new w3 #[Value.int .i64 dq] 2); have HL4 := Lib.hid (show ((D.take k).map (Value.int .i64) ++ [Value.int .i64 dq]).length = (k + 1) * 1 by rw [List.length_append, List.length_map, HTK.out]; simp); have HB4a := Lib.hid (HB3.out.trans (hB4.mono hz3)); clear hB4; go_must (refine wpList_append_own _ rfl _ _ 78 rfl w2.heap.size 2 iz (.int .i64 0) 1 8 Try.underlying78 hzi hy0 hy1 hy2 rfl (by decide) _ _ _ rfl HK4.out.2 ⟨w3.heap.size, 0, none⟩ 1 1 [Value.int .i64 dq] rfl rfl HC4.out (by simp [Value.oneCell']) (by unfold maxLen; omega) (by omega) (by simp; omega) ?_; intro v4 w4 hown4 hg4 _; obtain ⟨a4, cap4, rfl, hO4⟩ := OwnV.shape HL4.out (show w4.ownsRow w2.heap.size 2 1 v4 (k + 1) ((D.take k).map (Value.int .i64) ++ [Value.int .i64 dq]) by exact hown4); have HB4 := Lib.hid (HB4a.out.trans (HK4.out.turn (by simp; omega) hg4)); have HM4 := Lib.hid (hO4.mono hz2); have HO4 := Lib.hid (HO2.out.kept HB4.out); clear hown4 hg4 hO4 HC4 HK4)))
              have hz4 := HB4.out.size
              have HO5 := Lib.hid (HO4.out.kept ((Below.refl _ w4).drew))
              have HM5 := Lib.hid (HM4.out.kept ((Below.refl _ w4).drew))
              have HB5 := Lib.hid ((HB2.out.trans (HB4.out.mono hz2)).drew)
              have HL4 := Lib.hid (show ((D.take k).map (Value.int .i64) ++ [Value.int .i64 dq] ++ (D.drop k).map (Value.int .i64)).length = (n + 1) * 1 by rw [List.length_append, List.length_append, List.length_map, HTK.out, HDF.out]; simp <;> omega)
              have HL2 := Lib.hid (show (strs (M.take k) ++ [Value.string X] ++ strs (M.drop k)).length = (n + 1) * 1 by rw [List.length_append, List.length_append, HTL.out, HDL.out]; simp <;> omega)
              go_region_law (first
                | ((refine step_append_vals (o := ⟨some 83, _, _, _, _, _⟩) rfl (.tmp 79) (.tmp 82) 78 rfl w.heap.size 2 iz (.int .i64 0) 1 8 Try.underlying78 hzi hy0 hy1 hy2 rfl (by decide) (.slice a4 (k + 1) cap4) (k + 1) ((D.take k).map (Value.int .i64) ++ [Value.int .i64 dq]) (by kernel_rfl) HM6.out.2 (some ⟨gf, k, none⟩) (n - k) (capf - k) ((D.drop k).map (Value.int .i64)) (by kernel_rfl) (by rw [HDF.out]; first | rfl | omega) (HNF.out _ _ HB6.out (by first | exact .inl rfl | exact .inr ⟨rfl, by first | rfl | trivial⟩)) (ints_oneCell .i64 _) (by unfold maxLen; omega) (by omega) HB6.out.size ?_; intro v8 w8 hown8 hg8; obtain ⟨aHM8, cHM8, rfl, hO8⟩ := OwnV.shape HL4.out (show w8.ownsRow w.heap.size 2 1 v8 (n + 1) (((D.take k).map (Value.int .i64) ++ [Value.int .i64 dq]) ++ ((D.drop k).map (Value.int .i64))) by first | exact hown8 | (rw [show n + 1 = k + 1 + (n - k) by omega]; exact hown8)); have HM8 := Lib.hid hO8; have HO8 := Lib.hid (HO6.out.other HM6.out (by decide) hg8); have HB8 := Lib.hid (HB6.out.trans (HM6.out.turn HB6.out.size hg8)); clear hown8 hg8 hO8))
                | ((refine step_append_vals (o := ⟨some 78, _, _, _, _, _⟩) rfl (.tmp 74) (.tmp 77) 35 rfl w.heap.size 9 i0 (.string ⟨#[]⟩) 1 16 Try.underlying35 hi ht0 ht1 ht2 rfl (by decide) (.slice a2 (k + 1) cap2) (k + 1) (strs (M.take k) ++ [Value.string X]) (by kernel_rfl) HO5.out.2 (some ⟨g, k, none⟩) (n - k) (cap - k) (strs (M.drop k)) (by kernel_rfl) (by rw [HDL.out]; first | rfl | omega) (HNL.out _ _ HB5.out (by first | exact .inl rfl | exact .inr ⟨rfl, by first | rfl | trivial⟩)) (strs_one _) (by unfold maxLen; omega) (by omega) HB5.out.size ?_; intro v6 w6 hown6 hg6; obtain ⟨aHO6, cHO6, rfl, hO6⟩ := OwnV.shape HL2.out (show w6.ownsRow w.heap.size 9 1 v6 (n + 1) ((strs (M.take k) ++ [Value.string X]) ++ (strs (M.drop k))) by first | exact hown6 | (rw [show n + 1 = k + 1 + (n - k) by omega]; exact hown6)); have HO6 := Lib.hid hO6; have HM6 := Lib.hid (HM5.out.other HO5.out (by decide) hg6); have HB6 := Lib.hid (HB5.out.trans (HO5.out.turn HB5.out.size hg6)); clear hown6 hg6 hO6)))
              all_goals
                go_wp2_with fail
                obtain ⟨b1, rfl, _, _⟩ := HO8.out.head 0 (by omega)
                obtain ⟨b2, rfl, _, _⟩ := HM8.out.head 0 (by omega)
                go_ret2
                exact ⟨b1, b2, _, _, by rw [HRL.out]; rfl, by rw [HRL.out, HRM.out]; exact HO8.out.mono hB, by rw [HRL.out, HRD.out]; exact HM8.out.mono hB, HB8.out⟩
        · have e00 : (dq == d) = false := by simp [hd2]
          have e01 : decide (dq = d) = false := by simp [hd2]
          have hno : ltW (L.getD k default) ⟨d, x⟩ = false := by rw [HQ.out, ltW_no]; rintro (h | ⟨h, _⟩); exact hd1 h; exact hd2 h
          by_cases he : wq = x
          · have e2 : (A.toList == X.toList) = true := by rw [se]; exact decide_eq_true he
            have HS := Lib.hid (rankIn_same (x := ⟨d, x⟩) L k (by rw [HN.out]; exact hlt2) HA.out hno (by rw [HQ.out]; exact he))
            clear sl se HGO hno he
            go_wp2_with fail
            go_ret2
            exact ⟨g, gf, cap, capf, by rw [HS.out, HN.out]; rfl, by rw [HS.out, HN.out, HM.out]; exact HOO.out, by rw [HS.out, HN.out, HDD.out]; exact HFF.out, Below.refl _ _⟩
          · have e2 : (A.toList == X.toList) = false := by rw [se]; exact decide_eq_false he
            have HS := Lib.hid (rankIn_split (x := ⟨d, x⟩) L k (by rw [HN.out]; omega) HA.out (.inr ⟨hno, by rw [HQ.out]; exact he⟩))
            clear sl se HGO hno he HA
            have hck : ¬ cap = k := by omega
            have hcfk : ¬ capf = k := by omega
            have hO := HOO.out
            have hBA : Below w.heap.size w (w.alloc (.cells #[] 9)) := (Below.refl _ _).alloc (Nat.le_refl _) _
            have hp1 := (hO.kept hBA).part 0 k
            have hl1 : (((strs M).drop 0).take k).length = k := by rw [List.length_take, List.drop_zero, strs_length, HML.out]; omega
            have HP1 := Lib.hid hp1; have HL1 := Lib.hid hl1
            have HT := Lib.hid (show ((strs M).drop 0).take k = strs (M.take k) by unfold strs; rw [List.drop_zero, List.map_take])
            have HONE := Lib.hid (show ∀ u ∈ ((strs M).drop 0).take k, u.oneCell' = true by rw [HT.out]; exact strs_one _)
            clear hp1 hl1 hBA hO
            have HTL := Lib.hid (show (strs (M.take k)).length = k * 1 by rw [strs_length, List.length_take, HML.out]; omega)
            have HDL := Lib.hid (show (strs (M.drop k)).length = n - k by rw [strs_length, List.length_drop, HML.out])
            have HDF := Lib.hid (show ((D.drop k).map (Value.int .i64)).length = n - k by rw [List.length_map, List.length_drop, HDL0.out])
            have HTK := Lib.hid (show (D.take k).length = k by rw [List.length_take, HDL0.out]; omega)
            have HNL := Lib.hid (show ∀ (W : World) (ad : Option Addr), Below w.heap.size w W → (ad = some ⟨g, k, none⟩ ∨ (ad = some ⟨g, 0, none⟩ ∧ n = k)) → News W ad (strs (M.drop k)) from fun W ad hW h => by
              rcases h with rfl | ⟨rfl, h⟩
              · refine .inr ⟨_, rfl, ?_⟩
                have := (HOO.out.kept hW).part k (n - k)
                rwa [show ((strs M).drop k).take (n - k) = strs (M.drop k) by unfold strs; rw [← List.map_drop]; exact List.take_of_length_le (by rw [List.length_map, List.length_drop, HML.out]; omega)] at this
              · rw [List.drop_of_length_le (by rw [HML.out]; omega)]
                exact .inr ⟨_, rfl, fun j u hu => by simp [strs] at hu⟩)
            have HNF := Lib.hid (show ∀ (W : World) (ad : Option Addr), Below w.heap.size w W → (ad = some ⟨gf, k, none⟩ ∨ (ad = some ⟨gf, 0, none⟩ ∧ n = k)) → News W ad ((D.drop k).map (Value.int .i64)) from fun W ad hW h => by
              rcases h with rfl | ⟨rfl, h⟩
              · refine .inr ⟨_, rfl, ?_⟩
                have := (HFF.out.kept hW).part k (n - k)
                rwa [show ((D.map (Value.int .i64)).drop k).take (n - k) = (D.drop k).map (Value.int .i64) by rw [← List.map_drop]; exact List.take_of_length_le (by rw [List.length_map, List.length_drop, HDL0.out]; omega)] at this
              · rw [List.drop_of_length_le (by rw [HDL0.out]; omega)]
                exact .inr ⟨_, rfl, fun j u hu => by simp at hu⟩)
            have HRL := Lib.hid (show (rankIn ⟨d, x⟩ L).length = n + 1 by rw [HS.out, List.length_append, List.length_cons, List.length_take, List.length_drop, HN.out]; omega)
            have HRM := Lib.hid (show wsF (rankIn ⟨d, x⟩ L) = strs (M.take k) ++ [Value.string X] ++ strs (M.drop k) by unfold wsF; rw [HS.out, List.map_append, List.map_cons, List.map_take, List.map_drop, HMM.out, strs_append, ← HX.out]; simp [strs, strV, txt_bl])
            have HRD := Lib.hid (show dsF (rankIn ⟨d, x⟩ L) = (D.take k).map (Value.int .i64) ++ [Value.int .i64 d] ++ (D.drop k).map (Value.int .i64) by unfold dsF; rw [HS.out, List.map_append, List.map_cons, List.map_take, List.map_drop, HDM.out]; simp)
            clear HS
            go_wp2_with (first
              | (at_builtin; (refine wpList_append_own _ rfl _ _ 35 rfl w.heap.size 9 i0 (.string ⟨#[]⟩) 1 16 Try.underlying35 hi ht0 ht1 ht2 rfl (by decide) _ _ _ rfl (World.ownsRow_made w #[] 0 (Nat.le_refl _) (by decide) rfl) ⟨g, 0, none⟩ k cap (((strs M).drop 0).take k) rfl (by rw [HL1.out]; omega) HP1.out HONE.out (by unfold maxLen; omega) (by omega) (by simp) ?_; intro v1 w1 hown1 hg1 _; obtain ⟨a1, cap1, rfl, hO1⟩ := OwnV.shape HTL.out (show w1.ownsRow w.heap.size 9 1 v1 k (strs (M.take k)) by rw [← HT.out]; simpa using hown1); have hb1 : Below w.heap.size w w1 := ((Below.refl _ w).alloc (Nat.le_refl _) _).grown hg1 (by simp) (fun q hq => by cases hq; exact Nat.le_refl _); have HO1 := Lib.hid hO1; have HB1 := Lib.hid hb1; clear hown1 hg1 hO1 hb1))
              | (at_builtin; have hB2 : Below w1.heap.size w1 (w1.alloc (.cells #[Value.string X] 9)) := (Below.refl _ _).alloc (Nat.le_refl _) _; have HK2 := Lib.hid (HO1.out.kept hB2); have HC2 := Lib.hid (cells_new w1 #[Value.string X] 9); have HS1 := Lib.hid HB1.out.size; have HL2 := Lib.hid (show (strs (M.take k) ++ [Value.string X]).length = (k + 1) * 1 by rw [List.length_append, HTL.out]; simp); clear hB2; (refine wpList_append_own _ rfl _ _ 35 rfl w.heap.size 9 i0 (.string ⟨#[]⟩) 1 16 Try.underlying35 hi ht0 ht1 ht2 rfl (by decide) _ _ _ rfl HK2.out.2 ⟨w1.heap.size, 0, none⟩ 1 1 [Value.string X] rfl rfl HC2.out (by simp [Value.oneCell']) (by unfold maxLen; omega) (by omega) (by have := HS1.out; simp; omega) ?_; intro v2 w2 hown2 hg2 _; obtain ⟨a2, cap2, rfl, hO2⟩ := OwnV.shape HL2.out (show w2.ownsRow w.heap.size 9 1 v2 (k + 1) (strs (M.take k) ++ [Value.string X]) by exact hown2); have HB2 := Lib.hid (HB1.out.trans (((Below.refl _ w1).alloc HS1.out _).trans (HK2.out.turn (by have := HS1.out; simp; omega) hg2))); have HO2 := Lib.hid hO2; have hz2 := HB2.out.size; clear hown2 hg2 hO2 HC2 HK2))
              | (go_at_call 85; refine (spec_l1CopyF (D.take k) _ k capf _ HTK.out (own_ints_take (HFF.out.kept HB2.out) k) (by omega)).mono ?_; rintro e w3 ⟨a3, cap3, rfl, hO3, hb3⟩; have HO3 := Lib.hid hO3; have HB3 := Lib.hid hb3; have hz3 := hb3.size; clear hO3 hb3)
              | (at_builtin; have hB4 : Below w3.heap.size w3 (w3.alloc (.cells #[Value.int .i64 d] 2)) := (Below.refl _ _).alloc (Nat.le_refl _) _; have HK4 := Lib.hid (HO3.out.kept hB4); have HC4 := Lib.hid (cells_new w3 #[Value.int .i64 d] 2); have HL4 := Lib.hid (show ((D.take k).map (Value.int .i64) ++ [Value.int .i64 d]).length = (k + 1) * 1 by rw [List.length_append, List.length_map, HTK.out]; simp); have HB4a := Lib.hid (HB3.out.trans (hB4.mono hz3)); clear hB4; go_must (refine wpList_append_own _ rfl _ _ 78 rfl w2.heap.size 2 iz (.int .i64 0) 1 8 Try.underlying78 hzi hy0 hy1 hy2 rfl (by decide) _ _ _ rfl HK4.out.2 ⟨w3.heap.size, 0, none⟩ 1 1 [Value.int .i64 d] rfl rfl HC4.out (by simp [Value.oneCell']) (by unfold maxLen; omega) (by omega) (by simp; omega) ?_; intro v4 w4 hown4 hg4 _; obtain ⟨a4, cap4, rfl, hO4⟩ := OwnV.shape HL4.out (show w4.ownsRow w2.heap.size 2 1 v4 (k + 1) ((D.take k).map (Value.int .i64) ++ [Value.int .i64 d]) by exact hown4); have HB4 := Lib.hid (HB4a.out.trans (HK4.out.turn (by simp; omega) hg4)); have HM4 := Lib.hid (hO4.mono hz2); have HO4 := Lib.hid (HO2.out.kept HB4.out); clear hown4 hg4 hO4 HC4 HK4)))
            have hz4 := HB4.out.size
            have HO5 := Lib.hid (HO4.out.kept ((Below.refl _ w4).drew))
            have HM5 := Lib.hid (HM4.out.kept ((Below.refl _ w4).drew))
            have HB5 := Lib.hid ((HB2.out.trans (HB4.out.mono hz2)).drew)
            have HL4 := Lib.hid (show ((D.take k).map (Value.int .i64) ++ [Value.int .i64 d] ++ (D.drop k).map (Value.int .i64)).length = (n + 1) * 1 by rw [List.length_append, List.length_append, List.length_map, HTK.out, HDF.out]; simp <;> omega)
            have HL2 := Lib.hid (show (strs (M.take k) ++ [Value.string X] ++ strs (M.drop k)).length = (n + 1) * 1 by rw [List.length_append, List.length_append, HTL.out, HDL.out]; simp <;> omega)
            go_region_law (first
              | ((refine step_append_vals (o := ⟨some 83, _, _, _, _, _⟩) rfl (.tmp 79) (.tmp 82) 78 rfl w.heap.size 2 iz (.int .i64 0) 1 8 Try.underlying78 hzi hy0 hy1 hy2 rfl (by decide) (.slice a4 (k + 1) cap4) (k + 1) ((D.take k).map (Value.int .i64) ++ [Value.int .i64 d]) (by kernel_rfl) HM6.out.2 (some ⟨gf, k, none⟩) (n - k) (capf - k) ((D.drop k).map (Value.int .i64)) (by kernel_rfl) (by rw [HDF.out]; first | rfl | omega) (HNF.out _ _ HB6.out (by first | exact .inl rfl | exact .inr ⟨rfl, by first | rfl | trivial⟩)) (ints_oneCell .i64 _) (by unfold maxLen; omega) (by omega) HB6.out.size ?_; intro v8 w8 hown8 hg8; obtain ⟨aHM8, cHM8, rfl, hO8⟩ := OwnV.shape HL4.out (show w8.ownsRow w.heap.size 2 1 v8 (n + 1) (((D.take k).map (Value.int .i64) ++ [Value.int .i64 d]) ++ ((D.drop k).map (Value.int .i64))) by first | exact hown8 | (rw [show n + 1 = k + 1 + (n - k) by omega]; exact hown8)); have HM8 := Lib.hid hO8; have HO8 := Lib.hid (HO6.out.other HM6.out (by decide) hg8); have HB8 := Lib.hid (HB6.out.trans (HM6.out.turn HB6.out.size hg8)); clear hown8 hg8 hO8))
              | ((refine step_append_vals (o := ⟨some 78, _, _, _, _, _⟩) rfl (.tmp 74) (.tmp 77) 35 rfl w.heap.size 9 i0 (.string ⟨#[]⟩) 1 16 Try.underlying35 hi ht0 ht1 ht2 rfl (by decide) (.slice a2 (k + 1) cap2) (k + 1) (strs (M.take k) ++ [Value.string X]) (by kernel_rfl) HO5.out.2 (some ⟨g, k, none⟩) (n - k) (cap - k) (strs (M.drop k)) (by kernel_rfl) (by rw [HDL.out]; first | rfl | omega) (HNL.out _ _ HB5.out (by first | exact .inl rfl | exact .inr ⟨rfl, by first | rfl | trivial⟩)) (strs_one _) (by unfold maxLen; omega) (by omega) HB5.out.size ?_; intro v6 w6 hown6 hg6; obtain ⟨aHO6, cHO6, rfl, hO6⟩ := OwnV.shape HL2.out (show w6.ownsRow w.heap.size 9 1 v6 (n + 1) ((strs (M.take k) ++ [Value.string X]) ++ (strs (M.drop k))) by first | exact hown6 | (rw [show n + 1 = k + 1 + (n - k) by omega]; exact hown6)); have HO6 := Lib.hid hO6; have HM6 := Lib.hid (HM5.out.other HO5.out (by decide) hg6); have HB6 := Lib.hid (HB5.out.trans (HO5.out.turn HB5.out.size hg6)); clear hown6 hg6 hO6)))
            all_goals
              go_wp2_with fail
              obtain ⟨b1, rfl, _, _⟩ := HO8.out.head 0 (by omega)
              obtain ⟨b2, rfl, _, _⟩ := HM8.out.head 0 (by omega)
              go_ret2
              exact ⟨b1, b2, _, _, by rw [HRL.out]; rfl, by rw [HRL.out, HRM.out]; exact HO8.out.mono hB, by rw [HRL.out, HRD.out]; exact HM8.out.mono hB, HB8.out⟩
    · have hkn : k = n := by omega
      subst hkn
      have HS := Lib.hid (rankIn_split (x := ⟨d, x⟩) L k (by rw [HN.out]; omega) HA.out (.inl HN.out.symm))
      clear HA
      by_cases hcc : cap = k
      · subst hcc
        by_cases hcf : capf = cap
        · subst hcf
          have hO := HOO.out
          have hBA : Below w.heap.size w (w.alloc (.cells #[] 9)) := (Below.refl _ _).alloc (Nat.le_refl _) _
          have hp1 := (hO.kept hBA).part 0 capf
          have hl1 : (((strs M).drop 0).take capf).length = capf := by rw [List.length_take, List.drop_zero, strs_length, HML.out]; omega
          have HP1 := Lib.hid hp1; have HL1 := Lib.hid hl1
          have HT := Lib.hid (show ((strs M).drop 0).take capf = strs (M.take capf) by unfold strs; rw [List.drop_zero, List.map_take])
          have HONE := Lib.hid (show ∀ u ∈ ((strs M).drop 0).take capf, u.oneCell' = true by rw [HT.out]; exact strs_one _)
          clear hp1 hl1 hBA hO
          have HTL := Lib.hid (show (strs (M.take capf)).length = capf * 1 by rw [strs_length, List.length_take, HML.out]; omega)
          have HDL := Lib.hid (show (strs (M.drop capf)).length = capf - capf by rw [strs_length, List.length_drop, HML.out])
          have HDF := Lib.hid (show ((D.drop capf).map (Value.int .i64)).length = capf - capf by rw [List.length_map, List.length_drop, HDL0.out])
          have HTK := Lib.hid (show (D.take capf).length = capf by rw [List.length_take, HDL0.out]; omega)
          have HNL := Lib.hid (show ∀ (W : World) (ad : Option Addr), Below w.heap.size w W → (ad = some ⟨g, capf, none⟩ ∨ (ad = some ⟨g, 0, none⟩ ∧ capf = capf)) → News W ad (strs (M.drop capf)) from fun W ad hW h => by
            rcases h with rfl | ⟨rfl, h⟩
            · refine .inr ⟨_, rfl, ?_⟩
              have := (HOO.out.kept hW).part capf (capf - capf)
              rwa [show ((strs M).drop capf).take (capf - capf) = strs (M.drop capf) by unfold strs; rw [← List.map_drop]; exact List.take_of_length_le (by rw [List.length_map, List.length_drop, HML.out]; omega)] at this
            · rw [List.drop_of_length_le (by rw [HML.out]; omega)]
              exact .inr ⟨_, rfl, fun j u hu => by simp [strs] at hu⟩)
          have HNF := Lib.hid (show ∀ (W : World) (ad : Option Addr), Below w.heap.size w W → (ad = some ⟨gf, capf, none⟩ ∨ (ad = some ⟨gf, 0, none⟩ ∧ capf = capf)) → News W ad ((D.drop capf).map (Value.int .i64)) from fun W ad hW h => by
            rcases h with rfl | ⟨rfl, h⟩
            · refine .inr ⟨_, rfl, ?_⟩
              have := (HFF.out.kept hW).part capf (capf - capf)
              rwa [show ((D.map (Value.int .i64)).drop capf).take (capf - capf) = (D.drop capf).map (Value.int .i64) by rw [← List.map_drop]; exact List.take_of_length_le (by rw [List.length_map, List.length_drop, HDL0.out]; omega)] at this
            · rw [List.drop_of_length_le (by rw [HDL0.out]; omega)]
              exact .inr ⟨_, rfl, fun j u hu => by simp at hu⟩)
          have HRL := Lib.hid (show (rankIn ⟨d, x⟩ L).length = capf + 1 by rw [HS.out, List.length_append, List.length_cons, List.length_take, List.length_drop, HN.out]; omega)
          have HRM := Lib.hid (show wsF (rankIn ⟨d, x⟩ L) = strs (M.take capf) ++ [Value.string X] ++ strs (M.drop capf) by unfold wsF; rw [HS.out, List.map_append, List.map_cons, List.map_take, List.map_drop, HMM.out, strs_append, ← HX.out]; simp [strs, strV, txt_bl])
          have HRD := Lib.hid (show dsF (rankIn ⟨d, x⟩ L) = (D.take capf).map (Value.int .i64) ++ [Value.int .i64 d] ++ (D.drop capf).map (Value.int .i64) by unfold dsF; rw [HS.out, List.map_append, List.map_cons, List.map_take, List.map_drop, HDM.out]; simp)
          clear HS
          go_wp2_with (first
            | (at_builtin; (refine wpList_append_own _ rfl _ _ 35 rfl w.heap.size 9 i0 (.string ⟨#[]⟩) 1 16 Try.underlying35 hi ht0 ht1 ht2 rfl (by decide) _ _ _ rfl (World.ownsRow_made w #[] 0 (Nat.le_refl _) (by decide) rfl) ⟨g, 0, none⟩ capf capf (((strs M).drop 0).take capf) rfl (by rw [HL1.out]; omega) HP1.out HONE.out (by unfold maxLen; omega) (by omega) (by simp) ?_; intro v1 w1 hown1 hg1 _; obtain ⟨a1, cap1, rfl, hO1⟩ := OwnV.shape HTL.out (show w1.ownsRow w.heap.size 9 1 v1 capf (strs (M.take capf)) by rw [← HT.out]; simpa using hown1); have hb1 : Below w.heap.size w w1 := ((Below.refl _ w).alloc (Nat.le_refl _) _).grown hg1 (by simp) (fun q hq => by cases hq; exact Nat.le_refl _); have HO1 := Lib.hid hO1; have HB1 := Lib.hid hb1; clear hown1 hg1 hO1 hb1))
            | (at_builtin; have hB2 : Below w1.heap.size w1 (w1.alloc (.cells #[Value.string X] 9)) := (Below.refl _ _).alloc (Nat.le_refl _) _; have HK2 := Lib.hid (HO1.out.kept hB2); have HC2 := Lib.hid (cells_new w1 #[Value.string X] 9); have HS1 := Lib.hid HB1.out.size; have HL2 := Lib.hid (show (strs (M.take capf) ++ [Value.string X]).length = (capf + 1) * 1 by rw [List.length_append, HTL.out]; simp); clear hB2; (refine wpList_append_own _ rfl _ _ 35 rfl w.heap.size 9 i0 (.string ⟨#[]⟩) 1 16 Try.underlying35 hi ht0 ht1 ht2 rfl (by decide) _ _ _ rfl HK2.out.2 ⟨w1.heap.size, 0, none⟩ 1 1 [Value.string X] rfl rfl HC2.out (by simp [Value.oneCell']) (by unfold maxLen; omega) (by omega) (by have := HS1.out; simp; omega) ?_; intro v2 w2 hown2 hg2 _; obtain ⟨a2, cap2, rfl, hO2⟩ := OwnV.shape HL2.out (show w2.ownsRow w.heap.size 9 1 v2 (capf + 1) (strs (M.take capf) ++ [Value.string X]) by exact hown2); have HB2 := Lib.hid (HB1.out.trans (((Below.refl _ w1).alloc HS1.out _).trans (HK2.out.turn (by have := HS1.out; simp; omega) hg2))); have HO2 := Lib.hid hO2; have hz2 := HB2.out.size; clear hown2 hg2 hO2 HC2 HK2))
            | (go_at_call 85; refine (spec_l1CopyF (D.take capf) _ capf capf _ HTK.out (own_ints_take (HFF.out.kept HB2.out) capf) (by omega)).mono ?_; rintro e w3 ⟨a3, cap3, rfl, hO3, hb3⟩; have HO3 := Lib.hid hO3; have HB3 := Lib.hid hb3; have hz3 := hb3.size; clear hO3 hb3)
            | (at_builtin; have hB4 : Below w3.heap.size w3 (w3.alloc (.cells #[Value.int .i64 d] 2)) := (Below.refl _ _).alloc (Nat.le_refl _) _; have HK4 := Lib.hid (HO3.out.kept hB4); have HC4 := Lib.hid (cells_new w3 #[Value.int .i64 d] 2); have HL4 := Lib.hid (show ((D.take capf).map (Value.int .i64) ++ [Value.int .i64 d]).length = (capf + 1) * 1 by rw [List.length_append, List.length_map, HTK.out]; simp); have HB4a := Lib.hid (HB3.out.trans (hB4.mono hz3)); clear hB4; go_must (refine wpList_append_own _ rfl _ _ 78 rfl w2.heap.size 2 iz (.int .i64 0) 1 8 Try.underlying78 hzi hy0 hy1 hy2 rfl (by decide) _ _ _ rfl HK4.out.2 ⟨w3.heap.size, 0, none⟩ 1 1 [Value.int .i64 d] rfl rfl HC4.out (by simp [Value.oneCell']) (by unfold maxLen; omega) (by omega) (by simp; omega) ?_; intro v4 w4 hown4 hg4 _; obtain ⟨a4, cap4, rfl, hO4⟩ := OwnV.shape HL4.out (show w4.ownsRow w2.heap.size 2 1 v4 (capf + 1) ((D.take capf).map (Value.int .i64) ++ [Value.int .i64 d]) by exact hown4); have HB4 := Lib.hid (HB4a.out.trans (HK4.out.turn (by simp; omega) hg4)); have HM4 := Lib.hid (hO4.mono hz2); have HO4 := Lib.hid (HO2.out.kept HB4.out); clear hown4 hg4 hO4 HC4 HK4)))
          have hz4 := HB4.out.size
          have HO5 := Lib.hid (HO4.out.kept ((Below.refl _ w4).drew))
          have HM5 := Lib.hid (HM4.out.kept ((Below.refl _ w4).drew))
          have HB5 := Lib.hid ((HB2.out.trans (HB4.out.mono hz2)).drew)
          have HL4 := Lib.hid (show ((D.take capf).map (Value.int .i64) ++ [Value.int .i64 d] ++ (D.drop capf).map (Value.int .i64)).length = (capf + 1) * 1 by rw [List.length_append, List.length_append, List.length_map, HTK.out, HDF.out]; simp <;> omega)
          have HL2 := Lib.hid (show (strs (M.take capf) ++ [Value.string X] ++ strs (M.drop capf)).length = (capf + 1) * 1 by rw [List.length_append, List.length_append, HTL.out, HDL.out]; simp <;> omega)
          go_region_law (first
            | ((refine step_append_vals (o := ⟨some 83, _, _, _, _, _⟩) rfl (.tmp 79) (.tmp 82) 78 rfl w.heap.size 2 iz (.int .i64 0) 1 8 Try.underlying78 hzi hy0 hy1 hy2 rfl (by decide) (.slice a4 (capf + 1) cap4) (capf + 1) ((D.take capf).map (Value.int .i64) ++ [Value.int .i64 d]) (by kernel_rfl) HM6.out.2 (some ⟨gf, 0, none⟩) (0) (0) ((D.drop capf).map (Value.int .i64)) (by kernel_rfl) (by rw [HDF.out]; first | rfl | omega) (HNF.out _ _ HB6.out (by first | exact .inl rfl | exact .inr ⟨rfl, by first | rfl | trivial⟩)) (ints_oneCell .i64 _) (by unfold maxLen; omega) (by omega) HB6.out.size ?_; intro v8 w8 hown8 hg8; obtain ⟨aHM8, cHM8, rfl, hO8⟩ := OwnV.shape HL4.out (show w8.ownsRow w.heap.size 2 1 v8 (capf + 1) (((D.take capf).map (Value.int .i64) ++ [Value.int .i64 d]) ++ ((D.drop capf).map (Value.int .i64))) by first | exact hown8 | (rw [show capf + 1 = capf + 1 + (capf - capf) by omega]; exact hown8)); have HM8 := Lib.hid hO8; have HO8 := Lib.hid (HO6.out.other HM6.out (by decide) hg8); have HB8 := Lib.hid (HB6.out.trans (HM6.out.turn HB6.out.size hg8)); clear hown8 hg8 hO8))
            | ((refine step_append_vals (o := ⟨some 78, _, _, _, _, _⟩) rfl (.tmp 74) (.tmp 77) 35 rfl w.heap.size 9 i0 (.string ⟨#[]⟩) 1 16 Try.underlying35 hi ht0 ht1 ht2 rfl (by decide) (.slice a2 (capf + 1) cap2) (capf + 1) (strs (M.take capf) ++ [Value.string X]) (by kernel_rfl) HO5.out.2 (some ⟨g, 0, none⟩) (0) (0) (strs (M.drop capf)) (by kernel_rfl) (by rw [HDL.out]; first | rfl | omega) (HNL.out _ _ HB5.out (by first | exact .inl rfl | exact .inr ⟨rfl, by first | rfl | trivial⟩)) (strs_one _) (by unfold maxLen; omega) (by omega) HB5.out.size ?_; intro v6 w6 hown6 hg6; obtain ⟨aHO6, cHO6, rfl, hO6⟩ := OwnV.shape HL2.out (show w6.ownsRow w.heap.size 9 1 v6 (capf + 1) ((strs (M.take capf) ++ [Value.string X]) ++ (strs (M.drop capf))) by first | exact hown6 | (rw [show capf + 1 = capf + 1 + (capf - capf) by omega]; exact hown6)); have HO6 := Lib.hid hO6; have HM6 := Lib.hid (HM5.out.other HO5.out (by decide) hg6); have HB6 := Lib.hid (HB5.out.trans (HO5.out.turn HB5.out.size hg6)); clear hown6 hg6 hO6)))
          all_goals
            go_wp2_with fail
            obtain ⟨b1, rfl, _, _⟩ := HO8.out.head 0 (by omega)
            obtain ⟨b2, rfl, _, _⟩ := HM8.out.head 0 (by omega)
            go_ret2
            exact ⟨b1, b2, _, _, by rw [HRL.out]; rfl, by rw [HRL.out, HRM.out]; exact HO8.out.mono hB, by rw [HRL.out, HRD.out]; exact HM8.out.mono hB, HB8.out⟩
        · have hcf2 : cap < capf := by omega
          have hcfk : ¬ capf = cap := by omega
          have hO := HOO.out
          have hBA : Below w.heap.size w (w.alloc (.cells #[] 9)) := (Below.refl _ _).alloc (Nat.le_refl _) _
          have hp1 := (hO.kept hBA).part 0 cap
          have hl1 : (((strs M).drop 0).take cap).length = cap := by rw [List.length_take, List.drop_zero, strs_length, HML.out]; omega
          have HP1 := Lib.hid hp1; have HL1 := Lib.hid hl1
          have HT := Lib.hid (show ((strs M).drop 0).take cap = strs (M.take cap) by unfold strs; rw [List.drop_zero, List.map_take])
          have HONE := Lib.hid (show ∀ u ∈ ((strs M).drop 0).take cap, u.oneCell' = true by rw [HT.out]; exact strs_one _)
          clear hp1 hl1 hBA hO
          have HTL := Lib.hid (show (strs (M.take cap)).length = cap * 1 by rw [strs_length, List.length_take, HML.out]; omega)
          have HDL := Lib.hid (show (strs (M.drop cap)).length = cap - cap by rw [strs_length, List.length_drop, HML.out])
          have HDF := Lib.hid (show ((D.drop cap).map (Value.int .i64)).length = cap - cap by rw [List.length_map, List.length_drop, HDL0.out])
          have HTK := Lib.hid (show (D.take cap).length = cap by rw [List.length_take, HDL0.out]; omega)
          have HNL := Lib.hid (show ∀ (W : World) (ad : Option Addr), Below w.heap.size w W → (ad = some ⟨g, cap, none⟩ ∨ (ad = some ⟨g, 0, none⟩ ∧ cap = cap)) → News W ad (strs (M.drop cap)) from fun W ad hW h => by
            rcases h with rfl | ⟨rfl, h⟩
            · refine .inr ⟨_, rfl, ?_⟩
              have := (HOO.out.kept hW).part cap (cap - cap)
              rwa [show ((strs M).drop cap).take (cap - cap) = strs (M.drop cap) by unfold strs; rw [← List.map_drop]; exact List.take_of_length_le (by rw [List.length_map, List.length_drop, HML.out]; omega)] at this
            · rw [List.drop_of_length_le (by rw [HML.out]; omega)]
              exact .inr ⟨_, rfl, fun j u hu => by simp [strs] at hu⟩)
          have HNF := Lib.hid (show ∀ (W : World) (ad : Option Addr), Below w.heap.size w W → (ad = some ⟨gf, cap, none⟩ ∨ (ad = some ⟨gf, 0, none⟩ ∧ cap = cap)) → News W ad ((D.drop cap).map (Value.int .i64)) from fun W ad hW h => by
            rcases h with rfl | ⟨rfl, h⟩
            · refine .inr ⟨_, rfl, ?_⟩
              have := (HFF.out.kept hW).part cap (cap - cap)
              rwa [show ((D.map (Value.int .i64)).drop cap).take (cap - cap) = (D.drop cap).map (Value.int .i64) by rw [← List.map_drop]; exact List.take_of_length_le (by rw [List.length_map, List.length_drop, HDL0.out]; omega)] at this
            · rw [List.drop_of_length_le (by rw [HDL0.out]; omega)]
              exact .inr ⟨_, rfl, fun j u hu => by simp at hu⟩)
          have HRL := Lib.hid (show (rankIn ⟨d, x⟩ L).length = cap + 1 by rw [HS.out, List.length_append, List.length_cons, List.length_take, List.length_drop, HN.out]; omega)
          have HRM := Lib.hid (show wsF (rankIn ⟨d, x⟩ L) = strs (M.take cap) ++ [Value.string X] ++ strs (M.drop cap) by unfold wsF; rw [HS.out, List.map_append, List.map_cons, List.map_take, List.map_drop, HMM.out, strs_append, ← HX.out]; simp [strs, strV, txt_bl])
          have HRD := Lib.hid (show dsF (rankIn ⟨d, x⟩ L) = (D.take cap).map (Value.int .i64) ++ [Value.int .i64 d] ++ (D.drop cap).map (Value.int .i64) by unfold dsF; rw [HS.out, List.map_append, List.map_cons, List.map_take, List.map_drop, HDM.out]; simp)
          clear HS
          go_wp2_with (first
            | (at_builtin; (refine wpList_append_own _ rfl _ _ 35 rfl w.heap.size 9 i0 (.string ⟨#[]⟩) 1 16 Try.underlying35 hi ht0 ht1 ht2 rfl (by decide) _ _ _ rfl (World.ownsRow_made w #[] 0 (Nat.le_refl _) (by decide) rfl) ⟨g, 0, none⟩ cap cap (((strs M).drop 0).take cap) rfl (by rw [HL1.out]; omega) HP1.out HONE.out (by unfold maxLen; omega) (by omega) (by simp) ?_; intro v1 w1 hown1 hg1 _; obtain ⟨a1, cap1, rfl, hO1⟩ := OwnV.shape HTL.out (show w1.ownsRow w.heap.size 9 1 v1 cap (strs (M.take cap)) by rw [← HT.out]; simpa using hown1); have hb1 : Below w.heap.size w w1 := ((Below.refl _ w).alloc (Nat.le_refl _) _).grown hg1 (by simp) (fun q hq => by cases hq; exact Nat.le_refl _); have HO1 := Lib.hid hO1; have HB1 := Lib.hid hb1; clear hown1 hg1 hO1 hb1))
            | (at_builtin; have hB2 : Below w1.heap.size w1 (w1.alloc (.cells #[Value.string X] 9)) := (Below.refl _ _).alloc (Nat.le_refl _) _; have HK2 := Lib.hid (HO1.out.kept hB2); have HC2 := Lib.hid (cells_new w1 #[Value.string X] 9); have HS1 := Lib.hid HB1.out.size; have HL2 := Lib.hid (show (strs (M.take cap) ++ [Value.string X]).length = (cap + 1) * 1 by rw [List.length_append, HTL.out]; simp); clear hB2; (refine wpList_append_own _ rfl _ _ 35 rfl w.heap.size 9 i0 (.string ⟨#[]⟩) 1 16 Try.underlying35 hi ht0 ht1 ht2 rfl (by decide) _ _ _ rfl HK2.out.2 ⟨w1.heap.size, 0, none⟩ 1 1 [Value.string X] rfl rfl HC2.out (by simp [Value.oneCell']) (by unfold maxLen; omega) (by omega) (by have := HS1.out; simp; omega) ?_; intro v2 w2 hown2 hg2 _; obtain ⟨a2, cap2, rfl, hO2⟩ := OwnV.shape HL2.out (show w2.ownsRow w.heap.size 9 1 v2 (cap + 1) (strs (M.take cap) ++ [Value.string X]) by exact hown2); have HB2 := Lib.hid (HB1.out.trans (((Below.refl _ w1).alloc HS1.out _).trans (HK2.out.turn (by have := HS1.out; simp; omega) hg2))); have HO2 := Lib.hid hO2; have hz2 := HB2.out.size; clear hown2 hg2 hO2 HC2 HK2))
            | (go_at_call 85; refine (spec_l1CopyF (D.take cap) _ cap capf _ HTK.out (own_ints_take (HFF.out.kept HB2.out) cap) (by omega)).mono ?_; rintro e w3 ⟨a3, cap3, rfl, hO3, hb3⟩; have HO3 := Lib.hid hO3; have HB3 := Lib.hid hb3; have hz3 := hb3.size; clear hO3 hb3)
            | (at_builtin; have hB4 : Below w3.heap.size w3 (w3.alloc (.cells #[Value.int .i64 d] 2)) := (Below.refl _ _).alloc (Nat.le_refl _) _; have HK4 := Lib.hid (HO3.out.kept hB4); have HC4 := Lib.hid (cells_new w3 #[Value.int .i64 d] 2); have HL4 := Lib.hid (show ((D.take cap).map (Value.int .i64) ++ [Value.int .i64 d]).length = (cap + 1) * 1 by rw [List.length_append, List.length_map, HTK.out]; simp); have HB4a := Lib.hid (HB3.out.trans (hB4.mono hz3)); clear hB4; go_must (refine wpList_append_own _ rfl _ _ 78 rfl w2.heap.size 2 iz (.int .i64 0) 1 8 Try.underlying78 hzi hy0 hy1 hy2 rfl (by decide) _ _ _ rfl HK4.out.2 ⟨w3.heap.size, 0, none⟩ 1 1 [Value.int .i64 d] rfl rfl HC4.out (by simp [Value.oneCell']) (by unfold maxLen; omega) (by omega) (by simp; omega) ?_; intro v4 w4 hown4 hg4 _; obtain ⟨a4, cap4, rfl, hO4⟩ := OwnV.shape HL4.out (show w4.ownsRow w2.heap.size 2 1 v4 (cap + 1) ((D.take cap).map (Value.int .i64) ++ [Value.int .i64 d]) by exact hown4); have HB4 := Lib.hid (HB4a.out.trans (HK4.out.turn (by simp; omega) hg4)); have HM4 := Lib.hid (hO4.mono hz2); have HO4 := Lib.hid (HO2.out.kept HB4.out); clear hown4 hg4 hO4 HC4 HK4)))
          have hz4 := HB4.out.size
          have HO5 := Lib.hid (HO4.out.kept ((Below.refl _ w4).drew))
          have HM5 := Lib.hid (HM4.out.kept ((Below.refl _ w4).drew))
          have HB5 := Lib.hid ((HB2.out.trans (HB4.out.mono hz2)).drew)
          have HL4 := Lib.hid (show ((D.take cap).map (Value.int .i64) ++ [Value.int .i64 d] ++ (D.drop cap).map (Value.int .i64)).length = (cap + 1) * 1 by rw [List.length_append, List.length_append, List.length_map, HTK.out, HDF.out]; simp <;> omega)
          have HL2 := Lib.hid (show (strs (M.take cap) ++ [Value.string X] ++ strs (M.drop cap)).length = (cap + 1) * 1 by rw [List.length_append, List.length_append, HTL.out, HDL.out]; simp <;> omega)
          go_region_law (first
            | ((refine step_append_vals (o := ⟨some 83, _, _, _, _, _⟩) rfl (.tmp 79) (.tmp 82) 78 rfl w.heap.size 2 iz (.int .i64 0) 1 8 Try.underlying78 hzi hy0 hy1 hy2 rfl (by decide) (.slice a4 (cap + 1) cap4) (cap + 1) ((D.take cap).map (Value.int .i64) ++ [Value.int .i64 d]) (by kernel_rfl) HM6.out.2 (some ⟨gf, cap, none⟩) (0) (capf - cap) ((D.drop cap).map (Value.int .i64)) (by kernel_rfl) (by rw [HDF.out]; first | rfl | omega) (HNF.out _ _ HB6.out (by first | exact .inl rfl | exact .inr ⟨rfl, by first | rfl | trivial⟩)) (ints_oneCell .i64 _) (by unfold maxLen; omega) (by omega) HB6.out.size ?_; intro v8 w8 hown8 hg8; obtain ⟨aHM8, cHM8, rfl, hO8⟩ := OwnV.shape HL4.out (show w8.ownsRow w.heap.size 2 1 v8 (cap + 1) (((D.take cap).map (Value.int .i64) ++ [Value.int .i64 d]) ++ ((D.drop cap).map (Value.int .i64))) by first | exact hown8 | (rw [show cap + 1 = cap + 1 + (cap - cap) by omega]; exact hown8)); have HM8 := Lib.hid hO8; have HO8 := Lib.hid (HO6.out.other HM6.out (by decide) hg8); have HB8 := Lib.hid (HB6.out.trans (HM6.out.turn HB6.out.size hg8)); clear hown8 hg8 hO8))
            | ((refine step_append_vals (o := ⟨some 78, _, _, _, _, _⟩) rfl (.tmp 74) (.tmp 77) 35 rfl w.heap.size 9 i0 (.string ⟨#[]⟩) 1 16 Try.underlying35 hi ht0 ht1 ht2 rfl (by decide) (.slice a2 (cap + 1) cap2) (cap + 1) (strs (M.take cap) ++ [Value.string X]) (by kernel_rfl) HO5.out.2 (some ⟨g, 0, none⟩) (0) (0) (strs (M.drop cap)) (by kernel_rfl) (by rw [HDL.out]; first | rfl | omega) (HNL.out _ _ HB5.out (by first | exact .inl rfl | exact .inr ⟨rfl, by first | rfl | trivial⟩)) (strs_one _) (by unfold maxLen; omega) (by omega) HB5.out.size ?_; intro v6 w6 hown6 hg6; obtain ⟨aHO6, cHO6, rfl, hO6⟩ := OwnV.shape HL2.out (show w6.ownsRow w.heap.size 9 1 v6 (cap + 1) ((strs (M.take cap) ++ [Value.string X]) ++ (strs (M.drop cap))) by first | exact hown6 | (rw [show cap + 1 = cap + 1 + (cap - cap) by omega]; exact hown6)); have HO6 := Lib.hid hO6; have HM6 := Lib.hid (HM5.out.other HO5.out (by decide) hg6); have HB6 := Lib.hid (HB5.out.trans (HO5.out.turn HB5.out.size hg6)); clear hown6 hg6 hO6)))
          all_goals
            go_wp2_with fail
            obtain ⟨b1, rfl, _, _⟩ := HO8.out.head 0 (by omega)
            obtain ⟨b2, rfl, _, _⟩ := HM8.out.head 0 (by omega)
            go_ret2
            exact ⟨b1, b2, _, _, by rw [HRL.out]; rfl, by rw [HRL.out, HRM.out]; exact HO8.out.mono hB, by rw [HRL.out, HRD.out]; exact HM8.out.mono hB, HB8.out⟩
      · have hcc2 : k < cap := by omega
        by_cases hcf : capf = k
        · subst hcf
          have hck : ¬ cap = capf := by omega
          have hO := HOO.out
          have hBA : Below w.heap.size w (w.alloc (.cells #[] 9)) := (Below.refl _ _).alloc (Nat.le_refl _) _
          have hp1 := (hO.kept hBA).part 0 capf
          have hl1 : (((strs M).drop 0).take capf).length = capf := by rw [List.length_take, List.drop_zero, strs_length, HML.out]; omega
          have HP1 := Lib.hid hp1; have HL1 := Lib.hid hl1
          have HT := Lib.hid (show ((strs M).drop 0).take capf = strs (M.take capf) by unfold strs; rw [List.drop_zero, List.map_take])
          have HONE := Lib.hid (show ∀ u ∈ ((strs M).drop 0).take capf, u.oneCell' = true by rw [HT.out]; exact strs_one _)
          clear hp1 hl1 hBA hO
          have HTL := Lib.hid (show (strs (M.take capf)).length = capf * 1 by rw [strs_length, List.length_take, HML.out]; omega)
          have HDL := Lib.hid (show (strs (M.drop capf)).length = capf - capf by rw [strs_length, List.length_drop, HML.out])
          have HDF := Lib.hid (show ((D.drop capf).map (Value.int .i64)).length = capf - capf by rw [List.length_map, List.length_drop, HDL0.out])
          have HTK := Lib.hid (show (D.take capf).length = capf by rw [List.length_take, HDL0.out]; omega)
          have HNL := Lib.hid (show ∀ (W : World) (ad : Option Addr), Below w.heap.size w W → (ad = some ⟨g, capf, none⟩ ∨ (ad = some ⟨g, 0, none⟩ ∧ capf = capf)) → News W ad (strs (M.drop capf)) from fun W ad hW h => by
            rcases h with rfl | ⟨rfl, h⟩
            · refine .inr ⟨_, rfl, ?_⟩
              have := (HOO.out.kept hW).part capf (capf - capf)
              rwa [show ((strs M).drop capf).take (capf - capf) = strs (M.drop capf) by unfold strs; rw [← List.map_drop]; exact List.take_of_length_le (by rw [List.length_map, List.length_drop, HML.out]; omega)] at this
            · rw [List.drop_of_length_le (by rw [HML.out]; omega)]
              exact .inr ⟨_, rfl, fun j u hu => by simp [strs] at hu⟩)
          have HNF := Lib.hid (show ∀ (W : World) (ad : Option Addr), Below w.heap.size w W → (ad = some ⟨gf, capf, none⟩ ∨ (ad = some ⟨gf, 0, none⟩ ∧ capf = capf)) → News W ad ((D.drop capf).map (Value.int .i64)) from fun W ad hW h => by
            rcases h with rfl | ⟨rfl, h⟩
            · refine .inr ⟨_, rfl, ?_⟩
              have := (HFF.out.kept hW).part capf (capf - capf)
              rwa [show ((D.map (Value.int .i64)).drop capf).take (capf - capf) = (D.drop capf).map (Value.int .i64) by rw [← List.map_drop]; exact List.take_of_length_le (by rw [List.length_map, List.length_drop, HDL0.out]; omega)] at this
            · rw [List.drop_of_length_le (by rw [HDL0.out]; omega)]
              exact .inr ⟨_, rfl, fun j u hu => by simp at hu⟩)
          have HRL := Lib.hid (show (rankIn ⟨d, x⟩ L).length = capf + 1 by rw [HS.out, List.length_append, List.length_cons, List.length_take, List.length_drop, HN.out]; omega)
          have HRM := Lib.hid (show wsF (rankIn ⟨d, x⟩ L) = strs (M.take capf) ++ [Value.string X] ++ strs (M.drop capf) by unfold wsF; rw [HS.out, List.map_append, List.map_cons, List.map_take, List.map_drop, HMM.out, strs_append, ← HX.out]; simp [strs, strV, txt_bl])
          have HRD := Lib.hid (show dsF (rankIn ⟨d, x⟩ L) = (D.take capf).map (Value.int .i64) ++ [Value.int .i64 d] ++ (D.drop capf).map (Value.int .i64) by unfold dsF; rw [HS.out, List.map_append, List.map_cons, List.map_take, List.map_drop, HDM.out]; simp)
          clear HS
          go_wp2_with (first
            | (at_builtin; (refine wpList_append_own _ rfl _ _ 35 rfl w.heap.size 9 i0 (.string ⟨#[]⟩) 1 16 Try.underlying35 hi ht0 ht1 ht2 rfl (by decide) _ _ _ rfl (World.ownsRow_made w #[] 0 (Nat.le_refl _) (by decide) rfl) ⟨g, 0, none⟩ capf cap (((strs M).drop 0).take capf) rfl (by rw [HL1.out]; omega) HP1.out HONE.out (by unfold maxLen; omega) (by omega) (by simp) ?_; intro v1 w1 hown1 hg1 _; obtain ⟨a1, cap1, rfl, hO1⟩ := OwnV.shape HTL.out (show w1.ownsRow w.heap.size 9 1 v1 capf (strs (M.take capf)) by rw [← HT.out]; simpa using hown1); have hb1 : Below w.heap.size w w1 := ((Below.refl _ w).alloc (Nat.le_refl _) _).grown hg1 (by simp) (fun q hq => by cases hq; exact Nat.le_refl _); have HO1 := Lib.hid hO1; have HB1 := Lib.hid hb1; clear hown1 hg1 hO1 hb1))
            | (at_builtin; have hB2 : Below w1.heap.size w1 (w1.alloc (.cells #[Value.string X] 9)) := (Below.refl _ _).alloc (Nat.le_refl _) _; have HK2 := Lib.hid (HO1.out.kept hB2); have HC2 := Lib.hid (cells_new w1 #[Value.string X] 9); have HS1 := Lib.hid HB1.out.size; have HL2 := Lib.hid (show (strs (M.take capf) ++ [Value.string X]).length = (capf + 1) * 1 by rw [List.length_append, HTL.out]; simp); clear hB2; (refine wpList_append_own _ rfl _ _ 35 rfl w.heap.size 9 i0 (.string ⟨#[]⟩) 1 16 Try.underlying35 hi ht0 ht1 ht2 rfl (by decide) _ _ _ rfl HK2.out.2 ⟨w1.heap.size, 0, none⟩ 1 1 [Value.string X] rfl rfl HC2.out (by simp [Value.oneCell']) (by unfold maxLen; omega) (by omega) (by have := HS1.out; simp; omega) ?_; intro v2 w2 hown2 hg2 _; obtain ⟨a2, cap2, rfl, hO2⟩ := OwnV.shape HL2.out (show w2.ownsRow w.heap.size 9 1 v2 (capf + 1) (strs (M.take capf) ++ [Value.string X]) by exact hown2); have HB2 := Lib.hid (HB1.out.trans (((Below.refl _ w1).alloc HS1.out _).trans (HK2.out.turn (by have := HS1.out; simp; omega) hg2))); have HO2 := Lib.hid hO2; have hz2 := HB2.out.size; clear hown2 hg2 hO2 HC2 HK2))
            | (go_at_call 85; refine (spec_l1CopyF (D.take capf) _ capf capf _ HTK.out (own_ints_take (HFF.out.kept HB2.out) capf) (by omega)).mono ?_; rintro e w3 ⟨a3, cap3, rfl, hO3, hb3⟩; have HO3 := Lib.hid hO3; have HB3 := Lib.hid hb3; have hz3 := hb3.size; clear hO3 hb3)
            | (at_builtin; have hB4 : Below w3.heap.size w3 (w3.alloc (.cells #[Value.int .i64 d] 2)) := (Below.refl _ _).alloc (Nat.le_refl _) _; have HK4 := Lib.hid (HO3.out.kept hB4); have HC4 := Lib.hid (cells_new w3 #[Value.int .i64 d] 2); have HL4 := Lib.hid (show ((D.take capf).map (Value.int .i64) ++ [Value.int .i64 d]).length = (capf + 1) * 1 by rw [List.length_append, List.length_map, HTK.out]; simp); have HB4a := Lib.hid (HB3.out.trans (hB4.mono hz3)); clear hB4; go_must (refine wpList_append_own _ rfl _ _ 78 rfl w2.heap.size 2 iz (.int .i64 0) 1 8 Try.underlying78 hzi hy0 hy1 hy2 rfl (by decide) _ _ _ rfl HK4.out.2 ⟨w3.heap.size, 0, none⟩ 1 1 [Value.int .i64 d] rfl rfl HC4.out (by simp [Value.oneCell']) (by unfold maxLen; omega) (by omega) (by simp; omega) ?_; intro v4 w4 hown4 hg4 _; obtain ⟨a4, cap4, rfl, hO4⟩ := OwnV.shape HL4.out (show w4.ownsRow w2.heap.size 2 1 v4 (capf + 1) ((D.take capf).map (Value.int .i64) ++ [Value.int .i64 d]) by exact hown4); have HB4 := Lib.hid (HB4a.out.trans (HK4.out.turn (by simp; omega) hg4)); have HM4 := Lib.hid (hO4.mono hz2); have HO4 := Lib.hid (HO2.out.kept HB4.out); clear hown4 hg4 hO4 HC4 HK4)))
          have hz4 := HB4.out.size
          have HO5 := Lib.hid (HO4.out.kept ((Below.refl _ w4).drew))
          have HM5 := Lib.hid (HM4.out.kept ((Below.refl _ w4).drew))
          have HB5 := Lib.hid ((HB2.out.trans (HB4.out.mono hz2)).drew)
          have HL4 := Lib.hid (show ((D.take capf).map (Value.int .i64) ++ [Value.int .i64 d] ++ (D.drop capf).map (Value.int .i64)).length = (capf + 1) * 1 by rw [List.length_append, List.length_append, List.length_map, HTK.out, HDF.out]; simp <;> omega)
          have HL2 := Lib.hid (show (strs (M.take capf) ++ [Value.string X] ++ strs (M.drop capf)).length = (capf + 1) * 1 by rw [List.length_append, List.length_append, HTL.out, HDL.out]; simp <;> omega)
          go_region_law (first
            | ((refine step_append_vals (o := ⟨some 83, _, _, _, _, _⟩) rfl (.tmp 79) (.tmp 82) 78 rfl w.heap.size 2 iz (.int .i64 0) 1 8 Try.underlying78 hzi hy0 hy1 hy2 rfl (by decide) (.slice a4 (capf + 1) cap4) (capf + 1) ((D.take capf).map (Value.int .i64) ++ [Value.int .i64 d]) (by kernel_rfl) HM6.out.2 (some ⟨gf, 0, none⟩) (0) (0) ((D.drop capf).map (Value.int .i64)) (by kernel_rfl) (by rw [HDF.out]; first | rfl | omega) (HNF.out _ _ HB6.out (by first | exact .inl rfl | exact .inr ⟨rfl, by first | rfl | trivial⟩)) (ints_oneCell .i64 _) (by unfold maxLen; omega) (by omega) HB6.out.size ?_; intro v8 w8 hown8 hg8; obtain ⟨aHM8, cHM8, rfl, hO8⟩ := OwnV.shape HL4.out (show w8.ownsRow w.heap.size 2 1 v8 (capf + 1) (((D.take capf).map (Value.int .i64) ++ [Value.int .i64 d]) ++ ((D.drop capf).map (Value.int .i64))) by first | exact hown8 | (rw [show capf + 1 = capf + 1 + (capf - capf) by omega]; exact hown8)); have HM8 := Lib.hid hO8; have HO8 := Lib.hid (HO6.out.other HM6.out (by decide) hg8); have HB8 := Lib.hid (HB6.out.trans (HM6.out.turn HB6.out.size hg8)); clear hown8 hg8 hO8))
            | ((refine step_append_vals (o := ⟨some 78, _, _, _, _, _⟩) rfl (.tmp 74) (.tmp 77) 35 rfl w.heap.size 9 i0 (.string ⟨#[]⟩) 1 16 Try.underlying35 hi ht0 ht1 ht2 rfl (by decide) (.slice a2 (capf + 1) cap2) (capf + 1) (strs (M.take capf) ++ [Value.string X]) (by kernel_rfl) HO5.out.2 (some ⟨g, capf, none⟩) (0) (cap - capf) (strs (M.drop capf)) (by kernel_rfl) (by rw [HDL.out]; first | rfl | omega) (HNL.out _ _ HB5.out (by first | exact .inl rfl | exact .inr ⟨rfl, by first | rfl | trivial⟩)) (strs_one _) (by unfold maxLen; omega) (by omega) HB5.out.size ?_; intro v6 w6 hown6 hg6; obtain ⟨aHO6, cHO6, rfl, hO6⟩ := OwnV.shape HL2.out (show w6.ownsRow w.heap.size 9 1 v6 (capf + 1) ((strs (M.take capf) ++ [Value.string X]) ++ (strs (M.drop capf))) by first | exact hown6 | (rw [show capf + 1 = capf + 1 + (capf - capf) by omega]; exact hown6)); have HO6 := Lib.hid hO6; have HM6 := Lib.hid (HM5.out.other HO5.out (by decide) hg6); have HB6 := Lib.hid (HB5.out.trans (HO5.out.turn HB5.out.size hg6)); clear hown6 hg6 hO6)))
          all_goals
            go_wp2_with fail
            obtain ⟨b1, rfl, _, _⟩ := HO8.out.head 0 (by omega)
            obtain ⟨b2, rfl, _, _⟩ := HM8.out.head 0 (by omega)
            go_ret2
            exact ⟨b1, b2, _, _, by rw [HRL.out]; rfl, by rw [HRL.out, HRM.out]; exact HO8.out.mono hB, by rw [HRL.out, HRD.out]; exact HM8.out.mono hB, HB8.out⟩
        · have hcf2 : k < capf := by omega
          have hck : ¬ cap = k := by omega
          have hcfk : ¬ capf = k := by omega
          have hO := HOO.out
          have hBA : Below w.heap.size w (w.alloc (.cells #[] 9)) := (Below.refl _ _).alloc (Nat.le_refl _) _
          have hp1 := (hO.kept hBA).part 0 k
          have hl1 : (((strs M).drop 0).take k).length = k := by rw [List.length_take, List.drop_zero, strs_length, HML.out]; omega
          have HP1 := Lib.hid hp1; have HL1 := Lib.hid hl1
          have HT := Lib.hid (show ((strs M).drop 0).take k = strs (M.take k) by unfold strs; rw [List.drop_zero, List.map_take])
          have HONE := Lib.hid (show ∀ u ∈ ((strs M).drop 0).take k, u.oneCell' = true by rw [HT.out]; exact strs_one _)
          clear hp1 hl1 hBA hO
          have HTL := Lib.hid (show (strs (M.take k)).length = k * 1 by rw [strs_length, List.length_take, HML.out]; omega)
          have HDL := Lib.hid (show (strs (M.drop k)).length = k - k by rw [strs_length, List.length_drop, HML.out])
          have HDF := Lib.hid (show ((D.drop k).map (Value.int .i64)).length = k - k by rw [List.length_map, List.length_drop, HDL0.out])
          have HTK := Lib.hid (show (D.take k).length = k by rw [List.length_take, HDL0.out]; omega)
          have HNL := Lib.hid (show ∀ (W : World) (ad : Option Addr), Below w.heap.size w W → (ad = some ⟨g, k, none⟩ ∨ (ad = some ⟨g, 0, none⟩ ∧ k = k)) → News W ad (strs (M.drop k)) from fun W ad hW h => by
            rcases h with rfl | ⟨rfl, h⟩
            · refine .inr ⟨_, rfl, ?_⟩
              have := (HOO.out.kept hW).part k (k - k)
              rwa [show ((strs M).drop k).take (k - k) = strs (M.drop k) by unfold strs; rw [← List.map_drop]; exact List.take_of_length_le (by rw [List.length_map, List.length_drop, HML.out]; omega)] at this
            · rw [List.drop_of_length_le (by rw [HML.out]; omega)]
              exact .inr ⟨_, rfl, fun j u hu => by simp [strs] at hu⟩)
          have HNF := Lib.hid (show ∀ (W : World) (ad : Option Addr), Below w.heap.size w W → (ad = some ⟨gf, k, none⟩ ∨ (ad = some ⟨gf, 0, none⟩ ∧ k = k)) → News W ad ((D.drop k).map (Value.int .i64)) from fun W ad hW h => by
            rcases h with rfl | ⟨rfl, h⟩
            · refine .inr ⟨_, rfl, ?_⟩
              have := (HFF.out.kept hW).part k (k - k)
              rwa [show ((D.map (Value.int .i64)).drop k).take (k - k) = (D.drop k).map (Value.int .i64) by rw [← List.map_drop]; exact List.take_of_length_le (by rw [List.length_map, List.length_drop, HDL0.out]; omega)] at this
            · rw [List.drop_of_length_le (by rw [HDL0.out]; omega)]
              exact .inr ⟨_, rfl, fun j u hu => by simp at hu⟩)
          have HRL := Lib.hid (show (rankIn ⟨d, x⟩ L).length = k + 1 by rw [HS.out, List.length_append, List.length_cons, List.length_take, List.length_drop, HN.out]; omega)
          have HRM := Lib.hid (show wsF (rankIn ⟨d, x⟩ L) = strs (M.take k) ++ [Value.string X] ++ strs (M.drop k) by unfold wsF; rw [HS.out, List.map_append, List.map_cons, List.map_take, List.map_drop, HMM.out, strs_append, ← HX.out]; simp [strs, strV, txt_bl])
          have HRD := Lib.hid (show dsF (rankIn ⟨d, x⟩ L) = (D.take k).map (Value.int .i64) ++ [Value.int .i64 d] ++ (D.drop k).map (Value.int .i64) by unfold dsF; rw [HS.out, List.map_append, List.map_cons, List.map_take, List.map_drop, HDM.out]; simp)
          clear HS
          go_wp2_with (first
            | (at_builtin; (refine wpList_append_own _ rfl _ _ 35 rfl w.heap.size 9 i0 (.string ⟨#[]⟩) 1 16 Try.underlying35 hi ht0 ht1 ht2 rfl (by decide) _ _ _ rfl (World.ownsRow_made w #[] 0 (Nat.le_refl _) (by decide) rfl) ⟨g, 0, none⟩ k cap (((strs M).drop 0).take k) rfl (by rw [HL1.out]; omega) HP1.out HONE.out (by unfold maxLen; omega) (by omega) (by simp) ?_; intro v1 w1 hown1 hg1 _; obtain ⟨a1, cap1, rfl, hO1⟩ := OwnV.shape HTL.out (show w1.ownsRow w.heap.size 9 1 v1 k (strs (M.take k)) by rw [← HT.out]; simpa using hown1); have hb1 : Below w.heap.size w w1 := ((Below.refl _ w).alloc (Nat.le_refl _) _).grown hg1 (by simp) (fun q hq => by cases hq; exact Nat.le_refl _); have HO1 := Lib.hid hO1; have HB1 := Lib.hid hb1; clear hown1 hg1 hO1 hb1))
            | (at_builtin; have hB2 : Below w1.heap.size w1 (w1.alloc (.cells #[Value.string X] 9)) := (Below.refl _ _).alloc (Nat.le_refl _) _; have HK2 := Lib.hid (HO1.out.kept hB2); have HC2 := Lib.hid (cells_new w1 #[Value.string X] 9); have HS1 := Lib.hid HB1.out.size; have HL2 := Lib.hid (show (strs (M.take k) ++ [Value.string X]).length = (k + 1) * 1 by rw [List.length_append, HTL.out]; simp); clear hB2; (refine wpList_append_own _ rfl _ _ 35 rfl w.heap.size 9 i0 (.string ⟨#[]⟩) 1 16 Try.underlying35 hi ht0 ht1 ht2 rfl (by decide) _ _ _ rfl HK2.out.2 ⟨w1.heap.size, 0, none⟩ 1 1 [Value.string X] rfl rfl HC2.out (by simp [Value.oneCell']) (by unfold maxLen; omega) (by omega) (by have := HS1.out; simp; omega) ?_; intro v2 w2 hown2 hg2 _; obtain ⟨a2, cap2, rfl, hO2⟩ := OwnV.shape HL2.out (show w2.ownsRow w.heap.size 9 1 v2 (k + 1) (strs (M.take k) ++ [Value.string X]) by exact hown2); have HB2 := Lib.hid (HB1.out.trans (((Below.refl _ w1).alloc HS1.out _).trans (HK2.out.turn (by have := HS1.out; simp; omega) hg2))); have HO2 := Lib.hid hO2; have hz2 := HB2.out.size; clear hown2 hg2 hO2 HC2 HK2))
            | (go_at_call 85; refine (spec_l1CopyF (D.take k) _ k capf _ HTK.out (own_ints_take (HFF.out.kept HB2.out) k) (by omega)).mono ?_; rintro e w3 ⟨a3, cap3, rfl, hO3, hb3⟩; have HO3 := Lib.hid hO3; have HB3 := Lib.hid hb3; have hz3 := hb3.size; clear hO3 hb3)
            | (at_builtin; have hB4 : Below w3.heap.size w3 (w3.alloc (.cells #[Value.int .i64 d] 2)) := (Below.refl _ _).alloc (Nat.le_refl _) _; have HK4 := Lib.hid (HO3.out.kept hB4); have HC4 := Lib.hid (cells_new w3 #[Value.int .i64 d] 2); have HL4 := Lib.hid (show ((D.take k).map (Value.int .i64) ++ [Value.int .i64 d]).length = (k + 1) * 1 by rw [List.length_append, List.length_map, HTK.out]; simp); have HB4a := Lib.hid (HB3.out.trans (hB4.mono hz3)); clear hB4; go_must (refine wpList_append_own _ rfl _ _ 78 rfl w2.heap.size 2 iz (.int .i64 0) 1 8 Try.underlying78 hzi hy0 hy1 hy2 rfl (by decide) _ _ _ rfl HK4.out.2 ⟨w3.heap.size, 0, none⟩ 1 1 [Value.int .i64 d] rfl rfl HC4.out (by simp [Value.oneCell']) (by unfold maxLen; omega) (by omega) (by simp; omega) ?_; intro v4 w4 hown4 hg4 _; obtain ⟨a4, cap4, rfl, hO4⟩ := OwnV.shape HL4.out (show w4.ownsRow w2.heap.size 2 1 v4 (k + 1) ((D.take k).map (Value.int .i64) ++ [Value.int .i64 d]) by exact hown4); have HB4 := Lib.hid (HB4a.out.trans (HK4.out.turn (by simp; omega) hg4)); have HM4 := Lib.hid (hO4.mono hz2); have HO4 := Lib.hid (HO2.out.kept HB4.out); clear hown4 hg4 hO4 HC4 HK4)))
          have hz4 := HB4.out.size
          have HO5 := Lib.hid (HO4.out.kept ((Below.refl _ w4).drew))
          have HM5 := Lib.hid (HM4.out.kept ((Below.refl _ w4).drew))
          have HB5 := Lib.hid ((HB2.out.trans (HB4.out.mono hz2)).drew)
          have HL4 := Lib.hid (show ((D.take k).map (Value.int .i64) ++ [Value.int .i64 d] ++ (D.drop k).map (Value.int .i64)).length = (k + 1) * 1 by rw [List.length_append, List.length_append, List.length_map, HTK.out, HDF.out]; simp <;> omega)
          have HL2 := Lib.hid (show (strs (M.take k) ++ [Value.string X] ++ strs (M.drop k)).length = (k + 1) * 1 by rw [List.length_append, List.length_append, HTL.out, HDL.out]; simp <;> omega)
          go_region_law (first
            | ((refine step_append_vals (o := ⟨some 83, _, _, _, _, _⟩) rfl (.tmp 79) (.tmp 82) 78 rfl w.heap.size 2 iz (.int .i64 0) 1 8 Try.underlying78 hzi hy0 hy1 hy2 rfl (by decide) (.slice a4 (k + 1) cap4) (k + 1) ((D.take k).map (Value.int .i64) ++ [Value.int .i64 d]) (by kernel_rfl) HM6.out.2 (some ⟨gf, k, none⟩) (0) (capf - k) ((D.drop k).map (Value.int .i64)) (by kernel_rfl) (by rw [HDF.out]; first | rfl | omega) (HNF.out _ _ HB6.out (by first | exact .inl rfl | exact .inr ⟨rfl, by first | rfl | trivial⟩)) (ints_oneCell .i64 _) (by unfold maxLen; omega) (by omega) HB6.out.size ?_; intro v8 w8 hown8 hg8; obtain ⟨aHM8, cHM8, rfl, hO8⟩ := OwnV.shape HL4.out (show w8.ownsRow w.heap.size 2 1 v8 (k + 1) (((D.take k).map (Value.int .i64) ++ [Value.int .i64 d]) ++ ((D.drop k).map (Value.int .i64))) by first | exact hown8 | (rw [show k + 1 = k + 1 + (k - k) by omega]; exact hown8)); have HM8 := Lib.hid hO8; have HO8 := Lib.hid (HO6.out.other HM6.out (by decide) hg8); have HB8 := Lib.hid (HB6.out.trans (HM6.out.turn HB6.out.size hg8)); clear hown8 hg8 hO8))
            | ((refine step_append_vals (o := ⟨some 78, _, _, _, _, _⟩) rfl (.tmp 74) (.tmp 77) 35 rfl w.heap.size 9 i0 (.string ⟨#[]⟩) 1 16 Try.underlying35 hi ht0 ht1 ht2 rfl (by decide) (.slice a2 (k + 1) cap2) (k + 1) (strs (M.take k) ++ [Value.string X]) (by kernel_rfl) HO5.out.2 (some ⟨g, k, none⟩) (0) (cap - k) (strs (M.drop k)) (by kernel_rfl) (by rw [HDL.out]; first | rfl | omega) (HNL.out _ _ HB5.out (by first | exact .inl rfl | exact .inr ⟨rfl, by first | rfl | trivial⟩)) (strs_one _) (by unfold maxLen; omega) (by omega) HB5.out.size ?_; intro v6 w6 hown6 hg6; obtain ⟨aHO6, cHO6, rfl, hO6⟩ := OwnV.shape HL2.out (show w6.ownsRow w.heap.size 9 1 v6 (k + 1) ((strs (M.take k) ++ [Value.string X]) ++ (strs (M.drop k))) by first | exact hown6 | (rw [show k + 1 = k + 1 + (k - k) by omega]; exact hown6)); have HO6 := Lib.hid hO6; have HM6 := Lib.hid (HM5.out.other HO5.out (by decide) hg6); have HB6 := Lib.hid (HB5.out.trans (HO5.out.turn HB5.out.size hg6)); clear hown6 hg6 hO6)))
          all_goals
            go_wp2_with fail
            obtain ⟨b1, rfl, _, _⟩ := HO8.out.head 0 (by omega)
            obtain ⟨b2, rfl, _, _⟩ := HM8.out.head 0 (by omega)
            go_ret2
            exact ⟨b1, b2, _, _, by rw [HRL.out]; rfl, by rw [HRL.out, HRM.out]; exact HO8.out.mono hB, by rw [HRL.out, HRD.out]; exact HM8.out.mono hB, HB8.out⟩
end Go.Proofs.Ytpniiaemgobaiaa

/-
  Chapter 15's model: a text put into a list in order, if it is not there (by wip/tools/mk_put.py).
-/
import Derived.Test.YtpniiaemgobaiabNearP
import Derived.Test.YtpniiaemgobaiabMTree
namespace Go.Proofs.Ytpniiaemgobaiab
open Go.RowKit
set_option linter.unusedVariables false
set_option maxRecDepth 100000
theorem putL_new_len {x : List UInt8} {L : List (List UInt8)} {k n : Nat} (h : putL x L = L.take k ++ x :: L.drop k) (hk : k ≤ n) (hn : L.length = n) : (putL x L).length = n + 1 := by
  rw [h, List.length_append, List.length_cons, List.length_take, List.length_drop]; omega
set_option maxHeartbeats 8000000 in
theorem spec_l15Put (X : ByteArray) (L : List (List UInt8)) (g n cap B : Nat) (w : World) (hn : L.length = n) (hnn : n ≤ 200) (hO : OwnV 9 1 w B (some ⟨g, 0, none⟩) n cap (strs L)) (hB : B ≤ w.heap.size) (hXs : X.size ≤ 1048576) :
    Calls Try.prog 61 #[.slice (some ⟨g, 0, none⟩) n cap, .string X] w fun e w' => ∃ g' cap', e = .returned (.slice (some ⟨g', 0, none⟩) (putL (bl X) L).length cap') ∧ OwnV 9 1 w' B (some ⟨g', 0, none⟩) (putL (bl X) L).length cap' (strs (putL (bl X) L)) ∧ Below w.heap.size w w' := by
  obtain ⟨i0, hi, ht0, ht1, ht2⟩ := info_parts str_info
  obtain ⟨x, hx⟩ : ∃ x, bl X = x := ⟨_, rfl⟩
  rw [hx]
  have HX := Lib.hid hx
  have HN := Lib.hid hn
  have hnc := hO.cap_le
  have hgl : g < w.heap.size := hO.turn_lt g rfl
  have HOO := Lib.hid hO
  clear hx hn hO
  go_enter Try.func61, Try.ntmps61
  go_wp2
  go_loopw [5] (fun i wi => ∃ (k : Nat), k ≤ n ∧ i = .int .i64 (k : Int) ∧ (∀ j, j < k → L.getD j [] < x) ∧ wi = w)
    (fun i _ => n - (intOf i).toNat)
  case atStart => exact ⟨0, by omega, rfl, fun j hj => by omega, rfl⟩
  case round =>
    obtain ⟨k, hk, rfl, hall, hwi⟩ := hrel
    have hwj := hwi.symm
    clear hwi
    subst hwj
    have HA := Lib.hid hall
    clear hall
    by_cases hlt2 : k < n
    · have r0 := HOO.out.cell k (by omega)
      rw [strs_at (by rw [HN.out]; exact hlt2)] at r0
      obtain ⟨A, hA⟩ : ∃ A, txt (L.getD k []) = A := ⟨_, rfl⟩
      have HY := Lib.hid (show bl A = L.getD k [] by rw [← hA, bl_txt])
      rw [hA] at r0
      have sl := strLt A X
      have se := strEq A X
      rw [HY.out, HX.out] at sl se
      clear hA
      by_cases hxy : L.getD k [] < x
      · have hgo : Hid (∀ j, j < k + 1 → L.getD j [] < x) := Lib.hid (fun j hj => by
          by_cases e : j = k
          · rw [e]; exact hxy
          · exact HA.out j (by omega))
        have e1 : Op.bytesLess A.toList X.toList = true := by rw [sl]; exact decide_eq_true hxy
        clear sl se hxy
        go_wp2_with fail
        go_roundw
        case rel => exact ⟨k + 1, by omega, by go_num, hgo.out, by first | rfl | trivial⟩
        case measure => simp [intOf]; omega
      · have e1 : Op.bytesLess A.toList X.toList = false := by rw [sl]; exact decide_eq_false hxy
        by_cases he : L.getD k [] = x
        · have e2 : (A.toList == X.toList) = true := by rw [se]; exact decide_eq_true he
          have HS := Lib.hid (putL_same x L k (by rw [HN.out]; exact hlt2) HA.out he)
          have HP := Lib.hid (show L.length = n from HN.out)
          clear sl se hxy he
          go_wp2_with fail
          go_ret
          exact ⟨g, cap, by rw [HS.out, HP.out]; rfl, by rw [HS.out, HP.out]; exact HOO.out, Below.refl _ _⟩
        · have e2 : (A.toList == X.toList) = false := by rw [se]; exact decide_eq_false he
          have HS := Lib.hid (putL_split x L k (by rw [HN.out]; omega) HA.out (.inr ⟨hxy, he⟩))
          have HLN := Lib.hid (putL_new_len HS.out hk HN.out)
          clear sl se hxy he HA HY
          have hb := Below.refl w.heap.size w
          have hY := Below.refl w.heap.size w
          have hO := HOO.out
          have HOY := Lib.hid (hO.kept hY)
          have hbY := hb.trans (hY.mono hb.size)
          have hYs : w.heap.size ≤ w.heap.size := hb.size
          clear hY hb hO
          have hBA : Below w.heap.size w (w.alloc (.cells #[] 9)) := (Below.refl _ _).alloc (Nat.le_refl _) _
          have hp1 := (HOY.out.kept hBA).part 0 k
          have hl1 : (((strs L).drop 0).take k).length = k := by rw [List.length_take, List.drop_zero, strs_length, HN.out]; omega
          have HP1 := Lib.hid hp1; have HL1 := Lib.hid hl1
          have HT := Lib.hid (show ((strs L).drop 0).take k = strs (L.take k) by unfold strs; rw [List.drop_zero, List.map_take])
          have hone : ∀ u ∈ ((strs L).drop 0).take k, u.oneCell' = true := by rw [HT.out]; exact strs_one _
          have HONE := Lib.hid hone
          clear hp1 hl1 hBA hone
          have HD := Lib.hid (show ((strs L).drop k).take (n - k) = strs (L.drop k) by unfold strs; rw [← List.map_drop]; exact List.take_of_length_le (by rw [List.length_map, List.length_drop, HN.out]; omega))
          have HTL := Lib.hid (show (strs (L.take k)).length = k * 1 by rw [strs_length, List.length_take, HN.out]; omega)
          have HDL := Lib.hid (show (strs (L.drop k)).length = n - k by rw [strs_length, List.length_drop, HN.out])
          go_wp2_with (first | (at_builtin; (refine wpList_append_own _ rfl _ _ 24 rfl w.heap.size 9 i0 (.string ⟨#[]⟩) 1 16 Try.underlying24 hi ht0 ht1 ht2 rfl (by decide) _ _ _ rfl (World.ownsRow_made w #[] 0 (Nat.le_refl _) (by decide) rfl) ⟨g, 0, none⟩ k cap (((strs L).drop 0).take k) rfl (by rw [HL1.out]; omega) HP1.out HONE.out (by unfold maxLen; omega) (by omega) (by simp) ?_; intro v1 w1 hown1 hg1 _; obtain ⟨a1, cap1, rfl, hO1⟩ := OwnV.shape HTL.out (show w1.ownsRow w.heap.size 9 1 v1 k (strs (L.take k)) by rw [← HT.out]; simpa using hown1); have hb1 : Below w.heap.size w w1 := ((Below.refl _ w).alloc (Nat.le_refl _) _).grown hg1 (by simp) (fun q hq => by cases hq; exact Nat.le_refl _); have HO1 := Lib.hid hO1; have HB1 := Lib.hid hb1; clear hown1 hg1 hO1 hb1)) | (at_builtin; have hB2 : Below w1.heap.size w1 (w1.alloc (.cells #[Value.string X] 9)) := (Below.refl _ _).alloc (Nat.le_refl _) _; have HK2 := Lib.hid (HO1.out.kept hB2); have HC2 := Lib.hid (cells_new w1 #[Value.string X] 9); have HS1 := Lib.hid HB1.out.size; have HL2 := Lib.hid (show (strs (L.take k) ++ [Value.string X]).length = (k + 1) * 1 by rw [List.length_append, HTL.out]; simp); clear hB2; (refine wpList_append_own _ rfl _ _ 24 rfl w.heap.size 9 i0 (.string ⟨#[]⟩) 1 16 Try.underlying24 hi ht0 ht1 ht2 rfl (by decide) _ _ _ rfl HK2.out.2 ⟨w1.heap.size, 0, none⟩ 1 1 [Value.string X] rfl rfl HC2.out (by simp [Value.oneCell']) (by unfold maxLen; omega) (by omega) (by have := HS1.out; simp; omega) ?_; intro v2 w2 hown2 hg2 _; obtain ⟨a2, cap2, rfl, hO2⟩ := OwnV.shape HL2.out (show w2.ownsRow w.heap.size 9 1 v2 (k + 1) (strs (L.take k) ++ [Value.string X]) by exact hown2); have HB2 := Lib.hid (HB1.out.trans (((Below.refl _ w1).alloc HS1.out _).trans (HK2.out.turn (by have := HS1.out; simp; omega) hg2))); have HO2 := Lib.hid hO2; clear hown2 hg2 hO2 HC2 HK2)) | (at_builtin; have HP3 := Lib.hid ((HOY.out.kept HB2.out).part k (n - k)); have HONE3 := Lib.hid (show ∀ u ∈ ((strs L).drop k).take (n - k), u.oneCell' = true by rw [HD.out]; exact strs_one _); have HL3 := Lib.hid (show (((strs L).drop k).take (n - k)).length = (n - k) * 1 by rw [HD.out, HDL.out]; omega); have HL4 := Lib.hid (show (strs (L.take k) ++ [Value.string X] ++ strs (L.drop k)).length = (n + 1) * 1 by rw [List.length_append, HL2.out, HDL.out]; omega); have HE := Lib.hid (show strs (putL x L) = strs (L.take k) ++ [Value.string X] ++ strs (L.drop k) by rw [HS.out, strs_append, ← HX.out]; simp [strs, strV, txt_bl]); have HS2 := Lib.hid HB2.out.size; refine wpList_append_own _ rfl _ _ 24 rfl w.heap.size 9 i0 (.string ⟨#[]⟩) 1 16 Try.underlying24 hi ht0 ht1 ht2 rfl (by decide) _ _ _ rfl HO2.out.2 ⟨g, k, none⟩ (n - k) (cap - k) (((strs L).drop k).take (n - k)) rfl HL3.out HP3.out HONE3.out (by unfold maxLen; omega) (by omega) HS2.out ?_; intro v3 w3 hown3 hg3 _; obtain ⟨a3, cap3, rfl, hO3⟩ := OwnV.shape HL4.out (show w3.ownsRow w.heap.size 9 1 v3 (n + 1) (strs (L.take k) ++ [Value.string X] ++ strs (L.drop k)) by rw [← HD.out, show n + 1 = k + 1 + (n - k) by omega]; exact hown3); have HB3 := Lib.hid (HB2.out.trans (HO2.out.turn HS2.out hg3)); have HO3 := Lib.hid hO3; clear hown3 hg3 hO3))
          obtain ⟨g3, rfl, _, hg3l⟩ := HO3.out.head 0 (by omega)
          have HFIN := Lib.hid (show strs (putL x L) = strs (L.take k) ++ [Value.string X] ++ strs (L.drop k) by rw [HS.out, strs_append, ← HX.out]; simp [strs, strV, txt_bl])
          go_ret
          exact ⟨g3, cap3, by rw [HLN.out]; rfl, by rw [HLN.out, HFIN.out]; exact (HO3.out.mono hB), HB3.out⟩


    · have HS := Lib.hid (putL_split x L k (by rw [HN.out]; omega) HA.out (.inl (by rw [HN.out]; omega)))
      have HLN := Lib.hid (putL_new_len HS.out hk HN.out)
      have hkn : ¬ ((k : Int) < (n : Int)) := by omega
      clear HA
      by_cases hcc : k < cap
      · have hcc2 : (k : Int) < cap := by omega
        have hb := Below.refl w.heap.size w
        have hY := Below.refl w.heap.size w
        have hO := HOO.out
        have HOY := Lib.hid (hO.kept hY)
        have hbY := hb.trans (hY.mono hb.size)
        have hYs : w.heap.size ≤ w.heap.size := hb.size
        clear hY hb hO
        have hBA : Below w.heap.size w (w.alloc (.cells #[] 9)) := (Below.refl _ _).alloc (Nat.le_refl _) _
        have hp1 := (HOY.out.kept hBA).part 0 k
        have hl1 : (((strs L).drop 0).take k).length = k := by rw [List.length_take, List.drop_zero, strs_length, HN.out]; omega
        have HP1 := Lib.hid hp1; have HL1 := Lib.hid hl1
        have HT := Lib.hid (show ((strs L).drop 0).take k = strs (L.take k) by unfold strs; rw [List.drop_zero, List.map_take])
        have hone : ∀ u ∈ ((strs L).drop 0).take k, u.oneCell' = true := by rw [HT.out]; exact strs_one _
        have HONE := Lib.hid hone
        clear hp1 hl1 hBA hone
        have HD := Lib.hid (show ((strs L).drop k).take (n - k) = strs (L.drop k) by unfold strs; rw [← List.map_drop]; exact List.take_of_length_le (by rw [List.length_map, List.length_drop, HN.out]; omega))
        have HTL := Lib.hid (show (strs (L.take k)).length = k * 1 by rw [strs_length, List.length_take, HN.out]; omega)
        have HDL := Lib.hid (show (strs (L.drop k)).length = n - k by rw [strs_length, List.length_drop, HN.out])
        go_wp2_with (first | (at_builtin; (refine wpList_append_own _ rfl _ _ 24 rfl w.heap.size 9 i0 (.string ⟨#[]⟩) 1 16 Try.underlying24 hi ht0 ht1 ht2 rfl (by decide) _ _ _ rfl (World.ownsRow_made w #[] 0 (Nat.le_refl _) (by decide) rfl) ⟨g, 0, none⟩ k cap (((strs L).drop 0).take k) rfl (by rw [HL1.out]; omega) HP1.out HONE.out (by unfold maxLen; omega) (by omega) (by simp) ?_; intro v1 w1 hown1 hg1 _; obtain ⟨a1, cap1, rfl, hO1⟩ := OwnV.shape HTL.out (show w1.ownsRow w.heap.size 9 1 v1 k (strs (L.take k)) by rw [← HT.out]; simpa using hown1); have hb1 : Below w.heap.size w w1 := ((Below.refl _ w).alloc (Nat.le_refl _) _).grown hg1 (by simp) (fun q hq => by cases hq; exact Nat.le_refl _); have HO1 := Lib.hid hO1; have HB1 := Lib.hid hb1; clear hown1 hg1 hO1 hb1)) | (at_builtin; have hB2 : Below w1.heap.size w1 (w1.alloc (.cells #[Value.string X] 9)) := (Below.refl _ _).alloc (Nat.le_refl _) _; have HK2 := Lib.hid (HO1.out.kept hB2); have HC2 := Lib.hid (cells_new w1 #[Value.string X] 9); have HS1 := Lib.hid HB1.out.size; have HL2 := Lib.hid (show (strs (L.take k) ++ [Value.string X]).length = (k + 1) * 1 by rw [List.length_append, HTL.out]; simp); clear hB2; (refine wpList_append_own _ rfl _ _ 24 rfl w.heap.size 9 i0 (.string ⟨#[]⟩) 1 16 Try.underlying24 hi ht0 ht1 ht2 rfl (by decide) _ _ _ rfl HK2.out.2 ⟨w1.heap.size, 0, none⟩ 1 1 [Value.string X] rfl rfl HC2.out (by simp [Value.oneCell']) (by unfold maxLen; omega) (by omega) (by have := HS1.out; simp; omega) ?_; intro v2 w2 hown2 hg2 _; obtain ⟨a2, cap2, rfl, hO2⟩ := OwnV.shape HL2.out (show w2.ownsRow w.heap.size 9 1 v2 (k + 1) (strs (L.take k) ++ [Value.string X]) by exact hown2); have HB2 := Lib.hid (HB1.out.trans (((Below.refl _ w1).alloc HS1.out _).trans (HK2.out.turn (by have := HS1.out; simp; omega) hg2))); have HO2 := Lib.hid hO2; clear hown2 hg2 hO2 HC2 HK2)) | (at_builtin; have HP3 := Lib.hid ((HOY.out.kept HB2.out).part k (n - k)); have HONE3 := Lib.hid (show ∀ u ∈ ((strs L).drop k).take (n - k), u.oneCell' = true by rw [HD.out]; exact strs_one _); have HL3 := Lib.hid (show (((strs L).drop k).take (n - k)).length = (n - k) * 1 by rw [HD.out, HDL.out]; omega); have HL4 := Lib.hid (show (strs (L.take k) ++ [Value.string X] ++ strs (L.drop k)).length = (n + 1) * 1 by rw [List.length_append, HL2.out, HDL.out]; omega); have HE := Lib.hid (show strs (putL x L) = strs (L.take k) ++ [Value.string X] ++ strs (L.drop k) by rw [HS.out, strs_append, ← HX.out]; simp [strs, strV, txt_bl]); have HS2 := Lib.hid HB2.out.size; refine wpList_append_own _ rfl _ _ 24 rfl w.heap.size 9 i0 (.string ⟨#[]⟩) 1 16 Try.underlying24 hi ht0 ht1 ht2 rfl (by decide) _ _ _ rfl HO2.out.2 ⟨g, k, none⟩ (n - k) (cap - k) (((strs L).drop k).take (n - k)) rfl HL3.out HP3.out HONE3.out (by unfold maxLen; omega) (by omega) HS2.out ?_; intro v3 w3 hown3 hg3 _; obtain ⟨a3, cap3, rfl, hO3⟩ := OwnV.shape HL4.out (show w3.ownsRow w.heap.size 9 1 v3 (n + 1) (strs (L.take k) ++ [Value.string X] ++ strs (L.drop k)) by rw [← HD.out, show n + 1 = k + 1 + (n - k) by omega]; exact hown3); have HB3 := Lib.hid (HB2.out.trans (HO2.out.turn HS2.out hg3)); have HO3 := Lib.hid hO3; clear hown3 hg3 hO3))
        obtain ⟨g3, rfl, _, hg3l⟩ := HO3.out.head 0 (by omega)
        have HFIN := Lib.hid (show strs (putL x L) = strs (L.take k) ++ [Value.string X] ++ strs (L.drop k) by rw [HS.out, strs_append, ← HX.out]; simp [strs, strV, txt_bl])
        go_ret
        exact ⟨g3, cap3, by rw [HLN.out]; rfl, by rw [HLN.out, HFIN.out]; exact (HO3.out.mono hB), HB3.out⟩


      · have hkn2 : n = k := by omega
        subst hkn2
        have hcn2 : n = cap := by omega
        subst hcn2
        have hb := Below.refl w.heap.size w
        have hY := Below.refl w.heap.size w
        have hO := HOO.out
        have HOY := Lib.hid (hO.kept hY)
        have hbY := hb.trans (hY.mono hb.size)
        have hYs : w.heap.size ≤ w.heap.size := hb.size
        clear hY hb hO
        have hBA : Below w.heap.size w (w.alloc (.cells #[] 9)) := (Below.refl _ _).alloc (Nat.le_refl _) _
        have hp1 := (HOY.out.kept hBA).part 0 n
        have hl1 : (((strs L).drop 0).take n).length = n := by rw [List.length_take, List.drop_zero, strs_length, HN.out]; omega
        have HP1 := Lib.hid hp1; have HL1 := Lib.hid hl1
        have HT := Lib.hid (show ((strs L).drop 0).take n = strs (L.take n) by unfold strs; rw [List.drop_zero, List.map_take])
        have hone : ∀ u ∈ ((strs L).drop 0).take n, u.oneCell' = true := by rw [HT.out]; exact strs_one _
        have HONE := Lib.hid hone
        clear hp1 hl1 hBA hone
        have HD := Lib.hid (show ((strs L).drop n).take (n - n) = strs (L.drop n) by unfold strs; rw [← List.map_drop]; exact List.take_of_length_le (by rw [List.length_map, List.length_drop, HN.out]; omega))
        have HTL := Lib.hid (show (strs (L.take n)).length = n * 1 by rw [strs_length, List.length_take, HN.out]; omega)
        have HDL := Lib.hid (show (strs (L.drop n)).length = n - n by rw [strs_length, List.length_drop, HN.out])
        go_wp2_with (first | (at_builtin; (refine wpList_append_own _ rfl _ _ 24 rfl w.heap.size 9 i0 (.string ⟨#[]⟩) 1 16 Try.underlying24 hi ht0 ht1 ht2 rfl (by decide) _ _ _ rfl (World.ownsRow_made w #[] 0 (Nat.le_refl _) (by decide) rfl) ⟨g, 0, none⟩ n n (((strs L).drop 0).take n) rfl (by rw [HL1.out]; omega) HP1.out HONE.out (by unfold maxLen; omega) (by omega) (by simp) ?_; intro v1 w1 hown1 hg1 _; obtain ⟨a1, cap1, rfl, hO1⟩ := OwnV.shape HTL.out (show w1.ownsRow w.heap.size 9 1 v1 n (strs (L.take n)) by rw [← HT.out]; simpa using hown1); have hb1 : Below w.heap.size w w1 := ((Below.refl _ w).alloc (Nat.le_refl _) _).grown hg1 (by simp) (fun q hq => by cases hq; exact Nat.le_refl _); have HO1 := Lib.hid hO1; have HB1 := Lib.hid hb1; clear hown1 hg1 hO1 hb1)) | (at_builtin; have hB2 : Below w1.heap.size w1 (w1.alloc (.cells #[Value.string X] 9)) := (Below.refl _ _).alloc (Nat.le_refl _) _; have HK2 := Lib.hid (HO1.out.kept hB2); have HC2 := Lib.hid (cells_new w1 #[Value.string X] 9); have HS1 := Lib.hid HB1.out.size; have HL2 := Lib.hid (show (strs (L.take n) ++ [Value.string X]).length = (n + 1) * 1 by rw [List.length_append, HTL.out]; simp); clear hB2; (refine wpList_append_own _ rfl _ _ 24 rfl w.heap.size 9 i0 (.string ⟨#[]⟩) 1 16 Try.underlying24 hi ht0 ht1 ht2 rfl (by decide) _ _ _ rfl HK2.out.2 ⟨w1.heap.size, 0, none⟩ 1 1 [Value.string X] rfl rfl HC2.out (by simp [Value.oneCell']) (by unfold maxLen; omega) (by omega) (by have := HS1.out; simp; omega) ?_; intro v2 w2 hown2 hg2 _; obtain ⟨a2, cap2, rfl, hO2⟩ := OwnV.shape HL2.out (show w2.ownsRow w.heap.size 9 1 v2 (n + 1) (strs (L.take n) ++ [Value.string X]) by exact hown2); have HB2 := Lib.hid (HB1.out.trans (((Below.refl _ w1).alloc HS1.out _).trans (HK2.out.turn (by have := HS1.out; simp; omega) hg2))); have HO2 := Lib.hid hO2; clear hown2 hg2 hO2 HC2 HK2)) | (at_builtin; have HS2 := Lib.hid HB2.out.size; refine wpList_append_own _ rfl _ _ 24 rfl w.heap.size 9 i0 (.string ⟨#[]⟩) 1 16 Try.underlying24 hi ht0 ht1 ht2 rfl (by decide) _ _ _ rfl HO2.out.2 ⟨g, 0, none⟩ 0 0 [] rfl rfl (fun j u h => by simp at h) (by simp) (by unfold maxLen; omega) (by omega) HS2.out ?_; intro v3 w3 hown3 hg3 _; obtain ⟨a3, cap3, rfl, hO3⟩ := OwnV.shape HL2.out (show w3.ownsRow w.heap.size 9 1 v3 (n + 1) (strs (L.take n) ++ [Value.string X]) by simpa using hown3); have HB3 := Lib.hid (HB2.out.trans (HO2.out.turn HS2.out hg3)); have HO3 := Lib.hid hO3; clear hown3 hg3 hO3))
        obtain ⟨g3, rfl, _, hg3l⟩ := HO3.out.head 0 (by omega)
        have HFIN := Lib.hid (show strs (putL x L) = strs (L.take n) ++ [Value.string X] by rw [HS.out, show strs (L.take n ++ x :: L.drop n) = strs (L.take n) ++ [Value.string X] by rw [strs_append, ← HX.out, List.drop_of_length_le (by rw [HN.out]; omega)]; simp [strs, strV, txt_bl]])
        go_ret
        exact ⟨g3, cap3, by rw [HLN.out]; rfl, by rw [HLN.out, HFIN.out]; exact (HO3.out.mono hB), HB3.out⟩


end Go.Proofs.Ytpniiaemgobaiab

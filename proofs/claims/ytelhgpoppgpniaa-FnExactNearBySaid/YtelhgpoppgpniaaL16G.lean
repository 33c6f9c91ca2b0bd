/-
  Chapter 16's model: the pieces of a text, put in one by one (by wip/tools/mk_grams.py).
-/
import Derived.Test.YtelhgpoppgpniaaStrs
import Derived.Test.YtelhgpoppgpniaaRecAdd
import Derived.Maps.AppendAt
namespace Go.Proofs.Ytelhgpoppgpniaa
open Go.RowKit
set_option linter.unusedVariables false
set_option maxRecDepth 100000
theorem str_info : (Try.prog.info? 9).map (fun i => (i.zero, i.size, i.bytes)) = some (some (.string ⟨#[]⟩), 1, 16) := by kernel_rfl
set_option maxHeartbeats 8000000 in
theorem spec_l16Grams (s : ByteArray) (q : Nat) (w : World) (hs : s.size ≤ 200) (hq1 : 1 ≤ q) (hq2 : q ≤ 10) :
    Calls Try.prog 73 #[.string s, .int .i64 (q : Int)] w fun e w' => ∃ a cap, e = .returned (.slice a (s.size + 1 - q) cap) ∧ OwnV 9 1 w' w.heap.size a (s.size + 1 - q) cap (strs (gramsS q s)) ∧ Below w.heap.size w w' := by
  obtain ⟨i0, hi, ht0, ht1, ht2⟩ := info_parts str_info
  have HQ := Lib.hid hq1
  have hO0 : OwnV 9 1 (w.alloc (.cells #[] 9)) w.heap.size (some ⟨w.heap.size, 0, none⟩) 0 0 [] :=
    ⟨rfl, World.ownsRow_made w #[] 0 (Nat.le_refl _) (by decide) rfl⟩
  have hB0 : Below w.heap.size w (w.alloc (.cells #[] 9)) := (Below.refl _ _).alloc (Nat.le_refl _) _
  have HO0 := Lib.hid hO0; have HB0 := Lib.hid hB0
  clear hO0 hB0
  go_enter Try.func73, Try.ntmps73
  go_wp2
  go_loopw [5, 6] (fun o i wr => ∃ (n g cap : Nat), n ≤ s.size + 1 - q ∧ i = .int .i64 (n : Int) ∧ o = .slice (some ⟨g, 0, none⟩) n cap ∧ OwnV 9 1 wr w.heap.size (some ⟨g, 0, none⟩) n cap (strs (sortTo q (bl s) n)) ∧ Below w.heap.size w wr)
    (fun _ i _ => s.size + 1 - q - (intOf i).toNat)
  case atStart => exact ⟨0, w.heap.size, 0, by omega, rfl, rfl, HO0.out, HB0.out⟩
  case round =>
    obtain ⟨n, g, cap, hm, rfl, rfl, hO, hb⟩ := hrel
    have hnc := hO.cap_le
    by_cases hlt : n + q ≤ s.size
    · have hl1 : decide ((n : Int) + (q : Int) ≤ (s.size : Int)) = true := by simp; omega
      have hl0 : (n : Int) + (q : Int) ≤ (s.size : Int) := by omega
      have hm0 : (0 : Int) ≤ (n : Int) := by omega
      have hm1 : (n : Int) ≤ (n : Int) + (q : Int) := by omega
      have HSX := Lib.hid (gramAt_extract s q n)
      have HXZ : (s.extract n (n + q)).size ≤ 200 := by rw [ByteArray.size_extract]; omega
      obtain ⟨X, hX⟩ : ∃ X, s.extract n (n + q) = X := ⟨_, rfl⟩
      rw [hX] at HSX HXZ
      obtain ⟨x, hx⟩ : ∃ x, bl X = x := ⟨_, rfl⟩
      have HX := Lib.hid hx
      have HGX := Lib.hid (show gramAt q (bl s) n = x by rw [← hx]; exact HSX.out.symm)
      obtain ⟨L, hL⟩ : ∃ L, sortTo q (bl s) n = L := ⟨_, rfl⟩
      have HLX := Lib.hid hL
      have HN := Lib.hid (show L.length = n by rw [← hL]; exact sortTo_length _ _ _)
      rw [hL] at hO
      have hnn : n ≤ 200 := by omega
      have hgl : g < wr.heap.size := hO.turn_lt g rfl
      have HOO := Lib.hid hO
      clear hx hL HSX hO HO0 HB0
      go_wp2
      rw [hX]
      clear hX
      go_loopw [8] (fun i wi => ∃ (k : Nat), k ≤ n ∧ i = .int .i64 (k : Int) ∧ (∀ j, j < k → ¬ x < L.getD j []) ∧ wi = wr)
        (fun i _ => n - (intOf i).toNat)
      case atStart => exact ⟨0, by omega, rfl, fun j hj => by omega, rfl⟩
      case round =>
        obtain ⟨k, hk, rfl, hall, hwi⟩ := hrel
        subst hwi
        have HA := Lib.hid hall
        clear hall
        by_cases hlt2 : k < n
        · have r0 := HOO.out.cell k (by omega)
          rw [strs_at (by rw [HN.out]; exact hlt2)] at r0
          obtain ⟨A, hA⟩ : ∃ A, txt (L.getD k []) = A := ⟨_, rfl⟩
          have HY := Lib.hid (show bl A = L.getD k [] by rw [← hA, bl_txt])
          rw [hA] at r0
          have sl := strLt A X
          have se := strEq A X
          rw [HY.out, HX.out] at sl se
          clear hA
          by_cases hxy : x < L.getD k []
          · have e1 : Op.bytesLess A.toList X.toList = false := by rw [sl]; exact decide_eq_false (bl_asymm hxy)
            have e2 : (A.toList == X.toList) = false := by rw [se]; exact decide_eq_false (fun e => bl_irrefl x (by rw [e] at hxy; exact hxy))
            have HS := Lib.hid (insL_split x L k (by rw [HN.out]; omega) HA.out (.inr hxy))
            clear sl se hxy
            have hO := HOO.out
            have hY := Below.refl wr.heap.size wr
            generalize wr = Y at *
            clear HA HY HOO
            have HOY := Lib.hid (hO.kept hY)
            have hbY := hb.trans (hY.mono hb.size)
            have hYs : w.heap.size ≤ Y.heap.size := hb.size
            clear hY hb hO
            have hBA : Below Y.heap.size Y (Y.alloc (.cells #[] 9)) := (Below.refl _ _).alloc (Nat.le_refl _) _
            have hp1 := (HOY.out.kept hBA).part 0 k
            have hl1 : (((strs L).drop 0).take k).length = k := by rw [List.length_take, List.drop_zero, strs_length, HN.out]; omega
            have HP1 := Lib.hid hp1; have HL1 := Lib.hid hl1
            have HT := Lib.hid (show ((strs L).drop 0).take k = strs (L.take k) by unfold strs; rw [List.drop_zero, List.map_take])
            have hone : ∀ u ∈ ((strs L).drop 0).take k, u.oneCell' = true := by rw [HT.out]; exact strs_one _
            have HONE := Lib.hid hone
            clear hp1 hl1 hBA hone
            have HD := Lib.hid (show ((strs L).drop k).take (n - k) = strs (L.drop k) by unfold strs; rw [← List.map_drop]; exact List.take_of_length_le (by rw [List.length_map, List.length_drop, HN.out]; omega))
            have HTL := Lib.hid (show (strs (L.take k)).length = k * 1 by rw [strs_length, List.length_take, HN.out]; omega)
            have HDL := Lib.hid (show (strs (L.drop k)).length = n - k by rw [strs_length, List.length_drop, HN.out])
            go_wp2_with (first | (at_builtin; (refine wpList_append_own _ rfl _ _ 34 rfl Y.heap.size 9 i0 (.string ⟨#[]⟩) 1 16 Try.underlying34 hi ht0 ht1 ht2 rfl (by decide) _ _ _ rfl (World.ownsRow_made Y #[] 0 (Nat.le_refl _) (by decide) rfl) ⟨g, 0, none⟩ k cap (((strs L).drop 0).take k) rfl (by rw [HL1.out]; omega) HP1.out HONE.out (by unfold maxLen; omega) (by omega) (by simp) ?_; intro v1 w1 hown1 hg1 _; obtain ⟨a1, cap1, rfl, hO1⟩ := OwnV.shape HTL.out (show w1.ownsRow Y.heap.size 9 1 v1 k (strs (L.take k)) by rw [← HT.out]; simpa using hown1); have hb1 : Below Y.heap.size Y w1 := ((Below.refl _ Y).alloc (Nat.le_refl _) _).grown hg1 (by simp) (fun q hq => by cases hq; exact Nat.le_refl _); have HO1 := Lib.hid hO1; have HB1 := Lib.hid hb1; clear hown1 hg1 hO1 hb1)) | (at_builtin; have hB2 : Below w1.heap.size w1 (w1.alloc (.cells #[Value.string X] 9)) := (Below.refl _ _).alloc (Nat.le_refl _) _; have HK2 := Lib.hid (HO1.out.kept hB2); have HC2 := Lib.hid (cells_new w1 #[Value.string X] 9); have HS1 := Lib.hid HB1.out.size; have HL2 := Lib.hid (show (strs (L.take k) ++ [Value.string X]).length = (k + 1) * 1 by rw [List.length_append, HTL.out]; simp); clear hB2; (refine wpList_append_own _ rfl _ _ 34 rfl Y.heap.size 9 i0 (.string ⟨#[]⟩) 1 16 Try.underlying34 hi ht0 ht1 ht2 rfl (by decide) _ _ _ rfl HK2.out.2 ⟨w1.heap.size, 0, none⟩ 1 1 [Value.string X] rfl rfl HC2.out (by simp [Value.oneCell']) (by unfold maxLen; omega) (by omega) (by have := HS1.out; simp; omega) ?_; intro v2 w2 hown2 hg2 _; obtain ⟨a2, cap2, rfl, hO2⟩ := OwnV.shape HL2.out (show w2.ownsRow Y.heap.size 9 1 v2 (k + 1) (strs (L.take k) ++ [Value.string X]) by exact hown2); have HB2 := Lib.hid (HB1.out.trans (((Below.refl _ w1).alloc HS1.out _).trans (HK2.out.turn (by have := HS1.out; simp; omega) hg2))); have HO2 := Lib.hid hO2; clear hown2 hg2 hO2 HC2 HK2)) | (at_builtin; have HP3 := Lib.hid ((HOY.out.kept HB2.out).part k (n - k)); have HONE3 := Lib.hid (show ∀ u ∈ ((strs L).drop k).take (n - k), u.oneCell' = true by rw [HD.out]; exact strs_one _); have HL3 := Lib.hid (show (((strs L).drop k).take (n - k)).length = (n - k) * 1 by rw [HD.out, HDL.out]; omega); have HL4 := Lib.hid (show (strs (L.take k) ++ [Value.string X] ++ strs (L.drop k)).length = (n + 1) * 1 by rw [List.length_append, HL2.out, HDL.out]; omega); have HE := Lib.hid (show strs (insL x L) = strs (L.take k) ++ [Value.string X] ++ strs (L.drop k) by rw [HS.out, strs_append, ← HX.out]; simp [strs, strV, txt_bl]); have HS2 := Lib.hid HB2.out.size; refine wpList_append_own _ rfl _ _ 34 rfl Y.heap.size 9 i0 (.string ⟨#[]⟩) 1 16 Try.underlying34 hi ht0 ht1 ht2 rfl (by decide) _ _ _ rfl HO2.out.2 ⟨g, k, none⟩ (n - k) (cap - k) (((strs L).drop k).take (n - k)) rfl HL3.out HP3.out HONE3.out (by unfold maxLen; omega) (by omega) HS2.out ?_; intro v3 w3 hown3 hg3 _; obtain ⟨a3, cap3, rfl, hO3⟩ := OwnV.shape HL4.out (show w3.ownsRow Y.heap.size 9 1 v3 (n + 1) (strs (L.take k) ++ [Value.string X] ++ strs (L.drop k)) by rw [← HD.out, show n + 1 = k + 1 + (n - k) by omega]; exact hown3); have HB3 := Lib.hid (HB2.out.trans (HO2.out.turn HS2.out hg3)); have HO3 := Lib.hid hO3; clear hown3 hg3 hO3))
            obtain ⟨g3, rfl, _, hg3l⟩ := HO3.out.head 0 (by omega)
            go_roundw
            case rel => exact ⟨n + 1, g3, cap3, by omega, by go_num, rfl, by rw [show sortTo q (bl s) (n + 1) = insL x L by rw [← HLX.out, ← HGX.out]; rfl, HE.out]; exact (HO3.out.mono (by omega)), hbY.trans (HB3.out.mono hYs)⟩
            case measure => simp [intOf]; omega

          · have hgo : Hid (∀ j, j < k + 1 → ¬ x < L.getD j []) := Lib.hid (fun j hj => by
              by_cases e : j = k
              · rw [e]; exact hxy
              · exact HA.out j (by omega))
            by_cases he : L.getD k [] = x
            · have e1 : Op.bytesLess A.toList X.toList = false := by rw [sl, he]; exact decide_eq_false (bl_irrefl x)
              have e2 : (A.toList == X.toList) = true := by rw [se]; exact decide_eq_true he
              clear sl se hxy he
              go_wp2_with fail
              go_roundw
              case rel => exact ⟨k + 1, by omega, by go_num, hgo.out, by first | rfl | trivial⟩
              case measure => simp [intOf]; omega
            · have e1 : Op.bytesLess A.toList X.toList = true := by
                rw [sl]; refine decide_eq_true ?_
                by_cases h : L.getD k [] < x
                · exact h
                · exact absurd (bl_tri h hxy) he
              have e2 : (A.toList == X.toList) = false := by rw [se]; exact decide_eq_false he
              clear sl se hxy he
              go_wp2_with fail
              go_roundw
              case rel => exact ⟨k + 1, by omega, by go_num, hgo.out, by first | rfl | trivial⟩
              case measure => simp [intOf]; omega
        · have HS := Lib.hid (insL_split x L k (by rw [HN.out]; omega) HA.out (.inl (by rw [HN.out]; omega)))
          have hkn : ¬ ((k : Int) < (n : Int)) := by omega
          have hO := HOO.out
          have hY := Below.refl wr.heap.size wr
          generalize wr = Y at *
          clear HA HOO
          by_cases hcc : k < cap
          · have hcc2 : (k : Int) < cap := by omega
            have HOY := Lib.hid (hO.kept hY)
            have hbY := hb.trans (hY.mono hb.size)
            have hYs : w.heap.size ≤ Y.heap.size := hb.size
            clear hY hb hO
            have hBA : Below Y.heap.size Y (Y.alloc (.cells #[] 9)) := (Below.refl _ _).alloc (Nat.le_refl _) _
            have hp1 := (HOY.out.kept hBA).part 0 k
            have hl1 : (((strs L).drop 0).take k).length = k := by rw [List.length_take, List.drop_zero, strs_length, HN.out]; omega
            have HP1 := Lib.hid hp1; have HL1 := Lib.hid hl1
            have HT := Lib.hid (show ((strs L).drop 0).take k = strs (L.take k) by unfold strs; rw [List.drop_zero, List.map_take])
            have hone : ∀ u ∈ ((strs L).drop 0).take k, u.oneCell' = true := by rw [HT.out]; exact strs_one _
            have HONE := Lib.hid hone
            clear hp1 hl1 hBA hone
            have HD := Lib.hid (show ((strs L).drop k).take (n - k) = strs (L.drop k) by unfold strs; rw [← List.map_drop]; exact List.take_of_length_le (by rw [List.length_map, List.length_drop, HN.out]; omega))
            have HTL := Lib.hid (show (strs (L.take k)).length = k * 1 by rw [strs_length, List.length_take, HN.out]; omega)
            have HDL := Lib.hid (show (strs (L.drop k)).length = n - k by rw [strs_length, List.length_drop, HN.out])
            go_wp2_with (first | (at_builtin; (refine wpList_append_own _ rfl _ _ 34 rfl Y.heap.size 9 i0 (.string ⟨#[]⟩) 1 16 Try.underlying34 hi ht0 ht1 ht2 rfl (by decide) _ _ _ rfl (World.ownsRow_made Y #[] 0 (Nat.le_refl _) (by decide) rfl) ⟨g, 0, none⟩ k cap (((strs L).drop 0).take k) rfl (by rw [HL1.out]; omega) HP1.out HONE.out (by unfold maxLen; omega) (by omega) (by simp) ?_; intro v1 w1 hown1 hg1 _; obtain ⟨a1, cap1, rfl, hO1⟩ := OwnV.shape HTL.out (show w1.ownsRow Y.heap.size 9 1 v1 k (strs (L.take k)) by rw [← HT.out]; simpa using hown1); have hb1 : Below Y.heap.size Y w1 := ((Below.refl _ Y).alloc (Nat.le_refl _) _).grown hg1 (by simp) (fun q hq => by cases hq; exact Nat.le_refl _); have HO1 := Lib.hid hO1; have HB1 := Lib.hid hb1; clear hown1 hg1 hO1 hb1)) | (at_builtin; have hB2 : Below w1.heap.size w1 (w1.alloc (.cells #[Value.string X] 9)) := (Below.refl _ _).alloc (Nat.le_refl _) _; have HK2 := Lib.hid (HO1.out.kept hB2); have HC2 := Lib.hid (cells_new w1 #[Value.string X] 9); have HS1 := Lib.hid HB1.out.size; have HL2 := Lib.hid (show (strs (L.take k) ++ [Value.string X]).length = (k + 1) * 1 by rw [List.length_append, HTL.out]; simp); clear hB2; (refine wpList_append_own _ rfl _ _ 34 rfl Y.heap.size 9 i0 (.string ⟨#[]⟩) 1 16 Try.underlying34 hi ht0 ht1 ht2 rfl (by decide) _ _ _ rfl HK2.out.2 ⟨w1.heap.size, 0, none⟩ 1 1 [Value.string X] rfl rfl HC2.out (by simp [Value.oneCell']) (by unfold maxLen; omega) (by omega) (by have := HS1.out; simp; omega) ?_; intro v2 w2 hown2 hg2 _; obtain ⟨a2, cap2, rfl, hO2⟩ := OwnV.shape HL2.out (show w2.ownsRow Y.heap.size 9 1 v2 (k + 1) (strs (L.take k) ++ [Value.string X]) by exact hown2); have HB2 := Lib.hid (HB1.out.trans (((Below.refl _ w1).alloc HS1.out _).trans (HK2.out.turn (by have := HS1.out; simp; omega) hg2))); have HO2 := Lib.hid hO2; clear hown2 hg2 hO2 HC2 HK2)) | (at_builtin; have HP3 := Lib.hid ((HOY.out.kept HB2.out).part k (n - k)); have HONE3 := Lib.hid (show ∀ u ∈ ((strs L).drop k).take (n - k), u.oneCell' = true by rw [HD.out]; exact strs_one _); have HL3 := Lib.hid (show (((strs L).drop k).take (n - k)).length = (n - k) * 1 by rw [HD.out, HDL.out]; omega); have HL4 := Lib.hid (show (strs (L.take k) ++ [Value.string X] ++ strs (L.drop k)).length = (n + 1) * 1 by rw [List.length_append, HL2.out, HDL.out]; omega); have HE := Lib.hid (show strs (insL x L) = strs (L.take k) ++ [Value.string X] ++ strs (L.drop k) by rw [HS.out, strs_append, ← HX.out]; simp [strs, strV, txt_bl]); have HS2 := Lib.hid HB2.out.size; refine wpList_append_own _ rfl _ _ 34 rfl Y.heap.size 9 i0 (.string ⟨#[]⟩) 1 16 Try.underlying34 hi ht0 ht1 ht2 rfl (by decide) _ _ _ rfl HO2.out.2 ⟨g, k, none⟩ (n - k) (cap - k) (((strs L).drop k).take (n - k)) rfl HL3.out HP3.out HONE3.out (by unfold maxLen; omega) (by omega) HS2.out ?_; intro v3 w3 hown3 hg3 _; obtain ⟨a3, cap3, rfl, hO3⟩ := OwnV.shape HL4.out (show w3.ownsRow Y.heap.size 9 1 v3 (n + 1) (strs (L.take k) ++ [Value.string X] ++ strs (L.drop k)) by rw [← HD.out, show n + 1 = k + 1 + (n - k) by omega]; exact hown3); have HB3 := Lib.hid (HB2.out.trans (HO2.out.turn HS2.out hg3)); have HO3 := Lib.hid hO3; clear hown3 hg3 hO3))
            obtain ⟨g3, rfl, _, hg3l⟩ := HO3.out.head 0 (by omega)
            go_roundw
            case rel => exact ⟨n + 1, g3, cap3, by omega, by go_num, rfl, by rw [show sortTo q (bl s) (n + 1) = insL x L by rw [← HLX.out, ← HGX.out]; rfl, HE.out]; exact (HO3.out.mono (by omega)), hbY.trans (HB3.out.mono hYs)⟩
            case measure => simp [intOf]; omega

          · have hkn2 : n = k := by omega
            subst hkn2
            have hcn2 : n = cap := by omega
            subst hcn2
            have HOY := Lib.hid (hO.kept hY)
            have hbY := hb.trans (hY.mono hb.size)
            have hYs : w.heap.size ≤ Y.heap.size := hb.size
            clear hY hb hO
            have hBA : Below Y.heap.size Y (Y.alloc (.cells #[] 9)) := (Below.refl _ _).alloc (Nat.le_refl _) _
            have hp1 := (HOY.out.kept hBA).part 0 n
            have hl1 : (((strs L).drop 0).take n).length = n := by rw [List.length_take, List.drop_zero, strs_length, HN.out]; omega
            have HP1 := Lib.hid hp1; have HL1 := Lib.hid hl1
            have HT := Lib.hid (show ((strs L).drop 0).take n = strs (L.take n) by unfold strs; rw [List.drop_zero, List.map_take])
            have hone : ∀ u ∈ ((strs L).drop 0).take n, u.oneCell' = true := by rw [HT.out]; exact strs_one _
            have HONE := Lib.hid hone
            clear hp1 hl1 hBA hone
            have HD := Lib.hid (show ((strs L).drop n).take (n - n) = strs (L.drop n) by unfold strs; rw [← List.map_drop]; exact List.take_of_length_le (by rw [List.length_map, List.length_drop, HN.out]; omega))
            have HTL := Lib.hid (show (strs (L.take n)).length = n * 1 by rw [strs_length, List.length_take, HN.out]; omega)
            have HDL := Lib.hid (show (strs (L.drop n)).length = n - n by rw [strs_length, List.length_drop, HN.out])
            go_wp2_with (first | (at_builtin; (refine wpList_append_own _ rfl _ _ 34 rfl Y.heap.size 9 i0 (.string ⟨#[]⟩) 1 16 Try.underlying34 hi ht0 ht1 ht2 rfl (by decide) _ _ _ rfl (World.ownsRow_made Y #[] 0 (Nat.le_refl _) (by decide) rfl) ⟨g, 0, none⟩ n n (((strs L).drop 0).take n) rfl (by rw [HL1.out]; omega) HP1.out HONE.out (by unfold maxLen; omega) (by omega) (by simp) ?_; intro v1 w1 hown1 hg1 _; obtain ⟨a1, cap1, rfl, hO1⟩ := OwnV.shape HTL.out (show w1.ownsRow Y.heap.size 9 1 v1 n (strs (L.take n)) by rw [← HT.out]; simpa using hown1); have hb1 : Below Y.heap.size Y w1 := ((Below.refl _ Y).alloc (Nat.le_refl _) _).grown hg1 (by simp) (fun q hq => by cases hq; exact Nat.le_refl _); have HO1 := Lib.hid hO1; have HB1 := Lib.hid hb1; clear hown1 hg1 hO1 hb1)) | (at_builtin; have hB2 : Below w1.heap.size w1 (w1.alloc (.cells #[Value.string X] 9)) := (Below.refl _ _).alloc (Nat.le_refl _) _; have HK2 := Lib.hid (HO1.out.kept hB2); have HC2 := Lib.hid (cells_new w1 #[Value.string X] 9); have HS1 := Lib.hid HB1.out.size; have HL2 := Lib.hid (show (strs (L.take n) ++ [Value.string X]).length = (n + 1) * 1 by rw [List.length_append, HTL.out]; simp); clear hB2; (refine wpList_append_own _ rfl _ _ 34 rfl Y.heap.size 9 i0 (.string ⟨#[]⟩) 1 16 Try.underlying34 hi ht0 ht1 ht2 rfl (by decide) _ _ _ rfl HK2.out.2 ⟨w1.heap.size, 0, none⟩ 1 1 [Value.string X] rfl rfl HC2.out (by simp [Value.oneCell']) (by unfold maxLen; omega) (by omega) (by have := HS1.out; simp; omega) ?_; intro v2 w2 hown2 hg2 _; obtain ⟨a2, cap2, rfl, hO2⟩ := OwnV.shape HL2.out (show w2.ownsRow Y.heap.size 9 1 v2 (n + 1) (strs (L.take n) ++ [Value.string X]) by exact hown2); have HB2 := Lib.hid (HB1.out.trans (((Below.refl _ w1).alloc HS1.out _).trans (HK2.out.turn (by have := HS1.out; simp; omega) hg2))); have HO2 := Lib.hid hO2; clear hown2 hg2 hO2 HC2 HK2)) | (at_builtin; have HS2 := Lib.hid HB2.out.size; refine wpList_append_own _ rfl _ _ 34 rfl Y.heap.size 9 i0 (.string ⟨#[]⟩) 1 16 Try.underlying34 hi ht0 ht1 ht2 rfl (by decide) _ _ _ rfl HO2.out.2 ⟨g, 0, none⟩ 0 0 [] rfl rfl (fun j u h => by simp at h) (by simp) (by unfold maxLen; omega) (by omega) HS2.out ?_; intro v3 w3 hown3 hg3 _; obtain ⟨a3, cap3, rfl, hO3⟩ := OwnV.shape HL2.out (show w3.ownsRow Y.heap.size 9 1 v3 (n + 1) (strs (L.take n) ++ [Value.string X]) by simpa using hown3); have HB3 := Lib.hid (HB2.out.trans (HO2.out.turn HS2.out hg3)); have HO3 := Lib.hid hO3; clear hown3 hg3 hO3))
            obtain ⟨g3, rfl, _, hg3l⟩ := HO3.out.head 0 (by omega)
            go_roundw
            case rel => exact ⟨n + 1, g3, cap3, by omega, by go_num, rfl, by rw [show sortTo q (bl s) (n + 1) = insL x L by rw [← HLX.out, ← HGX.out]; rfl, HS.out, show strs (L.take n ++ x :: L.drop n) = strs (L.take n) ++ [Value.string X] by rw [strs_append, ← HX.out, List.drop_of_length_le (by rw [HN.out]; omega)]; simp [strs, strV, txt_bl]]; exact (HO3.out.mono (by omega)), hbY.trans (HB3.out.mono hYs)⟩
            case measure => simp [intOf]; omega

    · have hN : n = s.size + 1 - q := by have := HQ.out; omega
      have hl1 : decide ((n : Int) + (q : Int) ≤ (s.size : Int)) = false := by simp; omega
      have hl0 : ¬ (n : Int) + (q : Int) ≤ (s.size : Int) := by omega
      have HO := Lib.hid hO
      have HN := Lib.hid hN
      clear hO HO0 HB0 hN
      go_wp2_with fail
      go_ret
      exact ⟨some ⟨g, 0, none⟩, cap, by rw [HN.out]; rfl, by have := HO.out; rw [HN.out] at this; exact this, hb⟩
end Go.Proofs.Ytelhgpoppgpniaa

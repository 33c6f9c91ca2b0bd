/-
  Chapter 9's model: one record more, put in: the walk.
-/
import Derived.Test.YtodmohepgmhipaaRecAdd
namespace Go.Proofs.Ytodmohepgmhipaa
open Go.RowKit
set_option linter.unusedVariables false
set_option maxRecDepth 100000
set_option maxHeartbeats 4000000 in
theorem spec_l9Add_some (L : List Rc) (x : Rc) (g n cap B : Nat) (w : World) (hn : L.length = n) (hO : OwnM 106 3 w B (some ⟨g, 0, none⟩) n cap (recI L)) (hnc : n ≤ cap) (hlen : n ≤ 100000) :
    Calls Try.prog 104 #[.slice (some ⟨g, 0, none⟩) n cap, .agg #[.int .i64 x.p, .int .i64 x.e, .int .i64 x.d]] w fun e w' => ∃ a' cap', e = .returned (.slice a' (n + 1) cap') ∧ OwnM 106 3 w' w.heap.size a' (n + 1) cap' (recI (addR L x)) ∧ Below w.heap.size w w' := by
  obtain ⟨i0, hi, ht0, ht1, ht2⟩ := info_parts recInfo
  have HN := Lib.hid hn; clear hn
  have hgl : g < w.heap.size := hO.turn_lt g rfl
  obtain ⟨xp, xe, xd⟩ := x
  go_enter Try.func104, Try.ntmps104
  have q0 : (w.alloc (.cells #[.int .i64 xp, .int .i64 xe, .int .i64 xd] 106)).cell? ⟨w.heap.size, 0, none⟩ = some (.int .i64 xp) := by go_simp
  have q1 : (w.alloc (.cells #[.int .i64 xp, .int .i64 xe, .int .i64 xd] 106)).cell? ⟨w.heap.size, 1, none⟩ = some (.int .i64 xe) := by go_simp
  have q2 : (w.alloc (.cells #[.int .i64 xp, .int .i64 xe, .int .i64 xd] 106)).cell? ⟨w.heap.size, 2, none⟩ = some (.int .i64 xd) := by go_simp
  have hbx : Below w.heap.size w (w.alloc (.cells #[.int .i64 xp, .int .i64 xe, .int .i64 xd] 106)) := (Below.refl _ _).alloc (Nat.le_refl _) _
  have hO0 := hO.kept hbx
  have hsz : w.heap.size < (w.alloc (.cells #[.int .i64 xp, .int .i64 xe, .int .i64 xd] 106)).heap.size := by simp
  clear hO
  go_wp2
  generalize w.alloc (.cells #[.int .i64 xp, .int .i64 xe, .int .i64 xd] 106) = V at *
  go_loopw [5] (fun i wr => ∃ (k : Nat), k ≤ n ∧ i = .int .i64 k ∧ (∀ j, j < k → ltR (rcAt L j) ⟨xp, xe, xd⟩) ∧ OwnM 106 3 wr B (some ⟨g, 0, none⟩) n cap (recI L) ∧ wr.cell? ⟨w.heap.size, 0, none⟩ = some (.int .i64 xp) ∧ wr.cell? ⟨w.heap.size, 1, none⟩ = some (.int .i64 xe) ∧ wr.cell? ⟨w.heap.size, 2, none⟩ = some (.int .i64 xd) ∧ Below w.heap.size w wr ∧ w.heap.size < wr.heap.size)
    (fun i _ => n - (intOf i).toNat)
  case atStart => exact ⟨0, by omega, rfl, fun j hj => by omega, hO0, q0, q1, q2, hbx, hsz⟩
  case round =>
    obtain ⟨k, hk, rfl, hall, hO, c0, c1, c2, hb, hz⟩ := hrel
    clear q0 q1 q2 hbx hO0 hsz
    by_cases hlt : k < n
    · have r0 := hO.cell (k * 3) (by omega)
      have r1 := hO.cell (k * 3 + 1) (by omega)
      obtain ⟨e0, e1, _⟩ := recI_at L k (by rw [HN.out]; exact hlt)
      rw [e0] at r0
      rw [e1] at r1
      have hall2 : ltR (rcAt L k) ⟨xp, xe, xd⟩ → ∀ j, j < k + 1 → ltR (rcAt L j) ⟨xp, xe, xd⟩ := fun h j hj => by
        by_cases e : j = k
        · subst e; exact h
        · exact hall j (by omega)
      have HA := Lib.hid hall
      have HA2 := Lib.hid hall2
      have HOH := Lib.hid hO
      clear hall hall2 hO e0 e1
      obtain ⟨yp, hyp⟩ : ∃ v, (rcAt L k).p = v := ⟨_, rfl⟩
      obtain ⟨ye, hye⟩ : ∃ v, (rcAt L k).e = v := ⟨_, rfl⟩
      have HL := Lib.hid (show ltR (rcAt L k) ⟨xp, xe, xd⟩ ↔ ye < xe ∨ ye = xe ∧ yp < xp by unfold ltR; rw [hyp, hye])
      rw [hyp] at r0
      rw [hye] at r1
      clear hyp hye
      by_cases hA : ye < xe
      · have b1 : decide (ye < xe) = true := decide_eq_true hA
        go_wp2_with fail
        go_quiet (fail)
        have hY := below_drewN (Below.refl wr.heap.size wr) nq
        go_wp2
        go_roundw
        case rel => exact ⟨k + 1, by omega, by go_num, HA2.out (HL.out.2 (.inl hA)), HOH.out.kept hY, (hY.cell (p := ⟨w.heap.size, 0, none⟩) hz).trans c0, (hY.cell (p := ⟨w.heap.size, 1, none⟩) hz).trans c1, (hY.cell (p := ⟨w.heap.size, 2, none⟩) hz).trans c2, below_drewN hb nq, by simpa using hz⟩
        case measure => simp [intOf]; omega
      · by_cases hE : ye = xe
        · have b3 : (ye == xe) = true := by simpa using hE
          by_cases hP : yp < xp
          · have b1 : decide (ye < xe) = false := decide_eq_false hA
            have b2 : decide (yp < xp) = true := decide_eq_true hP
            go_wp2_with fail
            go_quiet (fail)
            have hY := below_drewN (Below.refl wr.heap.size wr) nq
            go_wp2
            go_roundw
            case rel => exact ⟨k + 1, by omega, by go_num, HA2.out (HL.out.2 (.inr ⟨hE, hP⟩)), HOH.out.kept hY, (hY.cell (p := ⟨w.heap.size, 0, none⟩) hz).trans c0, (hY.cell (p := ⟨w.heap.size, 1, none⟩) hz).trans c1, (hY.cell (p := ⟨w.heap.size, 2, none⟩) hz).trans c2, below_drewN hb nq, by simpa using hz⟩
            case measure => simp [intOf]; omega
          · have b1 : decide (ye < xe) = false := decide_eq_false hA
            have b2 : decide (yp < xp) = false := decide_eq_false hP
            have HS := Lib.hid (addR_split L ⟨xp, xe, xd⟩ k (by rw [HN.out]; omega) HA.out (.inr (fun h => by have := HL.out.1 h; omega)))
            go_wp2_with fail
            go_quiet (fail)
            have hY := below_drewN (Below.refl wr.heap.size wr) nq
            have hO := HOH.out
            generalize wr.drewN nq = Y at *
            clear r0 r1 HOH HA HA2 HL b1 b2 b3
            have HOY := Lib.hid (hO.kept hY)
            have d0 := (hY.cell (p := ⟨w.heap.size, 0, none⟩) (by show w.heap.size < _; omega)).trans c0
            have d1 := (hY.cell (p := ⟨w.heap.size, 1, none⟩) (by show w.heap.size < _; omega)).trans c1
            have d2 := (hY.cell (p := ⟨w.heap.size, 2, none⟩) (by show w.heap.size < _; omega)).trans c2
            have hbY := hb.trans (hY.mono hb.size)
            have hYs : w.heap.size < Y.heap.size := by have := hY.size; omega
            clear hY hb hO c0 c1 c2
            have hBA : Below Y.heap.size Y (Y.alloc (.cells #[] 106)) := (Below.refl _ _).alloc (Nat.le_refl _) _
            have hp1 := (HOY.out.kept hBA).part 0 (k * 3)
            have hl1 : ((((recI L).drop 0).take (k * 3)).map (Value.int .i64)).length = k * 3 := by rw [List.length_map, List.length_take, List.drop_zero, recI_length, HN.out]; omega
            have HP1 := Lib.hid hp1; have HL1 := Lib.hid hl1
            have hone := ints_oneCell .i64 (((recI L).drop 0).take (k * 3))
            clear hp1 hl1 hBA
            have HT := Lib.hid (show ((recI L).drop 0).take (k * 3) = recI (L.take k) by rw [List.drop_zero, recI_take L k (by rw [HN.out]; exact hk)])
            have HD := Lib.hid (show ((recI L).drop (k * 3)).take ((n - k) * 3) = recI (L.drop k) by rw [← recI_drop L k (by rw [HN.out]; exact hk)]; exact List.take_of_length_le (by rw [recI_length, List.length_drop, HN.out]; omega))
            have HTL := Lib.hid (show (recI (L.take k)).length = k * 3 by rw [recI_length, List.length_take, HN.out]; omega)
            have HDL := Lib.hid (show (recI (L.drop k)).length = (n - k) * 3 by rw [recI_length, List.length_drop, HN.out])
            go_wp2_with (first | (at_builtin; (refine wpList_append_own _ rfl _ _ 37 rfl Y.heap.size 106 i0 (.agg #[.int .i64 0, .int .i64 0, .int .i64 0]) 3 24 Try.underlying37 hi ht0 ht1 ht2 rfl (by decide) _ _ _ rfl (World.ownsRow_made Y #[] 0 (Nat.le_refl _) (by decide) rfl) ⟨g, 0, none⟩ k cap ((((recI L).drop 0).take (k * 3)).map (Value.int .i64)) rfl HL1.out HP1.out hone (by unfold maxLen; omega) (by omega) (by simp) ?_; intro v1 w1 hown1 hg1 _; obtain ⟨a1, cap1, rfl, hO1⟩ := OwnM.shape HTL.out (show w1.ownsRow Y.heap.size 106 3 v1 k ((recI (L.take k)).map (Value.int .i64)) by rw [← HT.out]; simpa using hown1); have hb1 : Below Y.heap.size Y w1 := ((Below.refl _ Y).alloc (Nat.le_refl _) _).grown hg1 (by simp) (fun q hq => by cases hq; exact Nat.le_refl _); have f0 := (hb1.cell (p := ⟨w.heap.size, 0, none⟩) hYs).trans d0; have f1 := (hb1.cell (p := ⟨w.heap.size, 1, none⟩) hYs).trans d1; have f2 := (hb1.cell (p := ⟨w.heap.size, 2, none⟩) hYs).trans d2; have HO1 := Lib.hid hO1; have HB1 := Lib.hid hb1; clear hown1 hg1 hO1 hb1 d0 d1 d2 hone HP1 HL1)) | (at_builtin; have hB2 : Below w1.heap.size w1 (w1.alloc (.cells #[.int .i64 xp, .int .i64 xe, .int .i64 xd] 106)) := (Below.refl _ _).alloc (Nat.le_refl _) _; have HK2 := Lib.hid (HO1.out.kept hB2); have HC2 := Lib.hid (cells_new w1 #[.int .i64 xp, .int .i64 xe, .int .i64 xd] 106); have HS1 := Lib.hid HB1.out.size; have HL2 := Lib.hid (show (recI (L.take k) ++ [xp, xe, xd]).length = (k + 1) * 3 by rw [List.length_append, HTL.out]; simp; omega); clear hB2; (refine wpList_append_own _ rfl _ _ 37 rfl Y.heap.size 106 i0 (.agg #[.int .i64 0, .int .i64 0, .int .i64 0]) 3 24 Try.underlying37 hi ht0 ht1 ht2 rfl (by decide) _ _ _ rfl HK2.out.2 ⟨w1.heap.size, 0, none⟩ 1 1 [.int .i64 xp, .int .i64 xe, .int .i64 xd] rfl rfl HC2.out (by simp [Value.oneCell']) (by unfold maxLen; omega) (by omega) (by have := HS1.out; simp; omega) ?_; intro v2 w2 hown2 hg2 _; obtain ⟨a2, cap2, rfl, hO2⟩ := OwnM.shape HL2.out (show w2.ownsRow Y.heap.size 106 3 v2 (k + 1) ((recI (L.take k) ++ [xp, xe, xd]).map (Value.int .i64)) by rw [List.map_append]; exact hown2); have HB2 := Lib.hid (HB1.out.trans (((Below.refl _ w1).alloc HS1.out _).trans (HK2.out.turn (by have := HS1.out; simp; omega) hg2))); have HO2 := Lib.hid hO2; clear hown2 hg2 hO2 HC2 HK2)) | (at_builtin; have HP3 := Lib.hid ((HOY.out.kept HB2.out).part (k * 3) ((n - k) * 3)); have hone3 := ints_oneCell .i64 (((recI L).drop (k * 3)).take ((n - k) * 3)); have HL3 := Lib.hid (show ((((recI L).drop (k * 3)).take ((n - k) * 3)).map (Value.int .i64)).length = (n - k) * 3 by rw [List.length_map, HD.out, HDL.out]); have HL4 := Lib.hid (show (recI (L.take k) ++ [xp, xe, xd] ++ recI (L.drop k)).length = (n + 1) * 3 by rw [List.length_append, HL2.out, HDL.out]; omega); have HE := Lib.hid (show recI (addR L ⟨xp, xe, xd⟩) = recI (L.take k) ++ [xp, xe, xd] ++ recI (L.drop k) by rw [HS.out, recI_append]; simp [recI]); have HS2 := Lib.hid HB2.out.size; refine wpList_append_own _ rfl _ _ 37 rfl Y.heap.size 106 i0 (.agg #[.int .i64 0, .int .i64 0, .int .i64 0]) 3 24 Try.underlying37 hi ht0 ht1 ht2 rfl (by decide) _ _ _ rfl HO2.out.2 ⟨g, k * 3, none⟩ (n - k) (cap - k) ((((recI L).drop (k * 3)).take ((n - k) * 3)).map (Value.int .i64)) rfl HL3.out HP3.out hone3 (by unfold maxLen; omega) (by omega) HS2.out ?_; intro v3 w3 hown3 hg3 _; obtain ⟨a3, cap3, rfl, hO3⟩ := OwnM.shape HL4.out (show w3.ownsRow Y.heap.size 106 3 v3 (n + 1) ((recI (L.take k) ++ [xp, xe, xd] ++ recI (L.drop k)).map (Value.int .i64)) by rw [List.map_append, ← HD.out, show n + 1 = k + 1 + (n - k) by omega]; exact hown3); have HB3 := Lib.hid (HB2.out.trans (HO2.out.turn HS2.out hg3)); have HO3 := Lib.hid hO3; clear hown3 hg3 hO3))
            go_ret
            exact ⟨_, _, rfl, by rw [HE.out]; exact HO3.out.mono (by omega), hbY.trans (HB3.out.mono (by omega))⟩

        · have b1 : decide (ye < xe) = false := decide_eq_false hA
          have b2 : (ye == xe) = false := by simpa using hE
          have HS := Lib.hid (addR_split L ⟨xp, xe, xd⟩ k (by rw [HN.out]; omega) HA.out (.inr (fun h => by have := HL.out.1 h; omega)))
          go_wp2_with fail
          go_quiet (fail)
          have hY := below_drewN (Below.refl wr.heap.size wr) nq
          have hO := HOH.out
          generalize wr.drewN nq = Y at *
          clear r0 r1 HOH HA HA2 HL b1 b2
          have HOY := Lib.hid (hO.kept hY)
          have d0 := (hY.cell (p := ⟨w.heap.size, 0, none⟩) (by show w.heap.size < _; omega)).trans c0
          have d1 := (hY.cell (p := ⟨w.heap.size, 1, none⟩) (by show w.heap.size < _; omega)).trans c1
          have d2 := (hY.cell (p := ⟨w.heap.size, 2, none⟩) (by show w.heap.size < _; omega)).trans c2
          have hbY := hb.trans (hY.mono hb.size)
          have hYs : w.heap.size < Y.heap.size := by have := hY.size; omega
          clear hY hb hO c0 c1 c2
          have hBA : Below Y.heap.size Y (Y.alloc (.cells #[] 106)) := (Below.refl _ _).alloc (Nat.le_refl _) _
          have hp1 := (HOY.out.kept hBA).part 0 (k * 3)
          have hl1 : ((((recI L).drop 0).take (k * 3)).map (Value.int .i64)).length = k * 3 := by rw [List.length_map, List.length_take, List.drop_zero, recI_length, HN.out]; omega
          have HP1 := Lib.hid hp1; have HL1 := Lib.hid hl1
          have hone := ints_oneCell .i64 (((recI L).drop 0).take (k * 3))
          clear hp1 hl1 hBA
          have HT := Lib.hid (show ((recI L).drop 0).take (k * 3) = recI (L.take k) by rw [List.drop_zero, recI_take L k (by rw [HN.out]; exact hk)])
          have HD := Lib.hid (show ((recI L).drop (k * 3)).take ((n - k) * 3) = recI (L.drop k) by rw [← recI_drop L k (by rw [HN.out]; exact hk)]; exact List.take_of_length_le (by rw [recI_length, List.length_drop, HN.out]; omega))
          have HTL := Lib.hid (show (recI (L.take k)).length = k * 3 by rw [recI_length, List.length_take, HN.out]; omega)
          have HDL := Lib.hid (show (recI (L.drop k)).length = (n - k) * 3 by rw [recI_length, List.length_drop, HN.out])
          go_wp2_with (first | (at_builtin; (refine wpList_append_own _ rfl _ _ 37 rfl Y.heap.size 106 i0 (.agg #[.int .i64 0, .int .i64 0, .int .i64 0]) 3 24 Try.underlying37 hi ht0 ht1 ht2 rfl (by decide) _ _ _ rfl (World.ownsRow_made Y #[] 0 (Nat.le_refl _) (by decide) rfl) ⟨g, 0, none⟩ k cap ((((recI L).drop 0).take (k * 3)).map (Value.int .i64)) rfl HL1.out HP1.out hone (by unfold maxLen; omega) (by omega) (by simp) ?_; intro v1 w1 hown1 hg1 _; obtain ⟨a1, cap1, rfl, hO1⟩ := OwnM.shape HTL.out (show w1.ownsRow Y.heap.size 106 3 v1 k ((recI (L.take k)).map (Value.int .i64)) by rw [← HT.out]; simpa using hown1); have hb1 : Below Y.heap.size Y w1 := ((Below.refl _ Y).alloc (Nat.le_refl _) _).grown hg1 (by simp) (fun q hq => by cases hq; exact Nat.le_refl _); have f0 := (hb1.cell (p := ⟨w.heap.size, 0, none⟩) hYs).trans d0; have f1 := (hb1.cell (p := ⟨w.heap.size, 1, none⟩) hYs).trans d1; have f2 := (hb1.cell (p := ⟨w.heap.size, 2, none⟩) hYs).trans d2; have HO1 := Lib.hid hO1; have HB1 := Lib.hid hb1; clear hown1 hg1 hO1 hb1 d0 d1 d2 hone HP1 HL1)) | (at_builtin; have hB2 : Below w1.heap.size w1 (w1.alloc (.cells #[.int .i64 xp, .int .i64 xe, .int .i64 xd] 106)) := (Below.refl _ _).alloc (Nat.le_refl _) _; have HK2 := Lib.hid (HO1.out.kept hB2); have HC2 := Lib.hid (cells_new w1 #[.int .i64 xp, .int .i64 xe, .int .i64 xd] 106); have HS1 := Lib.hid HB1.out.size; have HL2 := Lib.hid (show (recI (L.take k) ++ [xp, xe, xd]).length = (k + 1) * 3 by rw [List.length_append, HTL.out]; simp; omega); clear hB2; (refine wpList_append_own _ rfl _ _ 37 rfl Y.heap.size 106 i0 (.agg #[.int .i64 0, .int .i64 0, .int .i64 0]) 3 24 Try.underlying37 hi ht0 ht1 ht2 rfl (by decide) _ _ _ rfl HK2.out.2 ⟨w1.heap.size, 0, none⟩ 1 1 [.int .i64 xp, .int .i64 xe, .int .i64 xd] rfl rfl HC2.out (by simp [Value.oneCell']) (by unfold maxLen; omega) (by omega) (by have := HS1.out; simp; omega) ?_; intro v2 w2 hown2 hg2 _; obtain ⟨a2, cap2, rfl, hO2⟩ := OwnM.shape HL2.out (show w2.ownsRow Y.heap.size 106 3 v2 (k + 1) ((recI (L.take k) ++ [xp, xe, xd]).map (Value.int .i64)) by rw [List.map_append]; exact hown2); have HB2 := Lib.hid (HB1.out.trans (((Below.refl _ w1).alloc HS1.out _).trans (HK2.out.turn (by have := HS1.out; simp; omega) hg2))); have HO2 := Lib.hid hO2; clear hown2 hg2 hO2 HC2 HK2)) | (at_builtin; have HP3 := Lib.hid ((HOY.out.kept HB2.out).part (k * 3) ((n - k) * 3)); have hone3 := ints_oneCell .i64 (((recI L).drop (k * 3)).take ((n - k) * 3)); have HL3 := Lib.hid (show ((((recI L).drop (k * 3)).take ((n - k) * 3)).map (Value.int .i64)).length = (n - k) * 3 by rw [List.length_map, HD.out, HDL.out]); have HL4 := Lib.hid (show (recI (L.take k) ++ [xp, xe, xd] ++ recI (L.drop k)).length = (n + 1) * 3 by rw [List.length_append, HL2.out, HDL.out]; omega); have HE := Lib.hid (show recI (addR L ⟨xp, xe, xd⟩) = recI (L.take k) ++ [xp, xe, xd] ++ recI (L.drop k) by rw [HS.out, recI_append]; simp [recI]); have HS2 := Lib.hid HB2.out.size; refine wpList_append_own _ rfl _ _ 37 rfl Y.heap.size 106 i0 (.agg #[.int .i64 0, .int .i64 0, .int .i64 0]) 3 24 Try.underlying37 hi ht0 ht1 ht2 rfl (by decide) _ _ _ rfl HO2.out.2 ⟨g, k * 3, none⟩ (n - k) (cap - k) ((((recI L).drop (k * 3)).take ((n - k) * 3)).map (Value.int .i64)) rfl HL3.out HP3.out hone3 (by unfold maxLen; omega) (by omega) HS2.out ?_; intro v3 w3 hown3 hg3 _; obtain ⟨a3, cap3, rfl, hO3⟩ := OwnM.shape HL4.out (show w3.ownsRow Y.heap.size 106 3 v3 (n + 1) ((recI (L.take k) ++ [xp, xe, xd] ++ recI (L.drop k)).map (Value.int .i64)) by rw [List.map_append, ← HD.out, show n + 1 = k + 1 + (n - k) by omega]; exact hown3); have HB3 := Lib.hid (HB2.out.trans (HO2.out.turn HS2.out hg3)); have HO3 := Lib.hid hO3; clear hown3 hg3 hO3))
          go_ret
          exact ⟨_, _, rfl, by rw [HE.out]; exact HO3.out.mono (by omega), hbY.trans (HB3.out.mono (by omega))⟩

    · have HS := Lib.hid (addR_split L ⟨xp, xe, xd⟩ k (by rw [HN.out]; omega) hall (.inl (by rw [HN.out]; omega)))
      have hkn : ¬ ((k : Int) < (n : Int)) := by omega
      have HOH := Lib.hid hO
      clear hall hO
      go_wp2_with fail
      go_quiet (fail)
      have hY := below_drewN (Below.refl wr.heap.size wr) nq
      have hO := HOH.out
      generalize wr.drewN nq = Y at *
      clear HOH
      by_cases hcc : k < cap
      · have hcc2 : (k : Int) < cap := by omega
        have HOY := Lib.hid (hO.kept hY)
        have d0 := (hY.cell (p := ⟨w.heap.size, 0, none⟩) (by show w.heap.size < _; omega)).trans c0
        have d1 := (hY.cell (p := ⟨w.heap.size, 1, none⟩) (by show w.heap.size < _; omega)).trans c1
        have d2 := (hY.cell (p := ⟨w.heap.size, 2, none⟩) (by show w.heap.size < _; omega)).trans c2
        have hbY := hb.trans (hY.mono hb.size)
        have hYs : w.heap.size < Y.heap.size := by have := hY.size; omega
        clear hY hb hO c0 c1 c2
        have hBA : Below Y.heap.size Y (Y.alloc (.cells #[] 106)) := (Below.refl _ _).alloc (Nat.le_refl _) _
        have hp1 := (HOY.out.kept hBA).part 0 (k * 3)
        have hl1 : ((((recI L).drop 0).take (k * 3)).map (Value.int .i64)).length = k * 3 := by rw [List.length_map, List.length_take, List.drop_zero, recI_length, HN.out]; omega
        have HP1 := Lib.hid hp1; have HL1 := Lib.hid hl1
        have hone := ints_oneCell .i64 (((recI L).drop 0).take (k * 3))
        clear hp1 hl1 hBA
        have HT := Lib.hid (show ((recI L).drop 0).take (k * 3) = recI (L.take k) by rw [List.drop_zero, recI_take L k (by rw [HN.out]; exact hk)])
        have HD := Lib.hid (show ((recI L).drop (k * 3)).take ((n - k) * 3) = recI (L.drop k) by rw [← recI_drop L k (by rw [HN.out]; exact hk)]; exact List.take_of_length_le (by rw [recI_length, List.length_drop, HN.out]; omega))
        have HTL := Lib.hid (show (recI (L.take k)).length = k * 3 by rw [recI_length, List.length_take, HN.out]; omega)
        have HDL := Lib.hid (show (recI (L.drop k)).length = (n - k) * 3 by rw [recI_length, List.length_drop, HN.out])
        go_wp2_with (first | (at_builtin; (refine wpList_append_own _ rfl _ _ 37 rfl Y.heap.size 106 i0 (.agg #[.int .i64 0, .int .i64 0, .int .i64 0]) 3 24 Try.underlying37 hi ht0 ht1 ht2 rfl (by decide) _ _ _ rfl (World.ownsRow_made Y #[] 0 (Nat.le_refl _) (by decide) rfl) ⟨g, 0, none⟩ k cap ((((recI L).drop 0).take (k * 3)).map (Value.int .i64)) rfl HL1.out HP1.out hone (by unfold maxLen; omega) (by omega) (by simp) ?_; intro v1 w1 hown1 hg1 _; obtain ⟨a1, cap1, rfl, hO1⟩ := OwnM.shape HTL.out (show w1.ownsRow Y.heap.size 106 3 v1 k ((recI (L.take k)).map (Value.int .i64)) by rw [← HT.out]; simpa using hown1); have hb1 : Below Y.heap.size Y w1 := ((Below.refl _ Y).alloc (Nat.le_refl _) _).grown hg1 (by simp) (fun q hq => by cases hq; exact Nat.le_refl _); have f0 := (hb1.cell (p := ⟨w.heap.size, 0, none⟩) hYs).trans d0; have f1 := (hb1.cell (p := ⟨w.heap.size, 1, none⟩) hYs).trans d1; have f2 := (hb1.cell (p := ⟨w.heap.size, 2, none⟩) hYs).trans d2; have HO1 := Lib.hid hO1; have HB1 := Lib.hid hb1; clear hown1 hg1 hO1 hb1 d0 d1 d2 hone HP1 HL1)) | (at_builtin; have hB2 : Below w1.heap.size w1 (w1.alloc (.cells #[.int .i64 xp, .int .i64 xe, .int .i64 xd] 106)) := (Below.refl _ _).alloc (Nat.le_refl _) _; have HK2 := Lib.hid (HO1.out.kept hB2); have HC2 := Lib.hid (cells_new w1 #[.int .i64 xp, .int .i64 xe, .int .i64 xd] 106); have HS1 := Lib.hid HB1.out.size; have HL2 := Lib.hid (show (recI (L.take k) ++ [xp, xe, xd]).length = (k + 1) * 3 by rw [List.length_append, HTL.out]; simp; omega); clear hB2; (refine wpList_append_own _ rfl _ _ 37 rfl Y.heap.size 106 i0 (.agg #[.int .i64 0, .int .i64 0, .int .i64 0]) 3 24 Try.underlying37 hi ht0 ht1 ht2 rfl (by decide) _ _ _ rfl HK2.out.2 ⟨w1.heap.size, 0, none⟩ 1 1 [.int .i64 xp, .int .i64 xe, .int .i64 xd] rfl rfl HC2.out (by simp [Value.oneCell']) (by unfold maxLen; omega) (by omega) (by have := HS1.out; simp; omega) ?_; intro v2 w2 hown2 hg2 _; obtain ⟨a2, cap2, rfl, hO2⟩ := OwnM.shape HL2.out (show w2.ownsRow Y.heap.size 106 3 v2 (k + 1) ((recI (L.take k) ++ [xp, xe, xd]).map (Value.int .i64)) by rw [List.map_append]; exact hown2); have HB2 := Lib.hid (HB1.out.trans (((Below.refl _ w1).alloc HS1.out _).trans (HK2.out.turn (by have := HS1.out; simp; omega) hg2))); have HO2 := Lib.hid hO2; clear hown2 hg2 hO2 HC2 HK2)) | (at_builtin; have HP3 := Lib.hid ((HOY.out.kept HB2.out).part (k * 3) ((n - k) * 3)); have hone3 := ints_oneCell .i64 (((recI L).drop (k * 3)).take ((n - k) * 3)); have HL3 := Lib.hid (show ((((recI L).drop (k * 3)).take ((n - k) * 3)).map (Value.int .i64)).length = (n - k) * 3 by rw [List.length_map, HD.out, HDL.out]); have HL4 := Lib.hid (show (recI (L.take k) ++ [xp, xe, xd] ++ recI (L.drop k)).length = (n + 1) * 3 by rw [List.length_append, HL2.out, HDL.out]; omega); have HE := Lib.hid (show recI (addR L ⟨xp, xe, xd⟩) = recI (L.take k) ++ [xp, xe, xd] ++ recI (L.drop k) by rw [HS.out, recI_append]; simp [recI]); have HS2 := Lib.hid HB2.out.size; refine wpList_append_own _ rfl _ _ 37 rfl Y.heap.size 106 i0 (.agg #[.int .i64 0, .int .i64 0, .int .i64 0]) 3 24 Try.underlying37 hi ht0 ht1 ht2 rfl (by decide) _ _ _ rfl HO2.out.2 ⟨g, k * 3, none⟩ (n - k) (cap - k) ((((recI L).drop (k * 3)).take ((n - k) * 3)).map (Value.int .i64)) rfl HL3.out HP3.out hone3 (by unfold maxLen; omega) (by omega) HS2.out ?_; intro v3 w3 hown3 hg3 _; obtain ⟨a3, cap3, rfl, hO3⟩ := OwnM.shape HL4.out (show w3.ownsRow Y.heap.size 106 3 v3 (n + 1) ((recI (L.take k) ++ [xp, xe, xd] ++ recI (L.drop k)).map (Value.int .i64)) by rw [List.map_append, ← HD.out, show n + 1 = k + 1 + (n - k) by omega]; exact hown3); have HB3 := Lib.hid (HB2.out.trans (HO2.out.turn HS2.out hg3)); have HO3 := Lib.hid hO3; clear hown3 hg3 hO3))
        go_ret
        exact ⟨_, _, rfl, by rw [HE.out]; exact HO3.out.mono (by omega), hbY.trans (HB3.out.mono (by omega))⟩

      · have hkn2 : n = k := by omega
        subst hkn2
        have hcn2 : n = cap := by omega
        subst hcn2
        have HOY := Lib.hid (hO.kept hY)
        have d0 := (hY.cell (p := ⟨w.heap.size, 0, none⟩) (by show w.heap.size < _; omega)).trans c0
        have d1 := (hY.cell (p := ⟨w.heap.size, 1, none⟩) (by show w.heap.size < _; omega)).trans c1
        have d2 := (hY.cell (p := ⟨w.heap.size, 2, none⟩) (by show w.heap.size < _; omega)).trans c2
        have hbY := hb.trans (hY.mono hb.size)
        have hYs : w.heap.size < Y.heap.size := by have := hY.size; omega
        clear hY hb hO c0 c1 c2
        have hBA : Below Y.heap.size Y (Y.alloc (.cells #[] 106)) := (Below.refl _ _).alloc (Nat.le_refl _) _
        have hp1 := (HOY.out.kept hBA).part 0 (n * 3)
        have hl1 : ((((recI L).drop 0).take (n * 3)).map (Value.int .i64)).length = n * 3 := by rw [List.length_map, List.length_take, List.drop_zero, recI_length, HN.out]; omega
        have HP1 := Lib.hid hp1; have HL1 := Lib.hid hl1
        have hone := ints_oneCell .i64 (((recI L).drop 0).take (n * 3))
        clear hp1 hl1 hBA
        have HT := Lib.hid (show ((recI L).drop 0).take (n * 3) = recI (L.take n) by rw [List.drop_zero, recI_take L n (by rw [HN.out]; exact hk)])
        have HD := Lib.hid (show ((recI L).drop (n * 3)).take ((n - n) * 3) = recI (L.drop n) by rw [← recI_drop L n (by rw [HN.out]; exact hk)]; exact List.take_of_length_le (by rw [recI_length, List.length_drop, HN.out]; omega))
        have HTL := Lib.hid (show (recI (L.take n)).length = n * 3 by rw [recI_length, List.length_take, HN.out]; omega)
        have HDL := Lib.hid (show (recI (L.drop n)).length = (n - n) * 3 by rw [recI_length, List.length_drop, HN.out])
        go_wp2_with (first | (at_builtin; (refine wpList_append_own _ rfl _ _ 37 rfl Y.heap.size 106 i0 (.agg #[.int .i64 0, .int .i64 0, .int .i64 0]) 3 24 Try.underlying37 hi ht0 ht1 ht2 rfl (by decide) _ _ _ rfl (World.ownsRow_made Y #[] 0 (Nat.le_refl _) (by decide) rfl) ⟨g, 0, none⟩ n n ((((recI L).drop 0).take (n * 3)).map (Value.int .i64)) rfl HL1.out HP1.out hone (by unfold maxLen; omega) (by omega) (by simp) ?_; intro v1 w1 hown1 hg1 _; obtain ⟨a1, cap1, rfl, hO1⟩ := OwnM.shape HTL.out (show w1.ownsRow Y.heap.size 106 3 v1 n ((recI (L.take n)).map (Value.int .i64)) by rw [← HT.out]; simpa using hown1); have hb1 : Below Y.heap.size Y w1 := ((Below.refl _ Y).alloc (Nat.le_refl _) _).grown hg1 (by simp) (fun q hq => by cases hq; exact Nat.le_refl _); have f0 := (hb1.cell (p := ⟨w.heap.size, 0, none⟩) hYs).trans d0; have f1 := (hb1.cell (p := ⟨w.heap.size, 1, none⟩) hYs).trans d1; have f2 := (hb1.cell (p := ⟨w.heap.size, 2, none⟩) hYs).trans d2; have HO1 := Lib.hid hO1; have HB1 := Lib.hid hb1; clear hown1 hg1 hO1 hb1 d0 d1 d2 hone HP1 HL1)) | (at_builtin; have hB2 : Below w1.heap.size w1 (w1.alloc (.cells #[.int .i64 xp, .int .i64 xe, .int .i64 xd] 106)) := (Below.refl _ _).alloc (Nat.le_refl _) _; have HK2 := Lib.hid (HO1.out.kept hB2); have HC2 := Lib.hid (cells_new w1 #[.int .i64 xp, .int .i64 xe, .int .i64 xd] 106); have HS1 := Lib.hid HB1.out.size; have HL2 := Lib.hid (show (recI (L.take n) ++ [xp, xe, xd]).length = (n + 1) * 3 by rw [List.length_append, HTL.out]; simp; omega); clear hB2; (refine wpList_append_own _ rfl _ _ 37 rfl Y.heap.size 106 i0 (.agg #[.int .i64 0, .int .i64 0, .int .i64 0]) 3 24 Try.underlying37 hi ht0 ht1 ht2 rfl (by decide) _ _ _ rfl HK2.out.2 ⟨w1.heap.size, 0, none⟩ 1 1 [.int .i64 xp, .int .i64 xe, .int .i64 xd] rfl rfl HC2.out (by simp [Value.oneCell']) (by unfold maxLen; omega) (by omega) (by have := HS1.out; simp; omega) ?_; intro v2 w2 hown2 hg2 _; obtain ⟨a2, cap2, rfl, hO2⟩ := OwnM.shape HL2.out (show w2.ownsRow Y.heap.size 106 3 v2 (n + 1) ((recI (L.take n) ++ [xp, xe, xd]).map (Value.int .i64)) by rw [List.map_append]; exact hown2); have HB2 := Lib.hid (HB1.out.trans (((Below.refl _ w1).alloc HS1.out _).trans (HK2.out.turn (by have := HS1.out; simp; omega) hg2))); have HO2 := Lib.hid hO2; clear hown2 hg2 hO2 HC2 HK2)) | (at_builtin; have HS2 := Lib.hid HB2.out.size; refine wpList_append_own _ rfl _ _ 37 rfl Y.heap.size 106 i0 (.agg #[.int .i64 0, .int .i64 0, .int .i64 0]) 3 24 Try.underlying37 hi ht0 ht1 ht2 rfl (by decide) _ _ _ rfl HO2.out.2 ⟨g, 0, none⟩ 0 0 [] rfl rfl (fun j u h => by simp at h) (by simp) (by unfold maxLen; omega) (by omega) HS2.out ?_; intro v3 w3 hown3 hg3 _; obtain ⟨a3, cap3, rfl, hO3⟩ := OwnM.shape HL2.out (show w3.ownsRow Y.heap.size 106 3 v3 (n + 1) ((recI (L.take n) ++ [xp, xe, xd]).map (Value.int .i64)) by simpa using hown3); have HB3 := Lib.hid (HB2.out.trans (HO2.out.turn HS2.out hg3)); have HO3 := Lib.hid hO3; clear hown3 hg3 hO3))
        go_ret
        exact ⟨_, _, rfl, by rw [HS.out, recI_append, List.drop_of_length_le (by rw [HN.out]; omega)]; exact HO3.out.mono (by omega), hbY.trans (HB3.out.mono (by omega))⟩

end Go.Proofs.Ytodmohepgmhipaa

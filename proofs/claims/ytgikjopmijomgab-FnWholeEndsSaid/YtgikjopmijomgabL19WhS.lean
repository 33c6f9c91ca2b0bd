/-
  Chapter 19: WholeEnds' model.
-/
import Derived.Test.YtgikjopmijomgabL19Wh
import Derived.Test.YtgikjopmijomgabL19S
import Derived.Test.YtgikjopmijomgabL3DistS
import Derived.Maps.AppendAt
namespace Go.Proofs.Ytgikjopmijomgab
open Go.RowKit
set_option linter.unusedVariables false
set_option maxRecDepth 100000
theorem sdist_of (s t : ByteArray) (f : Bool) (d : Int) (hs : s.size ≤ 1048576) (ht : t.size ≤ 1048576) (hd : distI s t f = d) (w : World) :
    Calls Try.prog 46 #[.string s, .string t, .bool f] w fun e w' => e = .returned (.int .i64 d) ∧ Below w.heap.size w w' :=
  (spec_distance s t f w hs ht).mono fun _ _ h => ⟨by rw [h.1, hd], h.2⟩
set_option maxHeartbeats 4000000 in
theorem spec_wholeEnds (s : ByteArray) (K : Int) (f : Bool) (r : ByteArray) (w : World) (hs : s.size ≤ 1048576) (hr : r.size ≤ 1048576) :
    Calls Try.prog 28 #[.agg #[.string s, .int .i64 K, .bool f], .string r] w fun e w' => ∃ a n cap, e = .returned (.slice a n cap) ∧ OwnM 44 2 w' w.heap.size a n cap (wholeV s K f r) ∧ Below w.heap.size w w' := by
  cases hp : patOk s K
  · have HR := Lib.hid (show wholeV s K f r = [] by unfold wholeV; rw [hp]; simp)
    have HP := Lib.hid hp; clear hp
    go_enter Try.func28, Try.ntmps28
    go_wp2_with fail
    have hbx : Below w.heap.size w ((w.alloc (.cells #[.string s, .int .i64 K, .bool f] 36)).alloc (.cells #[] 44)) := (by repeat (first | exact Below.refl _ _ | assumption | (refine Below.drew ?_) | (refine below_drewN ?_ _) | (refine Below.alloc ?_ (by first | omega | (simp; done) | (simp; omega)) _) | (refine Below.setCell ?_ (by first | omega | (simp; done) | (simp; omega)) _)))
    have hO0 : OwnM 44 2 ((w.alloc (.cells #[.string s, .int .i64 K, .bool f] 36)).alloc (.cells #[] 44)) (w.heap.size + 1) (some ⟨w.heap.size + 1, 0, none⟩) 0 0 [] :=
      ⟨rfl, by have := World.ownsRow_made (base := w.heap.size + 1) (e := 44) (size := 2) (w.alloc (.cells #[.string s, .int .i64 K, .bool f] 36)) #[] 0 (by simp) (by decide) rfl; simpa using this⟩
    refine (spec_patternOk _ _ _ _ (by omega)).mono ?_
    rintro e w1 ⟨rfl, hb1⟩
    rw [HP.out]
    have HB := hbx.trans (hb1.mono hbx.size)
    have HO := hO0.kept hb1
    clear hb1 hbx hO0
    go_wp2_with fail
    go_ret
    exact ⟨_, _, _, rfl, by rw [HR.out]; exact HO.mono (by omega), HB⟩
  · by_cases h2 : r.size ≤ 200
    · obtain ⟨hs0, hs1, hk0, hk1⟩ := (patOk_iff s K).1 hp
      have HR := Lib.hid (show wholeV s K f r = whL s K f r (wordsL r) from if_pos ⟨hp, h2⟩)
      have HP := Lib.hid hp; clear hp
      have hd2 : decide (200 < (r.size : Int)) = false := by simp; omega
      have hlw : (wordsL r).length ≤ 101 := by have := wTo_len r r.size; unfold wordsL; omega
      obtain ⟨i0, hi, ht0, ht1, ht2⟩ := info_parts end_info
      go_enter Try.func28, Try.ntmps28
      go_wp2_with fail
      have hbx : Below w.heap.size w ((w.alloc (.cells #[.string s, .int .i64 K, .bool f] 36)).alloc (.cells #[] 44)) := (by repeat (first | exact Below.refl _ _ | assumption | (refine Below.drew ?_) | (refine below_drewN ?_ _) | (refine Below.alloc ?_ (by first | omega | (simp; done) | (simp; omega)) _) | (refine Below.setCell ?_ (by first | omega | (simp; done) | (simp; omega)) _)))
      have q0 : ((w.alloc (.cells #[.string s, .int .i64 K, .bool f] 36)).alloc (.cells #[] 44)).cell? ⟨w.heap.size, 0, none⟩ = some (.string s) := by go_simp
      have q1 : ((w.alloc (.cells #[.string s, .int .i64 K, .bool f] 36)).alloc (.cells #[] 44)).cell? ⟨w.heap.size, 1, none⟩ = some (.int .i64 K) := by go_simp
      have q2 : ((w.alloc (.cells #[.string s, .int .i64 K, .bool f] 36)).alloc (.cells #[] 44)).cell? ⟨w.heap.size, 2, none⟩ = some (.bool f) := by go_simp
      have hO0 : OwnM 44 2 ((w.alloc (.cells #[.string s, .int .i64 K, .bool f] 36)).alloc (.cells #[] 44)) (w.heap.size + 1) (some ⟨w.heap.size + 1, 0, none⟩) 0 0 [] :=
        ⟨rfl, by have := World.ownsRow_made (base := w.heap.size + 1) (e := 44) (size := 2) (w.alloc (.cells #[.string s, .int .i64 K, .bool f] 36)) #[] 0 (by simp) (by decide) rfl; simpa using this⟩
      have hsz : ((w.alloc (.cells #[.string s, .int .i64 K, .bool f] 36)).alloc (.cells #[] 44)).heap.size = w.heap.size + 2 := by simp
      generalize ((w.alloc (.cells #[.string s, .int .i64 K, .bool f] 36)).alloc (.cells #[] 44)) = V at *
      refine (spec_patternOk _ _ _ _ (by omega)).mono ?_
      rintro e w1 ⟨rfl, hb1⟩
      rw [HP.out]
      have HB := hbx.trans (hb1.mono hbx.size)
      have HO := hO0.kept hb1
      have p0 := (hb1.cell (p := ⟨w.heap.size, 0, none⟩) (by show w.heap.size < _; omega)).trans q0
      have p1 := (hb1.cell (p := ⟨w.heap.size, 1, none⟩) (by show w.heap.size < _; omega)).trans q1
      have p2 := (hb1.cell (p := ⟨w.heap.size, 2, none⟩) (by show w.heap.size < _; omega)).trans q2
      have hl1 : w.heap.size + 2 ≤ w1.heap.size := by have := hb1.size; omega
      clear hb1 hbx hO0 q0 q1 q2 hsz
      go_wp2_with fail
      refine (spec_l19Words r _ h2).mono ?_
      rintro e w2 ⟨aw, capw, rfl, hOw, hb2⟩
      have q0 := (hb2.cell (p := ⟨w.heap.size, 0, none⟩) (by show w.heap.size < _; omega)).trans p0
      have q1 := (hb2.cell (p := ⟨w.heap.size, 1, none⟩) (by show w.heap.size < _; omega)).trans p1
      have q2 := (hb2.cell (p := ⟨w.heap.size, 2, none⟩) (by show w.heap.size < _; omega)).trans p2
      have HB2 := HB.trans (hb2.mono HB.size)
      have HO2 := Lib.hid (HO.kept hb2)
      have hl2 : w.heap.size + 2 ≤ w2.heap.size := by have := hb2.size; omega
      have HNE : Hid (∀ j, (Value.slice (some ⟨w.heap.size + 1, 0, none⟩) 0 0).ownBlock = some j → (Value.slice aw (wordsL r).length capw).ownBlock ≠ some j) := by
        intro j hj e
        have h1 := (hOw.2.lt j e).1
        first | (simp [Value.ownBlock] at hj; omega) | (simp [Value.ownBlock] at hj)
      have HIw := Lib.hid hOw.ints
      have HOW := Lib.hid hOw
      clear hb2 HB HO p0 p1 p2 hOw
      go_wp2
      go_loopw [5, 7] (fun o i wr => ∃ (k : Nat) (a : Option Addr) (n cap : Nat), k ≤ (wordsL r).length ∧ i = .int .i64 k ∧ o = .slice a n cap ∧ OwnM 44 2 wr (w.heap.size + 1) a n cap (whL s K f r ((wordsL r).take k)) ∧ OwnM 30 2 wr (w.heap.size + 2) aw (wordsL r).length capw (spL (wordsL r)) ∧ (∀ j, (Value.slice a n cap).ownBlock = some j → (Value.slice aw (wordsL r).length capw).ownBlock ≠ some j) ∧ wr.cell? ⟨w.heap.size, 0, none⟩ = some (.string s) ∧ wr.cell? ⟨w.heap.size, 1, none⟩ = some (.int .i64 K) ∧ wr.cell? ⟨w.heap.size, 2, none⟩ = some (.bool f) ∧ Below w.heap.size w wr ∧ w.heap.size + 2 ≤ wr.heap.size)
        (fun _ i _ => (wordsL r).length - (intOf i).toNat)
      case atStart => exact ⟨0, _, _, _, by omega, rfl, rfl, HO2.out, HOW.out.mono (by omega), HNE.out, q0, q1, q2, HB2, hl2⟩
      case round =>
        obtain ⟨k, a, n, cap, hk, rfl, rfl, hO, hOw, hne, c0, c1, c2, hb, hz⟩ := hrel
        by_cases hlt : k < (wordsL r).length
        · obtain ⟨⟨x, y⟩, hx⟩ : ∃ x, (wordsL r)[k]? = some x := ⟨_, List.getElem?_eq_getElem hlt⟩
          obtain ⟨g, rfl, hg1, hg2⟩ := hOw.head k hlt
          have hmem : (x, y) ∈ wordsL r := List.mem_of_getElem? hx
          have hxy := wTo_lt r r.size (x, y) hmem
          simp only at hxy
          have hxy1 : (x : Int) ≤ (y : Int) := by omega
          have hyr : (y : Int) ≤ (r.size : Int) := by omega
          have hx0 : (0 : Int) ≤ (x : Int) := by omega
          have hsp := spL_at (wordsL r) k hlt
          have hgD : (wordsL r).getD k (0, 0) = (x, y) := by rw [List.getD_eq_getElem?_getD, hx]; rfl
          rw [hgD] at hsp
          have e0 := hOw.cell (k * 2) (by omega)
          have e1 := hOw.cell (k * 2 + 1) (by omega)
          rw [hsp.1] at e0
          rw [hsp.2] at e1
          dsimp only at e0 e1
          have htk := take_one hx
          have hsn := whL_snoc s K f r ((wordsL r).take k) (x, y)
          rw [← htk] at hsn
          have hlw2 := whL_len s K f r ((wordsL r).take k)
          have hn3 : n ≤ 101 := by have := hO.len; rw [List.length_take] at hlw2; omega
          have hXZ : (r.extract x y).size ≤ 1048576 := by rw [ByteArray.size_extract]; omega
          have hone : whOne s K f r (x, y) = if distI s (r.extract x y) f ≤ K then [(y : Int), distI s (r.extract x y) f] else [] := rfl
          rw [hone] at hsn
          obtain ⟨X, hX⟩ : ∃ X, r.extract x y = X := ⟨_, rfl⟩
          rw [hX] at hsn hXZ
          obtain ⟨d, hd⟩ : ∃ d, distI s X f = d := ⟨_, rfl⟩
          rw [hd] at hsn
          have C1 := Lib.hid (fun W => sdist_of s X f d (by omega) hXZ hd W)
          have HSN := Lib.hid hsn
          have HLO := Lib.hid hO.len
          have HO := Lib.hid hO; have HOw := Lib.hid hOw; have HNE := Lib.hid hne
          have k0 : (0 : Int) ≤ (k : Int) := by omega
          have k1 : (k : Int) < ((wordsL r).length : Int) := by omega
          have hEb : ∀ q, (Value.slice a n cap).ownBlock = some q → w.heap.size + 1 ≤ q ∧ q < wr.heap.size := fun q hq => hO.2.lt q hq
          have HWN := Lib.hid hlw
          clear hmem hsp hgD htk hsn hlw2 hone hd hO hOw hne hx HO2 HIw HOW hxy
          generalize (wordsL r).length = N at *
          have r0 := cell_regrown c0
          have r1 := cell_regrown c1
          have r2 := cell_regrown c2
          have r3 := cell_regrown e0
          have r4 := cell_regrown e1
          clear q0 q1 q2 HB2 hl2
          by_cases hdk : d ≤ K
          · have hdk2 : decide (d ≤ K) = true := by simpa using hdk
            go_wp2_with fail
            refine wp_region_quiet_below (by kernel_rfl) (by kernel_rfl) ?_
            repeat (go_big_quiet_step (((go_at_call 46; with_reducible exact Calls.regrown_of (C1.out _)))))
            refine wpQuiet_nil ?_
            intro _ hw'
            obtain ⟨⟨dq, osq⟩, hw''⟩ := hw'
            subst hw''
            obtain ⟨Y, hYe, hY⟩ : ∃ Y, Y = _ ∧ Below wr.heap.size wr Y := ⟨_, rfl, below_regrown wr dq osq⟩
            dsimp only
            rw [← hYe]
            clear hYe r0 r1 r2 r3 r4
            have d0 := (hY.cell (p := ⟨w.heap.size, 0, none⟩) (by show w.heap.size < _; omega)).trans c0
            have d1 := (hY.cell (p := ⟨w.heap.size, 1, none⟩) (by show w.heap.size < _; omega)).trans c1
            have d2 := (hY.cell (p := ⟨w.heap.size, 2, none⟩) (by show w.heap.size < _; omega)).trans c2
            have d4 := (hY.cell (p := ⟨g, k * 2 + 1, none⟩) hg2).trans e1
            have HOY := Lib.hid (HO.out.kept hY)
            have HWY := Lib.hid (HOw.out.kept hY)
            have hbY := hb.trans (hY.mono hb.size)
            have hzY : w.heap.size + 2 ≤ Y.heap.size := by have := hY.size; omega
            clear c0 c1 c2 e0 e1 hY hb HO HOw hEb hg2 hz
            have hEY : ∀ q, (Value.slice a n cap).ownBlock = some q → w.heap.size + 1 ≤ q ∧ q < Y.heap.size := fun q hq => HOY.out.2.lt q hq
            have hsn := HSN.out
            rw [if_pos hdk] at hsn
            have HF := Lib.hid hsn
            have HL := Lib.hid (show (whL s K f r ((wordsL r).take (k + 1))).length = (n + 1) * 2 by rw [hsn, List.length_append, HLO.out]; simp; omega)
            clear hsn HSN C1
            go_wp2_with (at_builtin; refine wpList_append_own_at _ rfl _ _ 39 rfl (w.heap.size + 1) 44 i0 (.agg #[.int .i64 0, .int .i64 0]) 2 16 Try.underlying39 hi ht0 ht1 ht2 rfl (by decide) _ _ _ rfl (HOY.out.kept ((Below.refl Y.heap.size Y).alloc (Nat.le_refl _) (.cells #[.int .i64 (y : Int), .int .i64 d] 44))).2 ⟨Y.heap.size, 0, none⟩ 1 1 [.int .i64 (y : Int), .int .i64 d] rfl rfl (fun j u h => cells_new Y _ _ j u h) (by simp [Value.oneCell']) (by unfold maxLen; omega) (by omega) (by simp; omega) ?_; intro v' w3 hown' hg _ hat; obtain ⟨a', cap', rfl, hO'⟩ := OwnM.shape HL.out (by rw [HF.out, List.map_append]; exact hown'); have hgs := hg.size)
            have hk2 : ∀ b, b < Y.heap.size → some b ≠ (Value.slice a n cap).ownBlock → w3.heap[b]? = Y.heap[b]? := fun b h1 h2 => (hg.block b (by simp; omega) h2).trans (Below.heap_alloc Y (.cells #[.int .i64 (y : Int), .int .i64 d] 44) b h1)
            simp only [World.size_alloc] at hgs
            have hw1 : some w.heap.size ≠ (Value.slice a n cap).ownBlock := fun e => by have := (hEY _ e.symm).1; omega
            have hB3 : Below w.heap.size Y w3 := ⟨hg.os, hg.tape, hg.output, by omega, fun b h => hk2 b (by omega) (fun e => by have := (hEY _ e.symm).1; omega)⟩
            have hW3 : OwnM 30 2 w3 (w.heap.size + 2) (some ⟨g, 0, none⟩) N capw (spL (wordsL r)) := HWY.out.on fun q hq => hk2 q (HWY.out.turn_lt q hq) (fun e => HNE.out q e.symm hq)
            have hne3 : ∀ j, (Value.slice a' (n + 1) cap').ownBlock = some j → (Value.slice (some ⟨g, 0, none⟩) N capw).ownBlock ≠ some j := fun j hj e => by
              rcases hat with e2 | e2
              · exact HNE.out j (e2.symm.trans hj) e
              · rw [hj] at e2
                have := HWY.out.turn_lt j e
                simp at e2; omega
            clear hat hown' hg
            go_roundw
            case rel => exact ⟨k + 1, a', n + 1, cap', by omega, by go_num, rfl, hO', hW3, hne3, (World.cell?_of_block (w := Y) (hk2 w.heap.size (by omega) hw1)).trans d0, (World.cell?_of_block (w := Y) (hk2 w.heap.size (by omega) hw1)).trans d1, (World.cell?_of_block (w := Y) (hk2 w.heap.size (by omega) hw1)).trans d2, hbY.trans hB3, by omega⟩
            case measure => first | (simp [intOf]; done) | (simp [intOf]; omega)
          · have hdk2 : decide (d ≤ K) = false := by simpa using hdk
            go_wp2_with fail
            refine wp_region_quiet_below (by kernel_rfl) (by kernel_rfl) ?_
            repeat (go_big_quiet_step (((go_at_call 46; with_reducible exact Calls.regrown_of (C1.out _)))))
            refine wpQuiet_nil ?_
            intro _ hw'
            obtain ⟨⟨dq, osq⟩, hw''⟩ := hw'
            subst hw''
            obtain ⟨Y, hYe, hY⟩ : ∃ Y, Y = _ ∧ Below wr.heap.size wr Y := ⟨_, rfl, below_regrown wr dq osq⟩
            dsimp only
            rw [← hYe]
            clear hYe r0 r1 r2 r3 r4
            have d0 := (hY.cell (p := ⟨w.heap.size, 0, none⟩) (by show w.heap.size < _; omega)).trans c0
            have d1 := (hY.cell (p := ⟨w.heap.size, 1, none⟩) (by show w.heap.size < _; omega)).trans c1
            have d2 := (hY.cell (p := ⟨w.heap.size, 2, none⟩) (by show w.heap.size < _; omega)).trans c2
            have d4 := (hY.cell (p := ⟨g, k * 2 + 1, none⟩) hg2).trans e1
            have HOY := Lib.hid (HO.out.kept hY)
            have HWY := Lib.hid (HOw.out.kept hY)
            have hbY := hb.trans (hY.mono hb.size)
            have hzY : w.heap.size + 2 ≤ Y.heap.size := by have := hY.size; omega
            clear c0 c1 c2 e0 e1 hY hb HO HOw hEb hg2 hz
            have hsn := HSN.out
            rw [if_neg (by omega), List.append_nil] at hsn
            have HF := Lib.hid hsn
            clear hsn HSN C1
            go_wp2
            go_roundw
            case rel => exact ⟨k + 1, a, n, cap, by omega, by go_num, rfl, by rw [HF.out]; exact HOY.out, HWY.out, HNE.out, d0, d1, d2, hbY, hzY⟩
            case measure => first | (simp [intOf]; done) | (simp [intOf]; omega)
        · obtain rfl : k = (wordsL r).length := by omega
          rw [List.take_length] at hO
          have HO := Lib.hid hO
          clear hO hOw hne HO2 HIw HOW HNE
          go_wp2
          go_ret
          exact ⟨_, _, _, rfl, by rw [HR.out]; exact HO.out.mono (by omega), hb⟩
    · have HR := Lib.hid (show wholeV s K f r = [] from if_neg fun h => h2 h.2)
      have HP := Lib.hid hp; clear hp
      have hd2 : decide (200 < (r.size : Int)) = true := by simp; omega
      go_enter Try.func28, Try.ntmps28
      go_wp2_with fail
      have hbx : Below w.heap.size w ((w.alloc (.cells #[.string s, .int .i64 K, .bool f] 36)).alloc (.cells #[] 44)) := (by repeat (first | exact Below.refl _ _ | assumption | (refine Below.drew ?_) | (refine below_drewN ?_ _) | (refine Below.alloc ?_ (by first | omega | (simp; done) | (simp; omega)) _) | (refine Below.setCell ?_ (by first | omega | (simp; done) | (simp; omega)) _)))
      have hO0 : OwnM 44 2 ((w.alloc (.cells #[.string s, .int .i64 K, .bool f] 36)).alloc (.cells #[] 44)) (w.heap.size + 1) (some ⟨w.heap.size + 1, 0, none⟩) 0 0 [] :=
        ⟨rfl, by have := World.ownsRow_made (base := w.heap.size + 1) (e := 44) (size := 2) (w.alloc (.cells #[.string s, .int .i64 K, .bool f] 36)) #[] 0 (by simp) (by decide) rfl; simpa using this⟩
      refine (spec_patternOk _ _ _ _ (by omega)).mono ?_
      rintro e w1 ⟨rfl, hb1⟩
      rw [HP.out]
      have HB := hbx.trans (hb1.mono hbx.size)
      have HO := hO0.kept hb1
      clear hb1 hbx hO0
      go_wp2_with fail
      go_ret
      exact ⟨_, _, _, rfl, by rw [HR.out]; exact HO.mono (by omega), HB⟩
end Go.Proofs.Ytgikjopmijomgab

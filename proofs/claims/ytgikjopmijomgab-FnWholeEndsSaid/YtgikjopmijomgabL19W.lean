/-
  Chapter 19: WordsOf, in the program: the words collected.
-/
import Derived.Test.YtgikjopmijomgabL19It
namespace Go.Proofs.Ytgikjopmijomgab
open Go Go.RowKit Go.Shelf
set_option linter.unusedVariables false
set_option maxRecDepth 100000
attribute [local go_sem] Oper.semAt_some
theorem span_info : (Try.prog.info? 30).map (fun i => (i.zero, i.size, i.bytes)) = some (some (.agg #[.int .i64 0, .int .i64 0]), 2, 16) := by kernel_rfl
theorem take_one {α : Type} {L : List α} {k : Nat} {x : α} (h : L[k]? = some x) : L.take (k + 1) = L.take k ++ [x] := by
  have hl : k < L.length := (List.getElem?_eq_some_iff.1 h).1
  rw [List.take_succ_eq_append_getElem hl, (List.getElem?_eq_some_iff.1 h).2]
def wCnt (r : ByteArray) (k : Nat) : Nat := ((wordsL r).take k).length
set_option maxHeartbeats 4000000 in
theorem append_words (r : ByteArray) (bt B : Nat) (w : World) (hr : r.size ≤ 200) (ct : w.cell? ⟨bt, 0, none⟩ = some (.string r)) (hB : B ≤ bt) :
    Calls Try.prog 48 #[.slice none 0 0, .func (.func 49) #[] #[boxW bt]] w fun e w' => ∃ a cap, e = .returned (.slice a (wordsL r).length cap) ∧ OwnM 30 2 w' B a (wordsL r).length cap (spL (wordsL r)) ∧ Below B w w' := by
  obtain ⟨i0, hi, hz0, hz1, hz2⟩ := info_parts span_info
  have hbt := block_lt_of_cell ct
  simp only at hbt
  have hlw : (wordsL r).length ≤ 101 := by have := wTo_len r r.size; unfold wordsL; omega
  refine (callsIn_wide (n := 6)).1 ?_
  refine callsIn_of_wp_marks Try.func48 rfl trivial ?_ rfl
  simp only [Try.ntmps48, List.size_toArray, List.length_cons, List.length_nil, Nat.reduceAdd, Nat.reduceSub, Array.replicate_succ, Array.replicate_zero, List.push_toArray, List.append_toArray, List.nil_append, List.cons_append]
  gi_wp2
  have v1 : (w.alloc (.cells #[.slice none 0 0] 25)).cell? ⟨w.heap.size, 0, none⟩ = some (.slice none 0 0) := by go_simp
  have vf : (w.alloc (.cells #[.slice none 0 0] 25)).frozen? ⟨w.heap.size, 0, none⟩ = false := by go_simp
  have vt : (w.alloc (.cells #[.slice none 0 0] 25)).cell? ⟨bt, 0, none⟩ = some (.string r) := (((Below.refl _ w).alloc (Nat.le_refl _) _).cell (p := ⟨bt, 0, none⟩) hbt).trans ct
  have hVB : Below B w (w.alloc (.cells #[.slice none 0 0] 25)) := (Below.refl _ _).alloc (by omega) _
  have hV : (w.alloc (.cells #[.slice none 0 0] 25)).heap.size = w.heap.size + 1 := by simp
  generalize w.alloc (.cells #[.slice none 0 0] 25) = V at *
  have HW : Hid (V.heap.size = w.heap.size + 1) := hV
  clear hV
  generalize w.heap.size = bS at *
  have hSV : bS < V.heap.size := by have := HW.out; omega
  refine range_law2 rfl (by omega) (gf := 49) (lb := #[boxW bt]) rfl trivial (enters_of Try.func49 (by kernel_rfl) rfl)
    (words_iter r bt _ (fun b => b < V.heap.size ∧ b ≠ bt) V hr vt (fun h => h.2 rfl)) (fun x => rfl) (fun x => .cells #[.int .i64 (x.1 : Int), .int .i64 (x.2 : Int)] 30) (fun x => rfl)
    (fun k x W l o o' h hl ho => h) (fun k x W h => h)
    (fun k T W => ∃ (a : Option Addr) (n cap : Nat), (∀ b, T b ↔ (b < V.heap.size ∧ b ≠ bt) ∨ (Value.slice a n cap).ownBlock = some b) ∧ n = wCnt r k ∧ W.cell? ⟨bS, 0, none⟩ = some (.slice a n cap) ∧ W.frozen? ⟨bS, 0, none⟩ = false ∧ OwnM 30 2 W V.heap.size a n cap (spL ((wordsL r).take k)) ∧ Below B w W ∧ V.heap.size ≤ W.heap.size)
    ?hJ (fun b h => h.1) ⟨none, 0, 0, fun b => ⟨.inl, fun h => h.elim id (fun h => by cases h)⟩, rfl, v1, vf, OwnM.nil _ _, hVB, by omega⟩ ?a1 ?assign ?body ?done
  case assign =>
    intro l x W b K hb hK
    unfold encW
    gi_wp2
    rw [← hb]
    exact hK
  case hJ =>
    rintro k T X Y ⟨a, n, cap, hT, hn, c1, f1, hO, hb, hl⟩ hAB
    refine ⟨a, n, cap, hT, hn, (hAB.cell (p := ⟨bS, 0, none⟩) ((hT _).2 (.inl ⟨by show bS < _; omega, by show bS ≠ _; omega⟩)) (by show bS < _; omega)).trans c1, (hAB.frozen (p := ⟨bS, 0, none⟩) ((hT _).2 (.inl ⟨by show bS < _; omega, by show bS ≠ _; omega⟩)) (by show bS < _; omega)).trans f1, hO.on fun g hg => hAB.block g ((hT g).2 (.inr hg)) (hO.turn_lt g hg), hb.trans (hAB.below (by have := HW.out; omega) fun b h => (hT b).2 (.inl ⟨by omega, by omega⟩)), Nat.le_trans hl hAB.size⟩
  case body =>
    rintro l k T ⟨x, y⟩ b W hk ⟨a, n, cap, hT, hn, c1, f1, hO, hb, hl⟩ hx hbx hTb hbz
    have e0 : W.cell? ⟨b, 0, none⟩ = some (.int .i64 (x : Int)) := by rw [cell_of_row _ _ 0 _ _ _ hbx]; rfl
    have e1 : W.cell? ⟨b, 1, none⟩ = some (.int .i64 (y : Int)) := by rw [cell_of_row _ _ 1 _ _ _ hbx]; rfl
    have htk := take_one hx
    have hn3 : n ≤ 101 := by rw [hn, wCnt, List.length_take]; omega
    have HTK := Lib.hid (show spL ((wordsL r).take (k + 1)) = spL ((wordsL r).take k) ++ [(x : Int), (y : Int)] by rw [htk, spL_append]; rfl)
    have HN2 := Lib.hid (show n + 1 = wCnt r (k + 1) by rw [wCnt, htk, List.length_append, hn]; rfl)
    have HLEN := Lib.hid (show (spL ((wordsL r).take (k + 1))).length = (n + 1) * 2 by rw [spL_length, HN2.out, wCnt])
    have HO := Lib.hid hO
    have HTT := Lib.hid hT
    have hEb : ∀ q, (Value.slice a n cap).ownBlock = some q → V.heap.size ≤ q ∧ q < W.heap.size := fun q hq => hO.2.lt q hq
    have hVE : ∀ q, (Value.slice a n cap).ownBlock = some q → q ≠ bS := fun q hq => by have := (hEb q hq).1; omega
    have hbS : b ≠ bS := fun e => by have := hTb bS ((hT _).2 (.inl ⟨hSV, by omega⟩)); omega
    have hbq : ∀ q, (Value.slice a n cap).ownBlock = some q → q ≠ b := fun q hq => by have := hTb q ((hT _).2 (.inr hq)); omega
    clear hO hT hn htk hbx
    gi_wp2_with (gi_at_builtin; refine wpListIn_append_own_at _ rfl _ _ 25 rfl V.heap.size 30 i0 (.agg #[.int .i64 0, .int .i64 0]) 2 16 Try.underlying25 hi hz0 hz1 hz2 rfl (by decide) _ _ _ rfl (HO.out.kept ((Below.refl W.heap.size W).alloc (Nat.le_refl _) (.cells #[.int .i64 (x : Int), .int .i64 (y : Int)] 30))).2 ⟨W.heap.size, 0, none⟩ 1 1 [.int .i64 (x : Int), .int .i64 (y : Int)] rfl rfl (fun j u h => cells_new W _ _ j u h) (by simp [Value.oneCell']) (by unfold maxLen; omega) (by omega) (by simp; omega) ?_; intro v' w1 hown' hg _ hat; obtain ⟨a', cap', rfl, hO'⟩ := OwnM.shape HLEN.out (by rw [HTK.out, List.map_append]; exact hown'); have hgs := hg.size; have hk2 : ∀ c, c < W.heap.size → some c ≠ (Value.slice a n cap).ownBlock → w1.heap[c]? = W.heap[c]? := (fun c h1 h2 => (hg.block c (by simp; omega) h2).trans (Below.heap_alloc W (.cells #[.int .i64 (x : Int), .int .i64 (y : Int)] 30) c h1)); have hcE := (World.cell?_of_block (w := W) (hk2 bS (by omega) (fun e => hVE bS e.symm rfl))).trans c1; have hfE := (World.frozen?_of_block (w := W) (hk2 bS (by omega) (fun e => hVE bS e.symm rfl))).trans f1)
    have hk3 : ∀ c, c < W.heap.size → some c ≠ (Value.slice a n cap).ownBlock → c ≠ bS → (w1.setCell ⟨bS, 0, none⟩ (.slice a' (n + 1) cap')).heap[c]? = W.heap[c]? := fun c h1 h2 h3 => (Below.heap_setCell w1 ⟨bS, 0, none⟩ _ c h3).trans (hk2 c h1 h2)
    have hVo : ∀ c, c < V.heap.size → some c ≠ (Value.slice a n cap).ownBlock := fun c h1 h2 => by have := (hEb c h2.symm).1; omega
    simp only [World.size_alloc] at hgs
    have hs3 : (w1.setCell ⟨bS, 0, none⟩ (.slice a' (n + 1) cap')).heap.size = w1.heap.size := by simp [World.setCell]
    have hWz := HW.out
    refine ⟨fun c => (c < V.heap.size ∧ c ≠ bt) ∨ (Value.slice a' (n + 1) cap').ownBlock = some c, ⟨a', n + 1, cap', fun c => Iff.rfl, HN2.out, World.cell?_setCell_same' _ _ _ (by rw [hcE]; rfl), by rw [World.frozen?_setCell]; exact hfE, hO'.on fun g hg' => Below.heap_setCell w1 ⟨bS, 0, none⟩ _ g (by have := (hO'.2.lt g hg').1; show g ≠ bS; omega), ?_, by omega⟩, ?_, ?_⟩
    · exact hb.trans ⟨hg.os, hg.tape, hg.output, by omega, fun c h => hk3 c (by omega) (hVo c (by omega)) (by omega)⟩
    · exact ⟨hg.os, hg.tape, hg.output, by omega, fun c h1 h2 => hk3 c h2 (fun e => h1 ((HTT.out c).2 (.inr e.symm))) (fun e => h1 ((HTT.out c).2 (.inl ⟨by omega, by omega⟩)))⟩
    · rintro c (h | h)
      · exact ⟨.inl ((HTT.out c).2 (.inl h)), by omega⟩
      · refine ⟨?_, by have := hO'.turn_lt c h; omega⟩
        rcases hat with e | e
        · exact .inl ((HTT.out c).2 (.inr (e.symm.trans h)))
        · rw [h] at e
          simp only [Option.some.injEq] at e
          exact .inr (by rw [e]; simp)
  case done =>
    rintro D T W hD hTD ⟨a, n, cap, hT, hn, c1, f1, hO, hb, hl⟩ hK
    rw [List.take_length] at hO
    rw [wCnt, List.take_length] at hn
    subst hn
    gi_wp2
    refine ⟨by simp, .inl ⟨_, _, rfl, run_takeDeferred hK, ?_⟩⟩
    refine ⟨_, results_tmp rfl _ _ _, _, _, rfl, ?_, hb.trans (belowK_b (n₀ := B) (w := V) (by have := HW.out; omega) W D _ _ (by omega) hK rfl rfl)⟩
    refine (hO.mono (C := B) (by have := HW.out; omega)).on fun q hq => World.putObj_heap_other ?_
    rintro rfl
    exact hTD ((hT q).2 (.inr hq))
theorem collect_words (r : ByteArray) (bt B : Nat) (w : World) (hr : r.size ≤ 200) (ct : w.cell? ⟨bt, 0, none⟩ = some (.string r)) (hB : B ≤ bt) :
    Calls Try.prog 32 #[.func (.func 49) #[] #[boxW bt]] w fun e w' => ∃ a cap, e = .returned (.slice a (wordsL r).length cap) ∧ OwnM 30 2 w' B a (wordsL r).length cap (spL (wordsL r)) ∧ Below B w w' := by
  go_enter Try.func32, Try.ntmps32
  go_wp2_with fail
  refine (append_words r bt B _ hr ct hB).mono ?_
  rintro e w1 ⟨a, cap, rfl, hO, hb1⟩
  go_wp2_with fail
  go_ret
  exact ⟨a, cap, rfl, hO, hb1⟩
theorem impl_wordSpans (r : ByteArray) (w : World) :
    Calls Try.prog 33 #[.string r] w fun e w' => e = .returned (.func (.func 49) #[] #[boxW w.heap.size]) ∧ w' = w.alloc (.cells #[.string r] 9) := by
  go_enter Try.func33, Try.ntmps33
  go_wp2
  go_ret
  exact ⟨rfl, rfl⟩
def wordsV (r : ByteArray) : List (Nat × Nat) := if r.size ≤ 200 then wordsL r else []
theorem wordsV_len (r : ByteArray) : (wordsV r).length ≤ 101 := by
  unfold wordsV
  split
  · have := wTo_len r r.size; unfold wordsL; omega
  · simp
theorem impl_wordsOf (r : ByteArray) (w : World) (hr : r.size ≤ 1048576) :
    Calls Try.prog 11 #[.string r] w fun e w' => ∃ a cap, e = .returned (.slice a (wordsV r).length cap) ∧ OwnM 30 2 w' w.heap.size a (wordsV r).length cap (spL (wordsV r)) ∧ Below w.heap.size w w' := by
  by_cases h1 : r.size ≤ 200
  · have hd : decide (200 < (r.size : Int)) = false := by simp; omega
    rw [show wordsV r = wordsL r from if_pos h1]
    go_enter Try.func11, Try.ntmps11
    go_wp2_with fail
    refine (impl_wordSpans r _).mono ?_
    rintro e w1 ⟨rfl, rfl⟩
    go_wp2_with fail
    refine (collect_words r w.heap.size w.heap.size _ h1 (by go_simp) (Nat.le_refl _)).mono ?_
    rintro e w2 ⟨a, cap, rfl, hO, hb2⟩
    go_wp2_with fail
    go_ret
    exact ⟨a, cap, rfl, hO, ((Below.refl _ _).alloc (Nat.le_refl _) _).trans hb2⟩
  · have hd : decide (200 < (r.size : Int)) = true := by simp; omega
    rw [show wordsV r = [] from if_neg h1]
    go_enter Try.func11, Try.ntmps11
    go_wp2
    go_ret
    exact ⟨none, 0, rfl, OwnM.nil _ _, Below.refl _ _⟩
end Go.Proofs.Ytgikjopmijomgab

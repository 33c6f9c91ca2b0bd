/-
  Chapter 18: SwapEnds, in the program: a range that appends (by wip/tools/mk_swapends.py).
-/
import Derived.Test.YtgikjopmijomgabL18Dist
import Derived.Test.YtgikjopmijomgabL3Ends
namespace Go.Proofs.Ytgikjopmijomgab
open Go Go.RowKit Go.Shelf
set_option linter.unusedVariables false
set_option maxRecDepth 100000
attribute [local go_sem] Oper.semAt_some
/-- how far a piece of r that ends at k is from s, swaps too -/
def swD (s r : ByteArray) (f : Bool) (k : Nat) : Int := swAt (foldIf f s) (foldIf f r) 0 k s.size
def swEndsL (s : ByteArray) (K : Int) (f : Bool) (r : ByteArray) : List Int := if patOk s K && decide (r.size ≤ 200) then endF (swD s r f) K (r.size + 1) else []
set_option maxHeartbeats 8000000 in
theorem impl_swapEnds (s : ByteArray) (K : Int) (f : Bool) (r : ByteArray) (w : World) (hs : s.size ≤ 1048576) (hr : r.size ≤ 1048576) :
    Calls Try.prog 21 #[.agg #[.string s, .int .i64 K, .bool f], .string r] w fun e w' => ∃ a n cap, e = .returned (.slice a n cap) ∧ OwnM 44 2 w' w.heap.size a n cap (swEndsL s K f r) ∧ Below w.heap.size w w' := by
  obtain ⟨i0, hi, hz0, hz1, hz2⟩ := info_parts end_info
  refine (callsIn_wide (n := 6)).1 ?_
  refine callsIn_of_wp_marks Try.func21 rfl trivial ?_ rfl
  simp only [Try.ntmps21, List.size_toArray, List.length_cons, List.length_nil, Nat.reduceAdd, Nat.reduceSub, Array.replicate_succ, Array.replicate_zero, List.push_toArray, List.append_toArray, List.nil_append, List.cons_append]
  cases hp : patOk s K
  · have HR := Lib.hid (show swEndsL s K f r = [] by unfold swEndsL; rw [hp]; rfl)
    have HP := Lib.hid hp; clear hp
    gi_wp2
    (first | refine ⟨trivial, fun h => (Bool.false_ne_true h).elim, ?_⟩ | refine ⟨trivial, ?_⟩)
    refine (callsIn_wide.2 (impl_patternOk s K f _ (by omega))).mono ?_
    rintro e w1 ⟨rfl, hb1⟩
    rw [HP.out]
    have HT : Below w.heap.size w w1 := below_step (by repeat (first | exact Below.refl _ _ | assumption | (refine Below.drew ?_) | (refine below_drewN ?_ _) | (refine Below.alloc ?_ (by first | omega | (simp; done) | (simp; omega)) _) | (refine Below.setCell ?_ (by first | omega | (simp; done) | (simp; omega)) _))) hb1
    gi_wp2
    exact ⟨_, results_tmp rfl _ _ _, _, _, _, rfl, by rw [HR.out]; exact OwnM.nil _ _, HT⟩
  · by_cases h2 : r.size ≤ 200
    · obtain ⟨hs0, hs1, hk0, hk1⟩ := (patOk_iff s K).1 hp
      have HR := Lib.hid (show swEndsL s K f r = endF (swD s r f) K (r.size + 1) by unfold swEndsL; rw [hp]; simp [h2])
      have HP := Lib.hid hp; clear hp
      have hd2 : decide (200 < (r.size : Int)) = false := by simp; omega
      cases f
      · have HD : Hid (∀ k, swAt s r 0 k (s).size = swD s r false k) := fun k => by show _ = swAt _ _ 0 k s.size; rfl
        have hSs : (s).size ≤ 200 := by omega
        have hRs : (r).size ≤ 200 := by omega
        have hRz : Hid ((r).size = r.size) := rfl
        gi_wp2
        (first | refine ⟨trivial, fun h => (Bool.false_ne_true h).elim, ?_⟩ | refine ⟨trivial, ?_⟩)
        refine (callsIn_wide.2 (impl_patternOk s K false _ (by omega))).mono ?_
        rintro e w1 ⟨rfl, hb1⟩
        rw [HP.out]
        have p0 : w1.cell? ⟨w.heap.size, 0, none⟩ = some (.string s) := by rw [hb1.cell (p := ⟨w.heap.size, 0, none⟩) (by simp)]; go_simp
        have p1 : w1.cell? ⟨w.heap.size, 1, none⟩ = some (.int .i64 K) := by rw [hb1.cell (p := ⟨w.heap.size, 1, none⟩) (by simp)]; go_simp
        have p2 : w1.cell? ⟨w.heap.size, 2, none⟩ = some (.bool false) := by rw [hb1.cell (p := ⟨w.heap.size, 2, none⟩) (by simp)]; go_simp
        have hB1 : Below w.heap.size w w1 := below_step (by repeat (first | exact Below.refl _ _ | assumption | (refine Below.drew ?_) | (refine below_drewN ?_ _) | (refine Below.alloc ?_ (by first | omega | (simp; done) | (simp; omega)) _) | (refine Below.setCell ?_ (by first | omega | (simp; done) | (simp; omega)) _))) hb1
        have hs1' := hb1.size
        simp only [World.size_alloc] at hs1'
        have hzw : w.heap.size < w1.heap.size := by omega
        clear hb1 hs1'
        gi_wp2
        have hBb := hB1
        have hzw2 := hzw
        clear p0 p2
        have v1 : (w1.alloc (.cells #[.slice none 0 0] 39)).cell? ⟨w1.heap.size, 0, none⟩ = some (.slice none 0 0) := by go_simp
        have vf : (w1.alloc (.cells #[.slice none 0 0] 39)).frozen? ⟨w1.heap.size, 0, none⟩ = false := by go_simp
        have vp : (w1.alloc (.cells #[.slice none 0 0] 39)).cell? ⟨w.heap.size, 1, none⟩ = some (.int .i64 K) := by go_simp
        have hVB : Below w.heap.size w (w1.alloc (.cells #[.slice none 0 0] 39)) := hBb.alloc hBb.size _
        have hV : (w1.alloc (.cells #[.slice none 0 0] 39)).heap.size = w1.heap.size + 1 := by simp
        generalize (w1.alloc (.cells #[.slice none 0 0] 39)) = V at *
        obtain ⟨bE, hbE⟩ : ∃ bE, w1.heap.size = bE := ⟨_, rfl⟩
        have hbw : w.heap.size < bE := by omega
        rw [hbE] at v1 vf hV ⊢
        have hVl : bE < V.heap.size := by omega
        clear hV hbE hBb p1
        (first | refine ⟨trivial, fun h => (Bool.false_ne_true h).elim, ?_⟩ | refine ⟨trivial, ?_⟩)
        refine (callsIn_wide.2 (impl_swapDists s r 0 V)).mono ?_
        rintro e wz ⟨rfl, rfl⟩
        obtain ⟨e1, e2, e3⟩ := heap_alloc3 V (.cells #[.string s] 9) (.cells #[.string r] 9) (.cells #[.int .i64 0] 2)
        have hBV : Below V.heap.size V (((V.alloc (.cells #[.string s] 9)).alloc (.cells #[.string r] 9)).alloc (.cells #[.int .i64 0] 2)) := (((Below.refl _ V).alloc (Nat.le_refl _) _).alloc (by simp) _).alloc (by simp; omega) _
        have hsz : (((V.alloc (.cells #[.string s] 9)).alloc (.cells #[.string r] 9)).alloc (.cells #[.int .i64 0] 2)).heap.size = V.heap.size + 3 := by simp
        have k2 : (((V.alloc (.cells #[.string s] 9)).alloc (.cells #[.string r] 9)).alloc (.cells #[.int .i64 0] 2)).cell? ⟨V.heap.size, 0, none⟩ = some (.string s) := by rw [cell_of_row _ _ 0 _ _ _ e1]; rfl
        have k3 : (((V.alloc (.cells #[.string s] 9)).alloc (.cells #[.string r] 9)).alloc (.cells #[.int .i64 0] 2)).cell? ⟨V.heap.size + 1, 0, none⟩ = some (.string r) := by rw [cell_of_row _ _ 0 _ _ _ e2]; rfl
        have k4 : (((V.alloc (.cells #[.string s] 9)).alloc (.cells #[.string r] 9)).alloc (.cells #[.int .i64 0] 2)).cell? ⟨V.heap.size + 2, 0, none⟩ = some (.int .i64 0) := by rw [cell_of_row _ _ 0 _ _ _ e3]; rfl
        generalize (((V.alloc (.cells #[.string s] 9)).alloc (.cells #[.string r] 9)).alloc (.cells #[.int .i64 0] 2)) = WR at *
        have k1 := (hBV.cell (p := ⟨bE, 0, none⟩) (by show bE < _; omega)).trans v1
        have g1 := (hBV.frozen (p := ⟨bE, 0, none⟩) (by show bE < _; omega)).trans vf
        have kp := (hBV.cell (p := ⟨w.heap.size, 1, none⟩) (by show w.heap.size < _; omega)).trans vp
        have hBW := hVB.trans (hBV.mono hVB.size)
        have HSZ := Lib.hid hsz
        have hlV : V.heap.size < WR.heap.size := by omega
        clear hsz e1 e2 e3 v1 vf vp
        gi_wp2
        refine range_law rfl (by omega) (gf := 52) (lb := #[boxV V.heap.size, boxV (V.heap.size + 1), boxV (V.heap.size + 2)]) rfl trivial (enters_of Try.func52 (by kernel_rfl) rfl)
          (swaps_iter s r 0 V.heap.size (V.heap.size + 1) (V.heap.size + 2) _ (fun b => b < V.heap.size) WR hSs hRs (by decide) (by decide) k2 k3 k4 (by omega) (by omega) (by omega)) (fun x => rfl) (fun k x W l o o' h hl ho => h)
          (fun k T W => ∃ (a : Option Addr) (n cap : Nat), (∀ b, T b ↔ b < V.heap.size ∨ (Value.slice a n cap).ownBlock = some b) ∧ W.cell? ⟨bE, 0, none⟩ = some (.slice a n cap) ∧ W.frozen? ⟨bE, 0, none⟩ = false ∧ OwnM 44 2 W V.heap.size a n cap (endF (swD s r false) K k) ∧ W.cell? ⟨w.heap.size, 1, none⟩ = some (.int .i64 K) ∧ Below w.heap.size w W ∧ V.heap.size ≤ W.heap.size)
          ?hJ (fun b h => by omega) ⟨none, 0, 0, fun b => ⟨.inl, fun h => h.elim id (fun h => by cases h)⟩, k1, g1, OwnM.nil _ _, kp, hBW, by omega⟩ ?a1 ?assign ?body ?done
        case hJ =>
          rintro k T A B ⟨a, n, cap, hT, c1, f1, hO, cp, hb, hl⟩ hAB
          refine ⟨a, n, cap, hT, (hAB.cell (p := ⟨bE, 0, none⟩) ((hT _).2 (.inl (by show bE < _; omega))) (by show bE < _; omega)).trans c1, (hAB.frozen (p := ⟨bE, 0, none⟩) ((hT _).2 (.inl (by show bE < _; omega))) (by show bE < _; omega)).trans f1, hO.on fun g hg => hAB.block g ((hT g).2 (.inr hg)) (hO.turn_lt g hg), (hAB.cell (p := ⟨w.heap.size, 1, none⟩) ((hT _).2 (.inl (by show w.heap.size < _; omega))) (by show w.heap.size < _; omega)).trans cp, hb.trans (hAB.below hb.size fun b h => (hT b).2 (.inl (by omega))), Nat.le_trans hl hAB.size⟩
        case assign =>
          intro l x W K hK
          unfold encD
          gi_wp2
          exact hK
        case body =>
          rintro l k T ⟨x1, d⟩ W hk ⟨a, n, cap, hT, c1, f1, hO, cp, hb, hl⟩ hx
          obtain ⟨rfl, hde⟩ : x1 = k ∧ d = swAt s r 0 k (s).size := by simpa [HandD] using hx
          rw [HD.out] at hde
          have hnl : n = endN (swD s r false) K x1 := by have := hO.len; rw [endF_length] at this; omega
          have hne := endN_le (swD s r false) K x1
          have HNL := Lib.hid hnl
          have hx2 : x1 ≤ 200 := by omega
          clear hnl hx
          by_cases hle : d ≤ K
          · have HF := Lib.hid (show endF (swD s r false) K (x1 + 1) = endF (swD s r false) K x1 ++ [(x1 : Int), d] by rw [hde] at hle ⊢; simp [endF, hle])
            have hn3 : n ≤ 200 := by have := HNL.out; omega
            have HO := Lib.hid hO
            have HTT := Lib.hid hT
            have hEb : ∀ q, (Value.slice a n cap).ownBlock = some q → V.heap.size ≤ q ∧ q < W.heap.size := fun q hq => hO.2.lt q hq
            clear hO hT hde
            have HLEN := Lib.hid (show (endF (swD s r false) K (x1 + 1)).length = (n + 1) * 2 by rw [HF.out, List.length_append, endF_length, ← HNL.out]; simp; omega)
            have hVE : ∀ q, (Value.slice a n cap).ownBlock = some q → q ≠ bE := fun q hq => by have := (hEb q hq).1; omega
            gi_wp2_with (gi_at_builtin; refine wpListIn_append_own_at _ rfl _ _ 39 rfl V.heap.size 44 i0 (.agg #[.int .i64 0, .int .i64 0]) 2 16 Try.underlying39 hi hz0 hz1 hz2 rfl (by decide) _ _ _ rfl (HO.out.kept ((Below.refl W.heap.size W).alloc (Nat.le_refl _) (.cells #[.int .i64 x1, .int .i64 d] 44))).2 ⟨W.heap.size, 0, none⟩ 1 1 [.int .i64 x1, .int .i64 d] rfl rfl (fun j u h => cells_new W _ _ j u h) (by simp [Value.oneCell']) (by unfold maxLen; omega) (by omega) (by simp; omega) ?_; intro v' w1' hown' hg _ hat; obtain ⟨a', cap', rfl, hO'⟩ := OwnM.shape HLEN.out (by rw [HF.out, List.map_append]; exact hown'); have hgs := hg.size; have hk2 : ∀ c, c < W.heap.size → some c ≠ (Value.slice a n cap).ownBlock → w1'.heap[c]? = W.heap[c]? := (fun c h1 h2 => (hg.block c (by simp; omega) h2).trans (Below.heap_alloc W (.cells #[.int .i64 x1, .int .i64 d] 44) c h1)); have hcE := (World.cell?_of_block (w := W) (hk2 bE (by omega) (fun e => hVE bE e.symm rfl))).trans c1; have hfE := (World.frozen?_of_block (w := W) (hk2 bE (by omega) (fun e => hVE bE e.symm rfl))).trans f1)
            have hk3 : ∀ c, c < W.heap.size → some c ≠ (Value.slice a n cap).ownBlock → c ≠ bE → (w1'.setCell ⟨bE, 0, none⟩ (.slice a' (n + 1) cap')).heap[c]? = W.heap[c]? := fun c h1 h2 h3 => (Below.heap_setCell w1' ⟨bE, 0, none⟩ _ c h3).trans (hk2 c h1 h2)
            have hVo : ∀ c, c < V.heap.size → some c ≠ (Value.slice a n cap).ownBlock := fun c h1 h2 => by have := (hEb c h2.symm).1; omega
            simp only [World.size_alloc] at hgs
            have hs3 : (w1'.setCell ⟨bE, 0, none⟩ (.slice a' (n + 1) cap')).heap.size = w1'.heap.size := by simp [World.setCell]
            refine ⟨fun c => c < V.heap.size ∨ (Value.slice a' (n + 1) cap').ownBlock = some c, ⟨a', n + 1, cap', fun c => Iff.rfl, World.cell?_setCell_same' _ _ _ (by rw [hcE]; rfl), by rw [World.frozen?_setCell]; exact hfE, hO'.on fun g hg' => Below.heap_setCell w1' ⟨bE, 0, none⟩ _ g (by have := (hO'.2.lt g hg').1; show g ≠ bE; omega), ?_, ?_, by omega⟩, ?_, ?_⟩
            · exact (World.cell?_of_block (w := W) (hk3 w.heap.size (by omega) (hVo _ (by omega)) (by omega))).trans cp
            · exact hb.trans ⟨hg.os, hg.tape, hg.output, by omega, fun c h => hk3 c (by omega) (hVo c (by omega)) (by omega)⟩
            · exact ⟨hg.os, hg.tape, hg.output, by omega, fun c h1 h2 => hk3 c h2 (fun e => h1 ((HTT.out c).2 (.inr e.symm))) (fun e => h1 ((HTT.out c).2 (.inl (by omega))))⟩
            · rintro c (h | h)
              · exact ⟨.inl ((HTT.out c).2 (.inl h)), by omega⟩
              · refine ⟨?_, by have := hO'.turn_lt c h; omega⟩
                rcases hat with e | e
                · exact .inl ((HTT.out c).2 (.inr (e.symm.trans h)))
                · rw [h] at e
                  simp only [Option.some.injEq] at e
                  exact .inr (by rw [e]; simp)
          · have HF := Lib.hid (show endF (swD s r false) K (x1 + 1) = endF (swD s r false) K x1 by rw [hde] at hle; simp [endF, hle])
            have HO := Lib.hid hO
            clear hO hde
            gi_wp2
            exact ⟨T, ⟨a, n, cap, hT, c1, f1, by rw [HF.out]; exact HO.out, cp, hb, hl⟩, On.refl _ _, fun b hb2 => ⟨.inl hb2, ((hT b).1 hb2).elim (fun h => by omega) (fun h => HO.out.turn_lt b h)⟩⟩
        case done =>
          rintro D T W hD hTD ⟨a, n, cap, hT, c1, f1, hO, cp, hb, hl⟩ hK
          gi_wp2
          refine ⟨by simp, .inl ⟨_, _, rfl, run_takeDeferred hK, ?_⟩⟩
          refine ⟨_, results_tmp rfl _ _ _, _, _, _, rfl, ?_, hb.trans (belowK_b (w := w) (Nat.le_refl _) W D _ _ (by omega) hK rfl rfl)⟩
          rw [HR.out]
          refine (hO.mono (C := w.heap.size) (by omega)).on fun q hq => World.putObj_heap_other ?_
          rintro rfl
          exact hTD ((hT q).2 (.inr hq))
      · have HD : Hid (∀ k, swAt (foldS s) (foldS r) 0 k ((foldS s)).size = swD s r true k) := fun k => by show _ = swAt _ _ 0 k s.size; rw [foldS_size]; rfl
        have hSs : (foldS s).size ≤ 200 := by rw [foldS_size]; omega
        have hRs : (foldS r).size ≤ 200 := by rw [foldS_size]; omega
        have hRz : Hid ((foldS r).size = r.size) := foldS_size r
        gi_wp2
        (first | refine ⟨trivial, fun h => (Bool.false_ne_true h).elim, ?_⟩ | refine ⟨trivial, ?_⟩)
        refine (callsIn_wide.2 (impl_patternOk s K true _ (by omega))).mono ?_
        rintro e w1 ⟨rfl, hb1⟩
        rw [HP.out]
        have p0 : w1.cell? ⟨w.heap.size, 0, none⟩ = some (.string s) := by rw [hb1.cell (p := ⟨w.heap.size, 0, none⟩) (by simp)]; go_simp
        have p1 : w1.cell? ⟨w.heap.size, 1, none⟩ = some (.int .i64 K) := by rw [hb1.cell (p := ⟨w.heap.size, 1, none⟩) (by simp)]; go_simp
        have p2 : w1.cell? ⟨w.heap.size, 2, none⟩ = some (.bool true) := by rw [hb1.cell (p := ⟨w.heap.size, 2, none⟩) (by simp)]; go_simp
        have hB1 : Below w.heap.size w w1 := below_step (by repeat (first | exact Below.refl _ _ | assumption | (refine Below.drew ?_) | (refine below_drewN ?_ _) | (refine Below.alloc ?_ (by first | omega | (simp; done) | (simp; omega)) _) | (refine Below.setCell ?_ (by first | omega | (simp; done) | (simp; omega)) _))) hb1
        have hs1' := hb1.size
        simp only [World.size_alloc] at hs1'
        have hzw : w.heap.size < w1.heap.size := by omega
        clear hb1 hs1'
        gi_wp2
        (first | refine ⟨trivial, fun h => (Bool.false_ne_true h).elim, ?_⟩ | refine ⟨trivial, ?_⟩)
        refine (callsIn_wide.2 (impl_folded s _ (by omega))).mono ?_
        rintro e wa ⟨rfl, hba⟩
        have p1a := (hba.cell (p := ⟨w.heap.size, 1, none⟩) (by show w.heap.size < _; omega)).trans p1
        have hBa := hB1.trans (hba.mono (Nat.le_of_lt hzw))
        have hza := hba.size
        clear hba p0 p1 p2
        gi_wp2
        (first | refine ⟨trivial, fun h => (Bool.false_ne_true h).elim, ?_⟩ | refine ⟨trivial, ?_⟩)
        refine (callsIn_wide.2 (impl_folded r _ (by omega))).mono ?_
        rintro e wb ⟨rfl, hbb⟩
        have p1 := (hbb.cell (p := ⟨w.heap.size, 1, none⟩) (by show w.heap.size < _; omega)).trans p1a
        have hBb := hBa.trans (hbb.mono (by omega))
        have hzb := hbb.size
        have hzw2 : w.heap.size < wb.heap.size := by omega
        clear hbb p1a hBa
        generalize foldS s = SS at *
        generalize foldS r = RR at *
        gi_wp2
        have v1 : (wb.alloc (.cells #[.slice none 0 0] 39)).cell? ⟨wb.heap.size, 0, none⟩ = some (.slice none 0 0) := by go_simp
        have vf : (wb.alloc (.cells #[.slice none 0 0] 39)).frozen? ⟨wb.heap.size, 0, none⟩ = false := by go_simp
        have vp : (wb.alloc (.cells #[.slice none 0 0] 39)).cell? ⟨w.heap.size, 1, none⟩ = some (.int .i64 K) := by go_simp
        have hVB : Below w.heap.size w (wb.alloc (.cells #[.slice none 0 0] 39)) := hBb.alloc hBb.size _
        have hV : (wb.alloc (.cells #[.slice none 0 0] 39)).heap.size = wb.heap.size + 1 := by simp
        generalize (wb.alloc (.cells #[.slice none 0 0] 39)) = V at *
        obtain ⟨bE, hbE⟩ : ∃ bE, wb.heap.size = bE := ⟨_, rfl⟩
        have hbw : w.heap.size < bE := by omega
        rw [hbE] at v1 vf hV ⊢
        have hVl : bE < V.heap.size := by omega
        clear hV hbE hBb p1
        (first | refine ⟨trivial, fun h => (Bool.false_ne_true h).elim, ?_⟩ | refine ⟨trivial, ?_⟩)
        refine (callsIn_wide.2 (impl_swapDists SS RR 0 V)).mono ?_
        rintro e wz ⟨rfl, rfl⟩
        obtain ⟨e1, e2, e3⟩ := heap_alloc3 V (.cells #[.string SS] 9) (.cells #[.string RR] 9) (.cells #[.int .i64 0] 2)
        have hBV : Below V.heap.size V (((V.alloc (.cells #[.string SS] 9)).alloc (.cells #[.string RR] 9)).alloc (.cells #[.int .i64 0] 2)) := (((Below.refl _ V).alloc (Nat.le_refl _) _).alloc (by simp) _).alloc (by simp; omega) _
        have hsz : (((V.alloc (.cells #[.string SS] 9)).alloc (.cells #[.string RR] 9)).alloc (.cells #[.int .i64 0] 2)).heap.size = V.heap.size + 3 := by simp
        have k2 : (((V.alloc (.cells #[.string SS] 9)).alloc (.cells #[.string RR] 9)).alloc (.cells #[.int .i64 0] 2)).cell? ⟨V.heap.size, 0, none⟩ = some (.string SS) := by rw [cell_of_row _ _ 0 _ _ _ e1]; rfl
        have k3 : (((V.alloc (.cells #[.string SS] 9)).alloc (.cells #[.string RR] 9)).alloc (.cells #[.int .i64 0] 2)).cell? ⟨V.heap.size + 1, 0, none⟩ = some (.string RR) := by rw [cell_of_row _ _ 0 _ _ _ e2]; rfl
        have k4 : (((V.alloc (.cells #[.string SS] 9)).alloc (.cells #[.string RR] 9)).alloc (.cells #[.int .i64 0] 2)).cell? ⟨V.heap.size + 2, 0, none⟩ = some (.int .i64 0) := by rw [cell_of_row _ _ 0 _ _ _ e3]; rfl
        generalize (((V.alloc (.cells #[.string SS] 9)).alloc (.cells #[.string RR] 9)).alloc (.cells #[.int .i64 0] 2)) = WR at *
        have k1 := (hBV.cell (p := ⟨bE, 0, none⟩) (by show bE < _; omega)).trans v1
        have g1 := (hBV.frozen (p := ⟨bE, 0, none⟩) (by show bE < _; omega)).trans vf
        have kp := (hBV.cell (p := ⟨w.heap.size, 1, none⟩) (by show w.heap.size < _; omega)).trans vp
        have hBW := hVB.trans (hBV.mono hVB.size)
        have HSZ := Lib.hid hsz
        have hlV : V.heap.size < WR.heap.size := by omega
        clear hsz e1 e2 e3 v1 vf vp
        gi_wp2
        refine range_law rfl (by omega) (gf := 52) (lb := #[boxV V.heap.size, boxV (V.heap.size + 1), boxV (V.heap.size + 2)]) rfl trivial (enters_of Try.func52 (by kernel_rfl) rfl)
          (swaps_iter SS RR 0 V.heap.size (V.heap.size + 1) (V.heap.size + 2) _ (fun b => b < V.heap.size) WR hSs hRs (by decide) (by decide) k2 k3 k4 (by omega) (by omega) (by omega)) (fun x => rfl) (fun k x W l o o' h hl ho => h)
          (fun k T W => ∃ (a : Option Addr) (n cap : Nat), (∀ b, T b ↔ b < V.heap.size ∨ (Value.slice a n cap).ownBlock = some b) ∧ W.cell? ⟨bE, 0, none⟩ = some (.slice a n cap) ∧ W.frozen? ⟨bE, 0, none⟩ = false ∧ OwnM 44 2 W V.heap.size a n cap (endF (swD s r true) K k) ∧ W.cell? ⟨w.heap.size, 1, none⟩ = some (.int .i64 K) ∧ Below w.heap.size w W ∧ V.heap.size ≤ W.heap.size)
          ?hJ (fun b h => by omega) ⟨none, 0, 0, fun b => ⟨.inl, fun h => h.elim id (fun h => by cases h)⟩, k1, g1, OwnM.nil _ _, kp, hBW, by omega⟩ ?a2 ?assign ?body ?done
        case hJ =>
          rintro k T A B ⟨a, n, cap, hT, c1, f1, hO, cp, hb, hl⟩ hAB
          refine ⟨a, n, cap, hT, (hAB.cell (p := ⟨bE, 0, none⟩) ((hT _).2 (.inl (by show bE < _; omega))) (by show bE < _; omega)).trans c1, (hAB.frozen (p := ⟨bE, 0, none⟩) ((hT _).2 (.inl (by show bE < _; omega))) (by show bE < _; omega)).trans f1, hO.on fun g hg => hAB.block g ((hT g).2 (.inr hg)) (hO.turn_lt g hg), (hAB.cell (p := ⟨w.heap.size, 1, none⟩) ((hT _).2 (.inl (by show w.heap.size < _; omega))) (by show w.heap.size < _; omega)).trans cp, hb.trans (hAB.below hb.size fun b h => (hT b).2 (.inl (by omega))), Nat.le_trans hl hAB.size⟩
        case assign =>
          intro l x W K hK
          unfold encD
          gi_wp2
          exact hK
        case body =>
          rintro l k T ⟨x1, d⟩ W hk ⟨a, n, cap, hT, c1, f1, hO, cp, hb, hl⟩ hx
          obtain ⟨rfl, hde⟩ : x1 = k ∧ d = swAt SS RR 0 k (SS).size := by simpa [HandD] using hx
          rw [HD.out] at hde
          have hnl : n = endN (swD s r true) K x1 := by have := hO.len; rw [endF_length] at this; omega
          have hne := endN_le (swD s r true) K x1
          have HNL := Lib.hid hnl
          have hx2 : x1 ≤ 200 := by omega
          clear hnl hx
          by_cases hle : d ≤ K
          · have HF := Lib.hid (show endF (swD s r true) K (x1 + 1) = endF (swD s r true) K x1 ++ [(x1 : Int), d] by rw [hde] at hle ⊢; simp [endF, hle])
            have hn3 : n ≤ 200 := by have := HNL.out; omega
            have HO := Lib.hid hO
            have HTT := Lib.hid hT
            have hEb : ∀ q, (Value.slice a n cap).ownBlock = some q → V.heap.size ≤ q ∧ q < W.heap.size := fun q hq => hO.2.lt q hq
            clear hO hT hde
            have HLEN := Lib.hid (show (endF (swD s r true) K (x1 + 1)).length = (n + 1) * 2 by rw [HF.out, List.length_append, endF_length, ← HNL.out]; simp; omega)
            have hVE : ∀ q, (Value.slice a n cap).ownBlock = some q → q ≠ bE := fun q hq => by have := (hEb q hq).1; omega
            gi_wp2_with (gi_at_builtin; refine wpListIn_append_own_at _ rfl _ _ 39 rfl V.heap.size 44 i0 (.agg #[.int .i64 0, .int .i64 0]) 2 16 Try.underlying39 hi hz0 hz1 hz2 rfl (by decide) _ _ _ rfl (HO.out.kept ((Below.refl W.heap.size W).alloc (Nat.le_refl _) (.cells #[.int .i64 x1, .int .i64 d] 44))).2 ⟨W.heap.size, 0, none⟩ 1 1 [.int .i64 x1, .int .i64 d] rfl rfl (fun j u h => cells_new W _ _ j u h) (by simp [Value.oneCell']) (by unfold maxLen; omega) (by omega) (by simp; omega) ?_; intro v' w1' hown' hg _ hat; obtain ⟨a', cap', rfl, hO'⟩ := OwnM.shape HLEN.out (by rw [HF.out, List.map_append]; exact hown'); have hgs := hg.size; have hk2 : ∀ c, c < W.heap.size → some c ≠ (Value.slice a n cap).ownBlock → w1'.heap[c]? = W.heap[c]? := (fun c h1 h2 => (hg.block c (by simp; omega) h2).trans (Below.heap_alloc W (.cells #[.int .i64 x1, .int .i64 d] 44) c h1)); have hcE := (World.cell?_of_block (w := W) (hk2 bE (by omega) (fun e => hVE bE e.symm rfl))).trans c1; have hfE := (World.frozen?_of_block (w := W) (hk2 bE (by omega) (fun e => hVE bE e.symm rfl))).trans f1)
            have hk3 : ∀ c, c < W.heap.size → some c ≠ (Value.slice a n cap).ownBlock → c ≠ bE → (w1'.setCell ⟨bE, 0, none⟩ (.slice a' (n + 1) cap')).heap[c]? = W.heap[c]? := fun c h1 h2 h3 => (Below.heap_setCell w1' ⟨bE, 0, none⟩ _ c h3).trans (hk2 c h1 h2)
            have hVo : ∀ c, c < V.heap.size → some c ≠ (Value.slice a n cap).ownBlock := fun c h1 h2 => by have := (hEb c h2.symm).1; omega
            simp only [World.size_alloc] at hgs
            have hs3 : (w1'.setCell ⟨bE, 0, none⟩ (.slice a' (n + 1) cap')).heap.size = w1'.heap.size := by simp [World.setCell]
            refine ⟨fun c => c < V.heap.size ∨ (Value.slice a' (n + 1) cap').ownBlock = some c, ⟨a', n + 1, cap', fun c => Iff.rfl, World.cell?_setCell_same' _ _ _ (by rw [hcE]; rfl), by rw [World.frozen?_setCell]; exact hfE, hO'.on fun g hg' => Below.heap_setCell w1' ⟨bE, 0, none⟩ _ g (by have := (hO'.2.lt g hg').1; show g ≠ bE; omega), ?_, ?_, by omega⟩, ?_, ?_⟩
            · exact (World.cell?_of_block (w := W) (hk3 w.heap.size (by omega) (hVo _ (by omega)) (by omega))).trans cp
            · exact hb.trans ⟨hg.os, hg.tape, hg.output, by omega, fun c h => hk3 c (by omega) (hVo c (by omega)) (by omega)⟩
            · exact ⟨hg.os, hg.tape, hg.output, by omega, fun c h1 h2 => hk3 c h2 (fun e => h1 ((HTT.out c).2 (.inr e.symm))) (fun e => h1 ((HTT.out c).2 (.inl (by omega))))⟩
            · rintro c (h | h)
              · exact ⟨.inl ((HTT.out c).2 (.inl h)), by omega⟩
              · refine ⟨?_, by have := hO'.turn_lt c h; omega⟩
                rcases hat with e | e
                · exact .inl ((HTT.out c).2 (.inr (e.symm.trans h)))
                · rw [h] at e
                  simp only [Option.some.injEq] at e
                  exact .inr (by rw [e]; simp)
          · have HF := Lib.hid (show endF (swD s r true) K (x1 + 1) = endF (swD s r true) K x1 by rw [hde] at hle; simp [endF, hle])
            have HO := Lib.hid hO
            clear hO hde
            gi_wp2
            exact ⟨T, ⟨a, n, cap, hT, c1, f1, by rw [HF.out]; exact HO.out, cp, hb, hl⟩, On.refl _ _, fun b hb2 => ⟨.inl hb2, ((hT b).1 hb2).elim (fun h => by omega) (fun h => HO.out.turn_lt b h)⟩⟩
        case done =>
          rintro D T W hD hTD ⟨a, n, cap, hT, c1, f1, hO, cp, hb, hl⟩ hK
          gi_wp2
          refine ⟨by simp, .inl ⟨_, _, rfl, run_takeDeferred hK, ?_⟩⟩
          refine ⟨_, results_tmp rfl _ _ _, _, _, _, rfl, ?_, hb.trans (belowK_b (w := w) (Nat.le_refl _) W D _ _ (by omega) hK rfl rfl)⟩
          rw [HR.out, ← hRz.out]
          refine (hO.mono (C := w.heap.size) (by omega)).on fun q hq => World.putObj_heap_other ?_
          rintro rfl
          exact hTD ((hT q).2 (.inr hq))
    · have HR := Lib.hid (show swEndsL s K f r = [] by unfold swEndsL; simp [h2])
      have HP := Lib.hid hp; clear hp
      have hd2 : decide (200 < (r.size : Int)) = true := by simp; omega
      gi_wp2
      (first | refine ⟨trivial, fun h => (Bool.false_ne_true h).elim, ?_⟩ | refine ⟨trivial, ?_⟩)
      refine (callsIn_wide.2 (impl_patternOk s K f _ (by omega))).mono ?_
      rintro e w1 ⟨rfl, hb1⟩
      rw [HP.out]
      have HT : Below w.heap.size w w1 := below_step (by repeat (first | exact Below.refl _ _ | assumption | (refine Below.drew ?_) | (refine below_drewN ?_ _) | (refine Below.alloc ?_ (by first | omega | (simp; done) | (simp; omega)) _) | (refine Below.setCell ?_ (by first | omega | (simp; done) | (simp; omega)) _))) hb1
      gi_wp2
      exact ⟨_, results_tmp rfl _ _ _, _, _, _, rfl, by rw [HR.out]; exact OwnM.nil _ _, HT⟩
end Go.Proofs.Ytgikjopmijomgab

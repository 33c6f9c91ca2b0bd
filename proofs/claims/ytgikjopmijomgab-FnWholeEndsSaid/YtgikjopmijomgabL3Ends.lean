/-
  Chapter 3: EndsOf, in the program: a range over the columns that appends.
-/
import Derived.Test.YtgikjopmijomgabL3Dist
import Derived.Test.YtgikjopmijomgabStructs
import Derived.Test.YtgikjopmijomgabL2Pat
import Derived.Maps.OwnIn
namespace Go.Proofs.Ytgikjopmijomgab
open Go Go.RowKit Go.Shelf
set_option linter.unusedVariables false
set_option maxRecDepth 100000
attribute [local go_sem] Oper.semAt_some
/-- the ends among the first k columns, whose last numbers are d: place and number in turn -/
def endF (d : Nat → Int) (K : Int) : Nat → List Int
  | 0 => []
  | k + 1 => if d k ≤ K then endF d K k ++ [(k : Int), d k] else endF d K k
def endN (d : Nat → Int) (K : Int) : Nat → Nat
  | 0 => 0
  | k + 1 => if d k ≤ K then endN d K k + 1 else endN d K k
theorem endF_length (d : Nat → Int) (K : Int) (k : Nat) : (endF d K k).length = endN d K k * 2 := by
  induction k with
  | zero => rfl
  | succ k ih =>
    simp only [endF, endN]
    split
    · rw [List.length_append, ih]; simp; omega
    · exact ih
theorem endN_le (d : Nat → Int) (K : Int) (k : Nat) : endN d K k ≤ k := by
  induction k with
  | zero => exact Nat.le_refl _
  | succ k ih => simp only [endN]; split <;> omega
def lastD (s r : ByteArray) (f : Bool) (k : Nat) : Int := colAt (foldIf f s) (foldIf f r) 0 k s.size
def endsL (s : ByteArray) (K : Int) (f : Bool) (r : ByteArray) : List Int := if patOk s K && decide (r.size ≤ 200) then endF (lastD s r f) K (r.size + 1) else []
theorem end_info : (Try.prog.info? 44).map (fun i => (i.zero, i.size, i.bytes)) = some (some (.agg #[.int .i64 0, .int .i64 0]), 2, 16) := by kernel_rfl
set_option maxHeartbeats 4000000 in
theorem impl_endsOf (s : ByteArray) (K : Int) (f : Bool) (r : ByteArray) (w : World) (hs : s.size ≤ 1048576) (hr : r.size ≤ 1048576) :
    Calls Try.prog 25 #[.agg #[.string s, .int .i64 K, .bool f], .string r] w fun e w' => ∃ a n cap, e = .returned (.slice a n cap) ∧ OwnM 44 2 w' w.heap.size a n cap (endsL s K f r) ∧ Below w.heap.size w w' := by
  obtain ⟨i0, hi, hz0, hz1, hz2⟩ := info_parts end_info
  refine (callsIn_wide (n := 6)).1 ?_
  refine callsIn_of_wp_marks Try.func25 rfl trivial ?_ rfl
  simp only [Try.ntmps25, List.size_toArray, List.length_cons, List.length_nil, Nat.reduceAdd, Nat.reduceSub, Array.replicate_succ, Array.replicate_zero, List.push_toArray, List.append_toArray, List.nil_append, List.cons_append]
  cases hp : patOk s K
  · have HR := Lib.hid (show endsL s K f r = [] by unfold endsL; rw [hp]; rfl)
    have HP := Lib.hid hp; clear hp
    gi_wp2
    (first | refine ⟨trivial, fun h => (Bool.false_ne_true h).elim, ?_⟩ | refine ⟨trivial, ?_⟩)
    refine (callsIn_wide.2 (impl_patternOk s K f _ (by omega))).mono ?_
    rintro e w1 ⟨rfl, hb1⟩
    rw [HP.out]
    have HT : Below w.heap.size w w1 := below_step (by repeat (first | exact Below.refl _ _ | assumption | (refine Below.drew ?_) | (refine below_drewN ?_ _) | (refine Below.alloc ?_ (by first | omega | (simp; done) | (simp; omega)) _) | (refine Below.setCell ?_ (by first | omega | (simp; done) | (simp; omega)) _))) hb1
    gi_wp2
    exact ⟨_, results_tmp rfl _ _ _, _, _, _, rfl, by rw [HR.out]; exact OwnM.nil _ _, HT⟩
  · by_cases h2 : r.size ≤ 200
    · obtain ⟨hs0, hs1, hk0, hk1⟩ := (patOk_iff s K).1 hp
      have HR := Lib.hid (show endsL s K f r = endF (lastD s r f) K (r.size + 1) by unfold endsL; rw [hp]; simp [h2])
      have HP := Lib.hid hp; clear hp
      have hd2 : decide (200 < (r.size : Int)) = false := by simp; omega
      cases f
      · gi_wp2
        (first | refine ⟨trivial, fun h => (Bool.false_ne_true h).elim, ?_⟩ | refine ⟨trivial, ?_⟩)
        refine (callsIn_wide.2 (impl_patternOk s K false _ (by omega))).mono ?_
        rintro e w1 ⟨rfl, hb1⟩
        rw [HP.out]
        have p0 : w1.cell? ⟨w.heap.size, 0, none⟩ = some (.string s) := by rw [hb1.cell (p := ⟨w.heap.size, 0, none⟩) (by simp)]; go_simp
        have p1 : w1.cell? ⟨w.heap.size, 1, none⟩ = some (.int .i64 K) := by rw [hb1.cell (p := ⟨w.heap.size, 1, none⟩) (by simp)]; go_simp
        have p2 : w1.cell? ⟨w.heap.size, 2, none⟩ = some (.bool false) := by rw [hb1.cell (p := ⟨w.heap.size, 2, none⟩) (by simp)]; go_simp
        have hB1 : Below w.heap.size w w1 := below_step (by repeat (first | exact Below.refl _ _ | assumption | (refine Below.drew ?_) | (refine below_drewN ?_ _) | (refine Below.alloc ?_ (by first | omega | (simp; done) | (simp; omega)) _) | (refine Below.setCell ?_ (by first | omega | (simp; done) | (simp; omega)) _))) hb1
        have hs1' := hb1.size
        simp only [World.size_alloc] at hs1'
        have hzw : w.heap.size < w1.heap.size := by omega
        clear hb1
        gi_wp2
        have hSs : s.size ≤ 200 := by omega
        have hRs : r.size ≤ 200 := h2
        have v0 : ((w1.alloc (.cells #[.string s] 9)).alloc (.cells #[.slice none 0 0] 39)).cell? ⟨w1.heap.size, 0, none⟩ = some (.string s) := by go_simp
        have v1 : ((w1.alloc (.cells #[.string s] 9)).alloc (.cells #[.slice none 0 0] 39)).cell? ⟨w1.heap.size + 1, 0, none⟩ = some (.slice none 0 0) := by go_simp
        have vf : ((w1.alloc (.cells #[.string s] 9)).alloc (.cells #[.slice none 0 0] 39)).frozen? ⟨w1.heap.size + 1, 0, none⟩ = false := by go_simp
        have vp : ((w1.alloc (.cells #[.string s] 9)).alloc (.cells #[.slice none 0 0] 39)).cell? ⟨w.heap.size, 1, none⟩ = some (.int .i64 K) := by go_simp
        have hVB : Below w.heap.size w ((w1.alloc (.cells #[.string s] 9)).alloc (.cells #[.slice none 0 0] 39)) := (hB1.alloc hB1.size _).alloc (by simp; omega) _
        have hV : ((w1.alloc (.cells #[.string s] 9)).alloc (.cells #[.slice none 0 0] 39)).heap.size = w1.heap.size + 1 + 1 := by simp
        generalize ((w1.alloc (.cells #[.string s] 9)).alloc (.cells #[.slice none 0 0] 39)) = V at *
        have hbE : w1.heap.size < w1.heap.size + 1 := Nat.lt_succ_self _
        generalize w1.heap.size + 1 = bE at *
        generalize w1.heap.size = bW at *
        have hVl : bE < V.heap.size := by omega
        clear hV p0 p1 p2
        (first | refine ⟨trivial, fun h => (Bool.false_ne_true h).elim, ?_⟩ | refine ⟨trivial, ?_⟩)
        refine (callsIn_wide.2 (impl_columns s r 0 V)).mono ?_
        rintro e w1 ⟨rfl, rfl⟩
        obtain ⟨e1, e2, e3⟩ := heap_alloc3 V (.cells #[.string s] 9) (.cells #[.string r] 9) (.cells #[.int .i64 0] 2)
        have hBV : Below V.heap.size V (((V.alloc (.cells #[.string s] 9)).alloc (.cells #[.string r] 9)).alloc (.cells #[.int .i64 0] 2)) := (((Below.refl _ V).alloc (Nat.le_refl _) _).alloc (by simp) _).alloc (by simp; omega) _
        have hsz : (((V.alloc (.cells #[.string s] 9)).alloc (.cells #[.string r] 9)).alloc (.cells #[.int .i64 0] 2)).heap.size = V.heap.size + 3 := by simp
        have k2 : (((V.alloc (.cells #[.string s] 9)).alloc (.cells #[.string r] 9)).alloc (.cells #[.int .i64 0] 2)).cell? ⟨V.heap.size, 0, none⟩ = some (.string s) := by rw [cell_of_row _ _ 0 _ _ _ e1]; rfl
        have k3 : (((V.alloc (.cells #[.string s] 9)).alloc (.cells #[.string r] 9)).alloc (.cells #[.int .i64 0] 2)).cell? ⟨V.heap.size + 1, 0, none⟩ = some (.string r) := by rw [cell_of_row _ _ 0 _ _ _ e2]; rfl
        have k4 : (((V.alloc (.cells #[.string s] 9)).alloc (.cells #[.string r] 9)).alloc (.cells #[.int .i64 0] 2)).cell? ⟨V.heap.size + 2, 0, none⟩ = some (.int .i64 0) := by rw [cell_of_row _ _ 0 _ _ _ e3]; rfl
        generalize (((V.alloc (.cells #[.string s] 9)).alloc (.cells #[.string r] 9)).alloc (.cells #[.int .i64 0] 2)) = WR at *
        have k0 := (hBV.cell (p := ⟨bW, 0, none⟩) (by show bW < _; omega)).trans v0
        have k1 := (hBV.cell (p := ⟨bE, 0, none⟩) (by show bE < _; omega)).trans v1
        have g1 := (hBV.frozen (p := ⟨bE, 0, none⟩) (by show bE < _; omega)).trans vf
        have kp := (hBV.cell (p := ⟨w.heap.size, 1, none⟩) (by show w.heap.size < _; omega)).trans vp
        have hBW := hVB.trans (hBV.mono hVB.size)
        have HSZ := Lib.hid hsz
        have hlV : V.heap.size < WR.heap.size := by omega
        clear hsz e1 e2 e3 v0 v1 vf vp
        gi_wp2
        refine range_law rfl (by omega) (gf := 55) (lb := #[boxV V.heap.size, boxV (V.heap.size + 1), boxV (V.heap.size + 2)]) rfl trivial (enters_of Try.func55 (by kernel_rfl) rfl)
          (columns_iter s r 0 V.heap.size (V.heap.size + 1) (V.heap.size + 2) _ (fun b => b < V.heap.size) WR hSs hRs (by decide) (by decide) k2 k3 k4 (by omega) (by omega) (by omega)) (fun x => rfl) (fun k x W l o o' h hl ho => handC_put _ _ _ k x W l o o' h hl ho)
          (fun k T W => ∃ (a : Option Addr) (n cap : Nat), (∀ b, T b ↔ b < V.heap.size ∨ (Value.slice a n cap).ownBlock = some b) ∧ W.cell? ⟨bE, 0, none⟩ = some (.slice a n cap) ∧ W.frozen? ⟨bE, 0, none⟩ = false ∧ OwnM 44 2 W V.heap.size a n cap (endF (lastD s r false) K k) ∧ W.cell? ⟨bW, 0, none⟩ = some (.string s) ∧ W.cell? ⟨w.heap.size, 1, none⟩ = some (.int .i64 K) ∧ Below w.heap.size w W ∧ V.heap.size ≤ W.heap.size)
          ?hJ (fun b h => by omega) ⟨none, 0, 0, fun b => ⟨.inl, fun h => h.elim id (fun h => by cases h)⟩, k1, g1, OwnM.nil _ _, k0, kp, hBW, by omega⟩
          (fun x => { tmps := #[.agg #[.string s, .int .i64 K, .bool false], .string r, boxV w.heap.size, undef, .slice none 0 0, boxV bW, boxV bE, .int .i64 x.1, .slice (some ⟨x.2.1, 0, none⟩) (s.size + 1) x.2.2, undef, .agg #[.string s, .int .i64 K, .bool false], .bool true, .bool false, .bool false, .string r, .int .i64 r.size, .bool false, .bool false, boxV w.heap.size, .string s, .pointer (some ⟨w.heap.size, 2, none⟩), .bool false, undef, undef, undef, undef, .string s, .string r, .func (.func 55) #[] #[boxV V.heap.size, boxV (V.heap.size + 1), boxV (V.heap.size + 2)], .int .i64 x.1, .slice (some ⟨x.2.1, 0, none⟩) (s.size + 1) x.2.2, undef, undef, undef, undef, undef, undef, undef, undef, undef, undef, undef, undef, undef, undef, undef, undef], defers := [] }) ?assign ?body ?done
        case hJ =>
          rintro k T A B ⟨a, n, cap, hT, c1, f1, hO, c0, cp, hb, hl⟩ hAB
          refine ⟨a, n, cap, hT, (hAB.cell (p := ⟨bE, 0, none⟩) ((hT _).2 (.inl (by show bE < _; omega))) (by show bE < _; omega)).trans c1, (hAB.frozen (p := ⟨bE, 0, none⟩) ((hT _).2 (.inl (by show bE < _; omega))) (by show bE < _; omega)).trans f1, hO.on fun g hg => hAB.block g ((hT g).2 (.inr hg)) (hO.turn_lt g hg), (hAB.cell (p := ⟨bW, 0, none⟩) ((hT _).2 (.inl (by show bW < _; omega))) (by show bW < _; omega)).trans c0, (hAB.cell (p := ⟨w.heap.size, 1, none⟩) ((hT _).2 (.inl (by show w.heap.size < _; omega))) (by show w.heap.size < _; omega)).trans cp, hb.trans (hAB.below hb.size fun b h => (hT b).2 (.inl (by omega))), Nat.le_trans hl hAB.size⟩
        case assign =>
          intro l x W K hK
          unfold encC
          gi_wp2
          exact hK
        case body =>
          rintro l k T ⟨x1, g, cap1⟩ W hk ⟨a, n, cap, hT, c1, f1, hO, c0, cp, hb, hl⟩ ⟨hx1, hcol⟩
          have hc := hcol s.size (by omega)
          have hn1 : ((s.size : Nat) : Int) < ((s.size : Nat) : Int) + 1 := by omega
          simp only at hc hx1
          subst hx1
          have hd : colAt s r 0 x1 s.size = lastD s r false x1 := by unfold lastD; simp [foldIf]
          rw [hd] at hc
          have hnl : n = endN (lastD s r false) K x1 := by have := hO.len; rw [endF_length] at this; omega
          have hne := endN_le (lastD s r false) K x1
          have HNL := Lib.hid hnl
          have hx2 : x1 ≤ 200 := by omega
          clear hcol hd hnl
          by_cases hle : lastD s r false x1 ≤ K
          · have HF := Lib.hid (show endF (lastD s r false) K (x1 + 1) = endF (lastD s r false) K x1 ++ [(x1 : Int), lastD s r false x1] by simp [endF, hle])
            have hn3 : n ≤ 200 := by have := HNL.out; omega
            obtain ⟨y, hy⟩ : ∃ y, lastD s r false x1 = y := ⟨_, rfl⟩
            rw [hy] at hc hle HF
            clear hy
            have HO := Lib.hid hO
            have HTT := Lib.hid hT
            have hEb : ∀ q, (Value.slice a n cap).ownBlock = some q → V.heap.size ≤ q ∧ q < W.heap.size := fun q hq => hO.2.lt q hq
            clear hO hT
            have HLEN := Lib.hid (show (endF (lastD s r false) K (x1 + 1)).length = (n + 1) * 2 by rw [HF.out, List.length_append, endF_length, ← HNL.out]; simp; omega)
            have hVE : ∀ q, (Value.slice a n cap).ownBlock = some q → q ≠ bE := fun q hq => by have := (hEb q hq).1; omega
            gi_wp2_with (gi_at_builtin; refine wpListIn_append_own_at _ rfl _ _ 39 rfl V.heap.size 44 i0 (.agg #[.int .i64 0, .int .i64 0]) 2 16 Try.underlying39 hi hz0 hz1 hz2 rfl (by decide) _ _ _ rfl (HO.out.kept ((Below.refl W.heap.size W).alloc (Nat.le_refl _) (.cells #[.int .i64 x1, .int .i64 y] 44))).2 ⟨W.heap.size, 0, none⟩ 1 1 [.int .i64 x1, .int .i64 y] rfl rfl (fun j u h => cells_new W _ _ j u h) (by simp [Value.oneCell']) (by unfold maxLen; omega) (by omega) (by simp; omega) ?_; intro v' w1 hown' hg _ hat; obtain ⟨a', cap', rfl, hO'⟩ := OwnM.shape HLEN.out (by rw [HF.out, List.map_append]; exact hown'); have hgs := hg.size; have hk2 : ∀ b, b < W.heap.size → some b ≠ (Value.slice a n cap).ownBlock → w1.heap[b]? = W.heap[b]? := (fun b h1 h2 => (hg.block b (by simp; omega) h2).trans (Below.heap_alloc W (.cells #[.int .i64 x1, .int .i64 y] 44) b h1)); have hcE := (World.cell?_of_block (w := W) (hk2 bE (by omega) (fun e => hVE bE e.symm rfl))).trans c1; have hfE := (World.frozen?_of_block (w := W) (hk2 bE (by omega) (fun e => hVE bE e.symm rfl))).trans f1)
            have hk3 : ∀ b, b < W.heap.size → some b ≠ (Value.slice a n cap).ownBlock → b ≠ bE → (w1.setCell ⟨bE, 0, none⟩ (.slice a' (n + 1) cap')).heap[b]? = W.heap[b]? := fun b h1 h2 h3 => (Below.heap_setCell w1 ⟨bE, 0, none⟩ _ b h3).trans (hk2 b h1 h2)
            have hVo : ∀ b, b < V.heap.size → some b ≠ (Value.slice a n cap).ownBlock := fun b h1 h2 => by have := (hEb b h2.symm).1; omega
            simp only [World.size_alloc] at hgs
            have hs3 : (w1.setCell ⟨bE, 0, none⟩ (.slice a' (n + 1) cap')).heap.size = w1.heap.size := by simp [World.setCell]
            refine ⟨fun b => b < V.heap.size ∨ (Value.slice a' (n + 1) cap').ownBlock = some b, ⟨a', n + 1, cap', fun b => Iff.rfl, World.cell?_setCell_same' _ _ _ (by rw [hcE]; rfl), by rw [World.frozen?_setCell]; exact hfE, hO'.on fun g hg' => Below.heap_setCell w1 ⟨bE, 0, none⟩ _ g (by have := (hO'.2.lt g hg').1; show g ≠ bE; omega), ?_, ?_, ?_, by omega⟩, ?_, ?_⟩
            · exact (World.cell?_of_block (w := W) (hk3 bW (by omega) (hVo bW (by omega)) (by omega))).trans c0
            · exact (World.cell?_of_block (w := W) (hk3 w.heap.size (by omega) (hVo _ (by omega)) (by omega))).trans cp
            · exact hb.trans ⟨hg.os, hg.tape, hg.output, by omega, fun b h => hk3 b (by omega) (hVo b (by omega)) (by omega)⟩
            · exact ⟨hg.os, hg.tape, hg.output, by omega, fun b h1 h2 => hk3 b h2 (fun e => h1 ((HTT.out b).2 (.inr e.symm))) (fun e => h1 ((HTT.out b).2 (.inl (by omega))))⟩
            · rintro b (h | h)
              · exact ⟨.inl ((HTT.out b).2 (.inl h)), by omega⟩
              · refine ⟨?_, by have := hO'.turn_lt b h; omega⟩
                rcases hat with e | e
                · exact .inl ((HTT.out b).2 (.inr (e.symm.trans h)))
                · rw [h] at e
                  simp only [Option.some.injEq] at e
                  exact .inr (by rw [e]; simp)
          · have HF := Lib.hid (show endF (lastD s r false) K (x1 + 1) = endF (lastD s r false) K x1 by simp [endF, hle])
            gi_wp2
            exact ⟨T, ⟨a, n, cap, hT, c1, f1, by rw [HF.out]; exact hO, c0, cp, hb, hl⟩, On.refl _ _, fun b hb2 => ⟨.inl hb2, ((hT b).1 hb2).elim (fun h => by omega) (fun h => hO.turn_lt b h)⟩⟩
        case done =>
          rintro D T W hD hTD ⟨a, n, cap, hT, c1, f1, hO, c0, cp, hb, hl⟩ hK
          gi_wp2
          refine ⟨by simp, .inl ⟨_, _, rfl, run_takeDeferred hK, ?_⟩⟩
          refine ⟨_, results_tmp rfl _ _ _, _, _, _, rfl, ?_, hb.trans (belowK_b (w := w) (Nat.le_refl _) W D _ _ (by omega) hK rfl rfl)⟩
          rw [HR.out]
          refine (hO.mono (C := w.heap.size) (by omega)).on fun q hq => World.putObj_heap_other ?_
          rintro rfl
          exact hTD ((hT q).2 (.inr hq))
      · gi_wp2
        (first | refine ⟨trivial, fun h => (Bool.false_ne_true h).elim, ?_⟩ | refine ⟨trivial, ?_⟩)
        refine (callsIn_wide.2 (impl_patternOk s K true _ (by omega))).mono ?_
        rintro e w1 ⟨rfl, hb1⟩
        rw [HP.out]
        have p0 : w1.cell? ⟨w.heap.size, 0, none⟩ = some (.string s) := by rw [hb1.cell (p := ⟨w.heap.size, 0, none⟩) (by simp)]; go_simp
        have p1 : w1.cell? ⟨w.heap.size, 1, none⟩ = some (.int .i64 K) := by rw [hb1.cell (p := ⟨w.heap.size, 1, none⟩) (by simp)]; go_simp
        have p2 : w1.cell? ⟨w.heap.size, 2, none⟩ = some (.bool true) := by rw [hb1.cell (p := ⟨w.heap.size, 2, none⟩) (by simp)]; go_simp
        have hB1 : Below w.heap.size w w1 := below_step (by repeat (first | exact Below.refl _ _ | assumption | (refine Below.drew ?_) | (refine below_drewN ?_ _) | (refine Below.alloc ?_ (by first | omega | (simp; done) | (simp; omega)) _) | (refine Below.setCell ?_ (by first | omega | (simp; done) | (simp; omega)) _))) hb1
        have hs1' := hb1.size
        simp only [World.size_alloc] at hs1'
        have hzw : w.heap.size < w1.heap.size := by omega
        clear hb1
        have hSs : (foldS s).size ≤ 200 := by rw [foldS_size]; omega
        have hRs : (foldS r).size ≤ 200 := by rw [foldS_size]; exact h2
        have HFS := Lib.hid (foldS_size s)
        have HFR := Lib.hid (foldS_size r)
        gi_wp2
        (first | refine ⟨trivial, fun h => (Bool.false_ne_true h).elim, ?_⟩ | refine ⟨trivial, ?_⟩)
        refine (callsIn_wide.2 (impl_folded s _ (by omega))).mono ?_
        rintro e w2 ⟨rfl, hb2⟩
        have c2 : w2.cell? ⟨w1.heap.size, 0, none⟩ = some (.string s) := by
          rw [hb2.cell (p := ⟨w1.heap.size, 0, none⟩) (by simp)]; go_simp
        have f2 : w2.frozen? ⟨w1.heap.size, 0, none⟩ = false := by
          rw [hb2.frozen (p := ⟨w1.heap.size, 0, none⟩) (by simp)]; go_simp
        have q2 : w2.cell? ⟨w.heap.size, 1, none⟩ = some (.int .i64 K) := by
          rw [hb2.cell (p := ⟨w.heap.size, 1, none⟩) (by simp; omega)]; go_simp
        have hB2 : Below w.heap.size w w2 := (hB1.alloc hB1.size _).trans (hb2.mono (by simp; omega))
        have hs2 := hb2.size
        simp only [World.size_alloc] at hs2
        generalize w1.heap.size = bW at *
        clear hb2 p0 p1 p2
        gi_wp2
        (first | refine ⟨trivial, fun h => (Bool.false_ne_true h).elim, ?_⟩ | refine ⟨trivial, ?_⟩)
        refine (callsIn_wide.2 (impl_folded r _ (by omega))).mono ?_
        rintro e w3 ⟨rfl, hb3⟩
        have c3 := (hb3.cell (p := ⟨bW, 0, none⟩) (by show bW < _; omega)).trans c2
        have f3 := (hb3.frozen (p := ⟨bW, 0, none⟩) (by show bW < _; omega)).trans f2
        have q3 := (hb3.cell (p := ⟨w.heap.size, 1, none⟩) (by show w.heap.size < _; omega)).trans q2
        have hB3 := below_step hB2 hb3
        have hs3 := hb3.size
        clear c2 f2 q2 hB2 hb3
        have hsz3 : bW < w3.heap.size := by omega
        gi_wp2
        have v0 : ((w3.setCell ⟨bW, 0, none⟩ (.string (foldS s))).alloc (.cells #[.slice none 0 0] 39)).cell? ⟨bW, 0, none⟩ = some (.string (foldS s)) := by
          rw [World.cell?_of_block (Below.heap_alloc _ _ _ (by simp [World.setCell]; omega))]
          exact World.cell?_setCell_same' _ _ _ (by rw [c3]; rfl)
        have v1 : ((w3.setCell ⟨bW, 0, none⟩ (.string (foldS s))).alloc (.cells #[.slice none 0 0] 39)).cell? ⟨w3.heap.size, 0, none⟩ = some (.slice none 0 0) := by go_simp
        have vf : ((w3.setCell ⟨bW, 0, none⟩ (.string (foldS s))).alloc (.cells #[.slice none 0 0] 39)).frozen? ⟨w3.heap.size, 0, none⟩ = false := by go_simp
        have vp : ((w3.setCell ⟨bW, 0, none⟩ (.string (foldS s))).alloc (.cells #[.slice none 0 0] 39)).cell? ⟨w.heap.size, 1, none⟩ = some (.int .i64 K) := by
          rw [World.cell?_of_block (Below.heap_alloc _ _ _ (by simp [World.setCell]; omega)), World.cell?_of_block (Below.heap_setCell _ _ _ _ (by show w.heap.size ≠ bW; omega))]
          exact q3
        have hVB : Below w.heap.size w ((w3.setCell ⟨bW, 0, none⟩ (.string (foldS s))).alloc (.cells #[.slice none 0 0] 39)) := (hB3.setCell (p := ⟨bW, 0, none⟩) (by show _ ≤ bW; omega) _).alloc (by simp [World.setCell]; omega) _
        have hV : ((w3.setCell ⟨bW, 0, none⟩ (.string (foldS s))).alloc (.cells #[.slice none 0 0] 39)).heap.size = w3.heap.size + 1 := by simp [World.setCell]
        generalize ((w3.setCell ⟨bW, 0, none⟩ (.string (foldS s))).alloc (.cells #[.slice none 0 0] 39)) = V at *
        have hbE : bW < w3.heap.size := by omega
        generalize w3.heap.size = bE at *
        have hVl : bE < V.heap.size := by omega
        clear hV c3 f3 q3
        (first | refine ⟨trivial, fun h => (Bool.false_ne_true h).elim, ?_⟩ | refine ⟨trivial, ?_⟩)
        refine (callsIn_wide.2 (impl_columns (foldS s) (foldS r) 0 V)).mono ?_
        rintro e w1 ⟨rfl, rfl⟩
        obtain ⟨e1, e2, e3⟩ := heap_alloc3 V (.cells #[.string (foldS s)] 9) (.cells #[.string (foldS r)] 9) (.cells #[.int .i64 0] 2)
        have hBV : Below V.heap.size V (((V.alloc (.cells #[.string (foldS s)] 9)).alloc (.cells #[.string (foldS r)] 9)).alloc (.cells #[.int .i64 0] 2)) := (((Below.refl _ V).alloc (Nat.le_refl _) _).alloc (by simp) _).alloc (by simp; omega) _
        have hsz : (((V.alloc (.cells #[.string (foldS s)] 9)).alloc (.cells #[.string (foldS r)] 9)).alloc (.cells #[.int .i64 0] 2)).heap.size = V.heap.size + 3 := by simp
        have k2 : (((V.alloc (.cells #[.string (foldS s)] 9)).alloc (.cells #[.string (foldS r)] 9)).alloc (.cells #[.int .i64 0] 2)).cell? ⟨V.heap.size, 0, none⟩ = some (.string (foldS s)) := by rw [cell_of_row _ _ 0 _ _ _ e1]; rfl
        have k3 : (((V.alloc (.cells #[.string (foldS s)] 9)).alloc (.cells #[.string (foldS r)] 9)).alloc (.cells #[.int .i64 0] 2)).cell? ⟨V.heap.size + 1, 0, none⟩ = some (.string (foldS r)) := by rw [cell_of_row _ _ 0 _ _ _ e2]; rfl
        have k4 : (((V.alloc (.cells #[.string (foldS s)] 9)).alloc (.cells #[.string (foldS r)] 9)).alloc (.cells #[.int .i64 0] 2)).cell? ⟨V.heap.size + 2, 0, none⟩ = some (.int .i64 0) := by rw [cell_of_row _ _ 0 _ _ _ e3]; rfl
        generalize (((V.alloc (.cells #[.string (foldS s)] 9)).alloc (.cells #[.string (foldS r)] 9)).alloc (.cells #[.int .i64 0] 2)) = WR at *
        have k0 := (hBV.cell (p := ⟨bW, 0, none⟩) (by show bW < _; omega)).trans v0
        have k1 := (hBV.cell (p := ⟨bE, 0, none⟩) (by show bE < _; omega)).trans v1
        have g1 := (hBV.frozen (p := ⟨bE, 0, none⟩) (by show bE < _; omega)).trans vf
        have kp := (hBV.cell (p := ⟨w.heap.size, 1, none⟩) (by show w.heap.size < _; omega)).trans vp
        have hBW := hVB.trans (hBV.mono hVB.size)
        have HSZ := Lib.hid hsz
        have hlV : V.heap.size < WR.heap.size := by omega
        clear hsz e1 e2 e3 v0 v1 vf vp
        gi_wp2
        refine range_law rfl (by omega) (gf := 55) (lb := #[boxV V.heap.size, boxV (V.heap.size + 1), boxV (V.heap.size + 2)]) rfl trivial (enters_of Try.func55 (by kernel_rfl) rfl)
          (columns_iter (foldS s) (foldS r) 0 V.heap.size (V.heap.size + 1) (V.heap.size + 2) _ (fun b => b < V.heap.size) WR hSs hRs (by decide) (by decide) k2 k3 k4 (by omega) (by omega) (by omega)) (fun x => rfl) (fun k x W l o o' h hl ho => handC_put _ _ _ k x W l o o' h hl ho)
          (fun k T W => ∃ (a : Option Addr) (n cap : Nat), (∀ b, T b ↔ b < V.heap.size ∨ (Value.slice a n cap).ownBlock = some b) ∧ W.cell? ⟨bE, 0, none⟩ = some (.slice a n cap) ∧ W.frozen? ⟨bE, 0, none⟩ = false ∧ OwnM 44 2 W V.heap.size a n cap (endF (lastD s r true) K k) ∧ W.cell? ⟨bW, 0, none⟩ = some (.string (foldS s)) ∧ W.cell? ⟨w.heap.size, 1, none⟩ = some (.int .i64 K) ∧ Below w.heap.size w W ∧ V.heap.size ≤ W.heap.size)
          ?hJ (fun b h => by omega) ⟨none, 0, 0, fun b => ⟨.inl, fun h => h.elim id (fun h => by cases h)⟩, k1, g1, OwnM.nil _ _, k0, kp, hBW, by omega⟩
          (fun x => { tmps := #[.agg #[.string s, .int .i64 K, .bool true], .string (foldS r), boxV w.heap.size, undef, .slice none 0 0, boxV bW, boxV bE, .int .i64 x.1, .slice (some ⟨x.2.1, 0, none⟩) ((foldS s).size + 1) x.2.2, undef, .agg #[.string s, .int .i64 K, .bool true], .bool true, .bool false, .bool false, .string r, .int .i64 r.size, .bool false, .bool false, boxV w.heap.size, .string s, .pointer (some ⟨w.heap.size, 2, none⟩), .bool true, .string s, .string (foldS s), .string r, .string (foldS r), .string (foldS s), .string (foldS r), .func (.func 55) #[] #[boxV V.heap.size, boxV (V.heap.size + 1), boxV (V.heap.size + 2)], .int .i64 x.1, .slice (some ⟨x.2.1, 0, none⟩) ((foldS s).size + 1) x.2.2, undef, undef, undef, undef, undef, undef, undef, undef, undef, undef, undef, undef, undef, undef, undef, undef], defers := [] }) ?assign ?body ?done
        case hJ =>
          rintro k T A B ⟨a, n, cap, hT, c1, f1, hO, c0, cp, hb, hl⟩ hAB
          refine ⟨a, n, cap, hT, (hAB.cell (p := ⟨bE, 0, none⟩) ((hT _).2 (.inl (by show bE < _; omega))) (by show bE < _; omega)).trans c1, (hAB.frozen (p := ⟨bE, 0, none⟩) ((hT _).2 (.inl (by show bE < _; omega))) (by show bE < _; omega)).trans f1, hO.on fun g hg => hAB.block g ((hT g).2 (.inr hg)) (hO.turn_lt g hg), (hAB.cell (p := ⟨bW, 0, none⟩) ((hT _).2 (.inl (by show bW < _; omega))) (by show bW < _; omega)).trans c0, (hAB.cell (p := ⟨w.heap.size, 1, none⟩) ((hT _).2 (.inl (by show w.heap.size < _; omega))) (by show w.heap.size < _; omega)).trans cp, hb.trans (hAB.below hb.size fun b h => (hT b).2 (.inl (by omega))), Nat.le_trans hl hAB.size⟩
        case assign =>
          intro l x W K hK
          unfold encC
          gi_wp2
          exact hK
        case body =>
          rintro l k T ⟨x1, g, cap1⟩ W hk ⟨a, n, cap, hT, c1, f1, hO, c0, cp, hb, hl⟩ ⟨hx1, hcol⟩
          have hc := hcol (foldS s).size (by omega)
          have hn1 : (((foldS s).size : Nat) : Int) < (((foldS s).size : Nat) : Int) + 1 := by omega
          simp only at hc hx1
          subst hx1
          have hd : colAt (foldS s) (foldS r) 0 x1 (foldS s).size = lastD s r true x1 := by unfold lastD; rw [HFS.out]; rfl
          rw [hd] at hc
          have hnl : n = endN (lastD s r true) K x1 := by have := hO.len; rw [endF_length] at this; omega
          have hne := endN_le (lastD s r true) K x1
          have HNL := Lib.hid hnl
          have hx2 : x1 ≤ 200 := by have := HFR.out; omega
          clear hcol hd hnl
          by_cases hle : lastD s r true x1 ≤ K
          · have HF := Lib.hid (show endF (lastD s r true) K (x1 + 1) = endF (lastD s r true) K x1 ++ [(x1 : Int), lastD s r true x1] by simp [endF, hle])
            have hn3 : n ≤ 200 := by have := HNL.out; omega
            obtain ⟨y, hy⟩ : ∃ y, lastD s r true x1 = y := ⟨_, rfl⟩
            rw [hy] at hc hle HF
            clear hy
            have HO := Lib.hid hO
            have HTT := Lib.hid hT
            have hEb : ∀ q, (Value.slice a n cap).ownBlock = some q → V.heap.size ≤ q ∧ q < W.heap.size := fun q hq => hO.2.lt q hq
            clear hO hT
            have HLEN := Lib.hid (show (endF (lastD s r true) K (x1 + 1)).length = (n + 1) * 2 by rw [HF.out, List.length_append, endF_length, ← HNL.out]; simp; omega)
            have hVE : ∀ q, (Value.slice a n cap).ownBlock = some q → q ≠ bE := fun q hq => by have := (hEb q hq).1; omega
            gi_wp2_with (gi_at_builtin; refine wpListIn_append_own_at _ rfl _ _ 39 rfl V.heap.size 44 i0 (.agg #[.int .i64 0, .int .i64 0]) 2 16 Try.underlying39 hi hz0 hz1 hz2 rfl (by decide) _ _ _ rfl (HO.out.kept ((Below.refl W.heap.size W).alloc (Nat.le_refl _) (.cells #[.int .i64 x1, .int .i64 y] 44))).2 ⟨W.heap.size, 0, none⟩ 1 1 [.int .i64 x1, .int .i64 y] rfl rfl (fun j u h => cells_new W _ _ j u h) (by simp [Value.oneCell']) (by unfold maxLen; omega) (by omega) (by simp; omega) ?_; intro v' w1 hown' hg _ hat; obtain ⟨a', cap', rfl, hO'⟩ := OwnM.shape HLEN.out (by rw [HF.out, List.map_append]; exact hown'); have hgs := hg.size; have hk2 : ∀ b, b < W.heap.size → some b ≠ (Value.slice a n cap).ownBlock → w1.heap[b]? = W.heap[b]? := (fun b h1 h2 => (hg.block b (by simp; omega) h2).trans (Below.heap_alloc W (.cells #[.int .i64 x1, .int .i64 y] 44) b h1)); have hcE := (World.cell?_of_block (w := W) (hk2 bE (by omega) (fun e => hVE bE e.symm rfl))).trans c1; have hfE := (World.frozen?_of_block (w := W) (hk2 bE (by omega) (fun e => hVE bE e.symm rfl))).trans f1)
            have hk3 : ∀ b, b < W.heap.size → some b ≠ (Value.slice a n cap).ownBlock → b ≠ bE → (w1.setCell ⟨bE, 0, none⟩ (.slice a' (n + 1) cap')).heap[b]? = W.heap[b]? := fun b h1 h2 h3 => (Below.heap_setCell w1 ⟨bE, 0, none⟩ _ b h3).trans (hk2 b h1 h2)
            have hVo : ∀ b, b < V.heap.size → some b ≠ (Value.slice a n cap).ownBlock := fun b h1 h2 => by have := (hEb b h2.symm).1; omega
            simp only [World.size_alloc] at hgs
            have hs3 : (w1.setCell ⟨bE, 0, none⟩ (.slice a' (n + 1) cap')).heap.size = w1.heap.size := by simp [World.setCell]
            refine ⟨fun b => b < V.heap.size ∨ (Value.slice a' (n + 1) cap').ownBlock = some b, ⟨a', n + 1, cap', fun b => Iff.rfl, World.cell?_setCell_same' _ _ _ (by rw [hcE]; rfl), by rw [World.frozen?_setCell]; exact hfE, hO'.on fun g hg' => Below.heap_setCell w1 ⟨bE, 0, none⟩ _ g (by have := (hO'.2.lt g hg').1; show g ≠ bE; omega), ?_, ?_, ?_, by omega⟩, ?_, ?_⟩
            · exact (World.cell?_of_block (w := W) (hk3 bW (by omega) (hVo bW (by omega)) (by omega))).trans c0
            · exact (World.cell?_of_block (w := W) (hk3 w.heap.size (by omega) (hVo _ (by omega)) (by omega))).trans cp
            · exact hb.trans ⟨hg.os, hg.tape, hg.output, by omega, fun b h => hk3 b (by omega) (hVo b (by omega)) (by omega)⟩
            · exact ⟨hg.os, hg.tape, hg.output, by omega, fun b h1 h2 => hk3 b h2 (fun e => h1 ((HTT.out b).2 (.inr e.symm))) (fun e => h1 ((HTT.out b).2 (.inl (by omega))))⟩
            · rintro b (h | h)
              · exact ⟨.inl ((HTT.out b).2 (.inl h)), by omega⟩
              · refine ⟨?_, by have := hO'.turn_lt b h; omega⟩
                rcases hat with e | e
                · exact .inl ((HTT.out b).2 (.inr (e.symm.trans h)))
                · rw [h] at e
                  simp only [Option.some.injEq] at e
                  exact .inr (by rw [e]; simp)
          · have HF := Lib.hid (show endF (lastD s r true) K (x1 + 1) = endF (lastD s r true) K x1 by simp [endF, hle])
            gi_wp2
            exact ⟨T, ⟨a, n, cap, hT, c1, f1, by rw [HF.out]; exact hO, c0, cp, hb, hl⟩, On.refl _ _, fun b hb2 => ⟨.inl hb2, ((hT b).1 hb2).elim (fun h => by omega) (fun h => hO.turn_lt b h)⟩⟩
        case done =>
          rintro D T W hD hTD ⟨a, n, cap, hT, c1, f1, hO, c0, cp, hb, hl⟩ hK
          gi_wp2
          refine ⟨by simp, .inl ⟨_, _, rfl, run_takeDeferred hK, ?_⟩⟩
          refine ⟨_, results_tmp rfl _ _ _, _, _, _, rfl, ?_, hb.trans (belowK_b (w := w) (Nat.le_refl _) W D _ _ (by omega) hK rfl rfl)⟩
          rw [HR.out, ← HFR.out]
          refine (hO.mono (C := w.heap.size) (by omega)).on fun q hq => World.putObj_heap_other ?_
          rintro rfl
          exact hTD ((hT q).2 (.inr hq))
    · have HR := Lib.hid (show endsL s K f r = [] by unfold endsL; simp [h2])
      have HP := Lib.hid hp; clear hp
      have hd2 : decide (200 < (r.size : Int)) = true := by simp; omega
      gi_wp2
      (first | refine ⟨trivial, fun h => (Bool.false_ne_true h).elim, ?_⟩ | refine ⟨trivial, ?_⟩)
      refine (callsIn_wide.2 (impl_patternOk s K f _ (by omega))).mono ?_
      rintro e w1 ⟨rfl, hb1⟩
      rw [HP.out]
      have HT : Below w.heap.size w w1 := below_step (by repeat (first | exact Below.refl _ _ | assumption | (refine Below.drew ?_) | (refine below_drewN ?_ _) | (refine Below.alloc ?_ (by first | omega | (simp; done) | (simp; omega)) _) | (refine Below.setCell ?_ (by first | omega | (simp; done) | (simp; omega)) _))) hb1
      gi_wp2
      exact ⟨_, results_tmp rfl _ _ _, _, _, _, rfl, by rw [HR.out]; exact OwnM.nil _ _, HT⟩
end Go.Proofs.Ytgikjopmijomgab

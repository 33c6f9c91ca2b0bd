/-
  Chapter 18: SwapDist, in the program (by wip/tools/mk_swapdist.py).
-/
import Derived.Test.YtgikjopmijomgabL18It
import Derived.Test.YtgikjopmijomgabL3Dist
namespace Go.Proofs.Ytgikjopmijomgab
open Go Go.RowKit Go.Shelf
set_option linter.unusedVariables false
set_option maxRecDepth 100000
attribute [local go_sem] Oper.semAt_some
theorem impl_swapDists (s r : ByteArray) (rise : Int) (w : World) :
    Calls Try.prog 38 #[.string s, .string r, .int .i64 rise] w fun e w' => e = .returned (.func (.func 52) #[] #[boxV w.heap.size, boxV (w.heap.size + 1), boxV (w.heap.size + 2)]) ∧ w' = ((w.alloc (.cells #[.string s] 9)).alloc (.cells #[.string r] 9)).alloc (.cells #[.int .i64 rise] 2) := by
  go_enter Try.func38, Try.ntmps38
  go_wp2
  go_ret
  exact ⟨rfl, rfl⟩
/-- by how much two texts differ, swaps too -/
def swDI (s r : ByteArray) (f : Bool) : Int := if s.size ≤ 200 ∧ r.size ≤ 200 then swAt (foldIf f s) (foldIf f r) 1 r.size s.size else -1
theorem swDI_yes {s r : ByteArray} {f : Bool} (h : s.size ≤ 200 ∧ r.size ≤ 200) : swDI s r f = swAt (foldIf f s) (foldIf f r) 1 r.size s.size := if_pos h
theorem swDI_no {s r : ByteArray} {f : Bool} (h : ¬ (s.size ≤ 200 ∧ r.size ≤ 200)) : swDI s r f = -1 := if_neg h
def lastW (s r : ByteArray) (rise : Int) : Nat → Int
  | 0 => 0
  | k + 1 => swAt s r rise k s.size
set_option maxHeartbeats 4000000 in
theorem impl_swapDist (s r : ByteArray) (f : Bool) (w : World) (hs : s.size ≤ 1048576) (hr : r.size ≤ 1048576) :
    Calls Try.prog 16 #[.string s, .string r, .bool f] w fun e w' => e = .returned (.int .i64 (swDI s r f)) ∧ Below w.heap.size w w' := by
  refine (callsIn_wide (n := 6)).1 ?_
  refine callsIn_of_wp_marks Try.func16 rfl trivial ?_ rfl
  simp only [Try.ntmps16, List.size_toArray, List.length_cons, List.length_nil, Nat.reduceAdd, Nat.reduceSub, Array.replicate_succ, Array.replicate_zero, List.push_toArray, List.append_toArray, List.nil_append, List.cons_append]
  by_cases h1 : s.size ≤ 200
  · by_cases h2 : r.size ≤ 200
    · have hd1 : decide (200 < (s.size : Int)) = false := by simp; omega
      have hd2 : decide (200 < (r.size : Int)) = false := by simp; omega
      cases f
      · have HR := Lib.hid (show swDI s r false = swAt s r 1 (r).size (s).size by rw [swDI_yes ⟨h1, h2⟩]; rfl)
        have hSs : (s).size ≤ 200 := by exact h1
        have hRs : (r).size ≤ 200 := by exact h2
        gi_wp2
        have hBb : Below w.heap.size w w := Below.refl _ _
        have v1 : (w.alloc (.cells #[.int .i64 0] 2)).cell? ⟨w.heap.size, 0, none⟩ = some (.int .i64 0) := by go_simp
        have vf : (w.alloc (.cells #[.int .i64 0] 2)).frozen? ⟨w.heap.size, 0, none⟩ = false := by go_simp
        have hVB : Below w.heap.size w (w.alloc (.cells #[.int .i64 0] 2)) := hBb.alloc hBb.size _
        have hV : (w.alloc (.cells #[.int .i64 0] 2)).heap.size = w.heap.size + 1 := by simp
        have hbz := hBb.size
        generalize (w.alloc (.cells #[.int .i64 0] 2)) = V at *
        obtain ⟨bL, hbL⟩ : ∃ bL, w.heap.size = bL := ⟨_, rfl⟩
        have hbz2 : w.heap.size ≤ bL := by omega
        clear hbz
        rw [hbL] at v1 vf hV ⊢
        have hVl : bL < V.heap.size := by omega
        clear hV hbL hBb
        (first | refine ⟨trivial, fun h => (Bool.false_ne_true h).elim, ?_⟩ | refine ⟨trivial, ?_⟩)
        refine (callsIn_wide.2 (impl_swapDists s r 1 V)).mono ?_
        rintro e w1 ⟨rfl, rfl⟩
        obtain ⟨e1, e2, e3⟩ := heap_alloc3 V (.cells #[.string s] 9) (.cells #[.string r] 9) (.cells #[.int .i64 1] 2)
        have hBV : Below V.heap.size V (((V.alloc (.cells #[.string s] 9)).alloc (.cells #[.string r] 9)).alloc (.cells #[.int .i64 1] 2)) := (((Below.refl _ V).alloc (Nat.le_refl _) _).alloc (by simp) _).alloc (by simp; omega) _
        have hsz : (((V.alloc (.cells #[.string s] 9)).alloc (.cells #[.string r] 9)).alloc (.cells #[.int .i64 1] 2)).heap.size = V.heap.size + 3 := by simp
        have k2 : (((V.alloc (.cells #[.string s] 9)).alloc (.cells #[.string r] 9)).alloc (.cells #[.int .i64 1] 2)).cell? ⟨V.heap.size, 0, none⟩ = some (.string s) := by rw [cell_of_row _ _ 0 _ _ _ e1]; rfl
        have k3 : (((V.alloc (.cells #[.string s] 9)).alloc (.cells #[.string r] 9)).alloc (.cells #[.int .i64 1] 2)).cell? ⟨V.heap.size + 1, 0, none⟩ = some (.string r) := by rw [cell_of_row _ _ 0 _ _ _ e2]; rfl
        have k4 : (((V.alloc (.cells #[.string s] 9)).alloc (.cells #[.string r] 9)).alloc (.cells #[.int .i64 1] 2)).cell? ⟨V.heap.size + 2, 0, none⟩ = some (.int .i64 1) := by rw [cell_of_row _ _ 0 _ _ _ e3]; rfl
        generalize (((V.alloc (.cells #[.string s] 9)).alloc (.cells #[.string r] 9)).alloc (.cells #[.int .i64 1] 2)) = WR at *
        have k1 := (hBV.cell (p := ⟨bL, 0, none⟩) (by show bL < _; omega)).trans v1
        have g1 := (hBV.frozen (p := ⟨bL, 0, none⟩) (by show bL < _; omega)).trans vf
        have hBW := hVB.trans (hBV.mono hVB.size)
        have HSZ := Lib.hid hsz
        have hlV : V.heap.size < WR.heap.size := by omega
        clear hsz e1 e2 e3 v1 vf
        gi_wp2
        refine range_law rfl (by omega) (gf := 52) (lb := #[boxV V.heap.size, boxV (V.heap.size + 1), boxV (V.heap.size + 2)]) rfl trivial (enters_of Try.func52 (by kernel_rfl) rfl)
          (swaps_iter s r 1 V.heap.size (V.heap.size + 1) (V.heap.size + 2) _ (fun b => b < V.heap.size) WR hSs hRs (by decide) (by decide) k2 k3 k4 (by omega) (by omega) (by omega)) (fun x => rfl) (fun k x W l o o' h hl ho => h)
          (fun k T W => (∀ b, T b ↔ b < V.heap.size) ∧ W.cell? ⟨bL, 0, none⟩ = some (.int .i64 (lastW s r 1 k)) ∧ W.frozen? ⟨bL, 0, none⟩ = false ∧ Below w.heap.size w W ∧ V.heap.size ≤ W.heap.size)
          ?hJ (fun b h => by omega) ⟨fun b => Iff.rfl, k1, g1, hBW, by omega⟩ ?a1 ?assign ?body ?done
        case assign =>
          intro l x W K hK
          unfold encD
          gi_wp2
          exact hK
        case hJ =>
          rintro k T A B ⟨hT, c1, f1, hb, hl⟩ hAB
          refine ⟨hT, (hAB.cell (p := ⟨bL, 0, none⟩) ((hT _).2 (by show bL < _; omega)) (by show bL < _; omega)).trans c1, (hAB.frozen (p := ⟨bL, 0, none⟩) ((hT _).2 (by show bL < _; omega)) (by show bL < _; omega)).trans f1, hb.trans (hAB.below hb.size fun b h => (hT b).2 (by omega)), Nat.le_trans hl hAB.size⟩
        case body =>
          rintro l k T ⟨x1, d⟩ W hk ⟨hT, c1, f1, hb, hl⟩ hx
          obtain ⟨rfl, rfl⟩ : x1 = k ∧ d = swAt s r 1 k s.size := by simpa [HandD] using hx
          have hbT : ¬ ¬ T bL := fun h => h ((hT bL).2 (by omega))
          gi_wp2
          refine ⟨T, ⟨hT, World.cell?_setCell_same' _ _ _ (by rw [c1]; rfl), by rw [World.frozen?_setCell]; exact f1, hb.setCell (p := ⟨bL, 0, none⟩) (by show _ ≤ bL; omega) _, ?_⟩, (On.refl _ W).setCell (p := ⟨bL, 0, none⟩) hbT _, fun b hb2 => ⟨.inl hb2, ?_⟩⟩
          · simp [World.setCell]; omega
          · have := (hT b).1 hb2; simp [World.setCell]; omega
        case done =>
          rintro D T W hD hTD ⟨hT, c1, f1, hb, hl⟩ hK
          gi_wp2
          refine ⟨by simp, .inl ⟨_, _, rfl, run_takeDeferred hK, ?_⟩⟩
          exact ⟨_, results_tmp rfl _ _ _, by rw [HR.out]; rfl, hb.trans (belowK_b (w := w) (Nat.le_refl _) W D _ _ (by omega) hK rfl rfl)⟩
      · have HR := Lib.hid (show swDI s r true = swAt (foldS s) (foldS r) 1 ((foldS r)).size ((foldS s)).size by rw [swDI_yes ⟨h1, h2⟩]; show swAt (foldS s) (foldS r) 1 r.size s.size = _; rw [foldS_size, foldS_size])
        have hSs : ((foldS s)).size ≤ 200 := by rw [foldS_size]; exact h1
        have hRs : ((foldS r)).size ≤ 200 := by rw [foldS_size]; exact h2
        gi_wp2
        (first | refine ⟨trivial, fun h => (Bool.false_ne_true h).elim, ?_⟩ | refine ⟨trivial, ?_⟩)
        refine (callsIn_wide.2 (impl_folded s _ (by omega))).mono ?_
        rintro e wa ⟨rfl, hba⟩
        have hBa : Below w.heap.size w wa := hba
        clear hba
        gi_wp2
        (first | refine ⟨trivial, fun h => (Bool.false_ne_true h).elim, ?_⟩ | refine ⟨trivial, ?_⟩)
        refine (callsIn_wide.2 (impl_folded r _ (by omega))).mono ?_
        rintro e wb ⟨rfl, hbb⟩
        have hBb : Below w.heap.size w wb := below_step hBa hbb
        clear hbb hBa
        generalize foldS s = SS at *
        generalize foldS r = RR at *
        gi_wp2
        have v1 : (wb.alloc (.cells #[.int .i64 0] 2)).cell? ⟨wb.heap.size, 0, none⟩ = some (.int .i64 0) := by go_simp
        have vf : (wb.alloc (.cells #[.int .i64 0] 2)).frozen? ⟨wb.heap.size, 0, none⟩ = false := by go_simp
        have hVB : Below w.heap.size w (wb.alloc (.cells #[.int .i64 0] 2)) := hBb.alloc hBb.size _
        have hV : (wb.alloc (.cells #[.int .i64 0] 2)).heap.size = wb.heap.size + 1 := by simp
        have hbz := hBb.size
        generalize (wb.alloc (.cells #[.int .i64 0] 2)) = V at *
        obtain ⟨bL, hbL⟩ : ∃ bL, wb.heap.size = bL := ⟨_, rfl⟩
        have hbz2 : w.heap.size ≤ bL := by omega
        clear hbz
        rw [hbL] at v1 vf hV ⊢
        have hVl : bL < V.heap.size := by omega
        clear hV hbL hBb
        (first | refine ⟨trivial, fun h => (Bool.false_ne_true h).elim, ?_⟩ | refine ⟨trivial, ?_⟩)
        refine (callsIn_wide.2 (impl_swapDists SS RR 1 V)).mono ?_
        rintro e w1 ⟨rfl, rfl⟩
        obtain ⟨e1, e2, e3⟩ := heap_alloc3 V (.cells #[.string SS] 9) (.cells #[.string RR] 9) (.cells #[.int .i64 1] 2)
        have hBV : Below V.heap.size V (((V.alloc (.cells #[.string SS] 9)).alloc (.cells #[.string RR] 9)).alloc (.cells #[.int .i64 1] 2)) := (((Below.refl _ V).alloc (Nat.le_refl _) _).alloc (by simp) _).alloc (by simp; omega) _
        have hsz : (((V.alloc (.cells #[.string SS] 9)).alloc (.cells #[.string RR] 9)).alloc (.cells #[.int .i64 1] 2)).heap.size = V.heap.size + 3 := by simp
        have k2 : (((V.alloc (.cells #[.string SS] 9)).alloc (.cells #[.string RR] 9)).alloc (.cells #[.int .i64 1] 2)).cell? ⟨V.heap.size, 0, none⟩ = some (.string SS) := by rw [cell_of_row _ _ 0 _ _ _ e1]; rfl
        have k3 : (((V.alloc (.cells #[.string SS] 9)).alloc (.cells #[.string RR] 9)).alloc (.cells #[.int .i64 1] 2)).cell? ⟨V.heap.size + 1, 0, none⟩ = some (.string RR) := by rw [cell_of_row _ _ 0 _ _ _ e2]; rfl
        have k4 : (((V.alloc (.cells #[.string SS] 9)).alloc (.cells #[.string RR] 9)).alloc (.cells #[.int .i64 1] 2)).cell? ⟨V.heap.size + 2, 0, none⟩ = some (.int .i64 1) := by rw [cell_of_row _ _ 0 _ _ _ e3]; rfl
        generalize (((V.alloc (.cells #[.string SS] 9)).alloc (.cells #[.string RR] 9)).alloc (.cells #[.int .i64 1] 2)) = WR at *
        have k1 := (hBV.cell (p := ⟨bL, 0, none⟩) (by show bL < _; omega)).trans v1
        have g1 := (hBV.frozen (p := ⟨bL, 0, none⟩) (by show bL < _; omega)).trans vf
        have hBW := hVB.trans (hBV.mono hVB.size)
        have HSZ := Lib.hid hsz
        have hlV : V.heap.size < WR.heap.size := by omega
        clear hsz e1 e2 e3 v1 vf
        gi_wp2
        refine range_law rfl (by omega) (gf := 52) (lb := #[boxV V.heap.size, boxV (V.heap.size + 1), boxV (V.heap.size + 2)]) rfl trivial (enters_of Try.func52 (by kernel_rfl) rfl)
          (swaps_iter SS RR 1 V.heap.size (V.heap.size + 1) (V.heap.size + 2) _ (fun b => b < V.heap.size) WR hSs hRs (by decide) (by decide) k2 k3 k4 (by omega) (by omega) (by omega)) (fun x => rfl) (fun k x W l o o' h hl ho => h)
          (fun k T W => (∀ b, T b ↔ b < V.heap.size) ∧ W.cell? ⟨bL, 0, none⟩ = some (.int .i64 (lastW SS RR 1 k)) ∧ W.frozen? ⟨bL, 0, none⟩ = false ∧ Below w.heap.size w W ∧ V.heap.size ≤ W.heap.size)
          ?hJ (fun b h => by omega) ⟨fun b => Iff.rfl, k1, g1, hBW, by omega⟩ ?a2 ?assign ?body ?done
        case assign =>
          intro l x W K hK
          unfold encD
          gi_wp2
          exact hK
        case hJ =>
          rintro k T A B ⟨hT, c1, f1, hb, hl⟩ hAB
          refine ⟨hT, (hAB.cell (p := ⟨bL, 0, none⟩) ((hT _).2 (by show bL < _; omega)) (by show bL < _; omega)).trans c1, (hAB.frozen (p := ⟨bL, 0, none⟩) ((hT _).2 (by show bL < _; omega)) (by show bL < _; omega)).trans f1, hb.trans (hAB.below hb.size fun b h => (hT b).2 (by omega)), Nat.le_trans hl hAB.size⟩
        case body =>
          rintro l k T ⟨x1, d⟩ W hk ⟨hT, c1, f1, hb, hl⟩ hx
          obtain ⟨rfl, rfl⟩ : x1 = k ∧ d = swAt SS RR 1 k SS.size := by simpa [HandD] using hx
          have hbT : ¬ ¬ T bL := fun h => h ((hT bL).2 (by omega))
          gi_wp2
          refine ⟨T, ⟨hT, World.cell?_setCell_same' _ _ _ (by rw [c1]; rfl), by rw [World.frozen?_setCell]; exact f1, hb.setCell (p := ⟨bL, 0, none⟩) (by show _ ≤ bL; omega) _, ?_⟩, (On.refl _ W).setCell (p := ⟨bL, 0, none⟩) hbT _, fun b hb2 => ⟨.inl hb2, ?_⟩⟩
          · simp [World.setCell]; omega
          · have := (hT b).1 hb2; simp [World.setCell]; omega
        case done =>
          rintro D T W hD hTD ⟨hT, c1, f1, hb, hl⟩ hK
          gi_wp2
          refine ⟨by simp, .inl ⟨_, _, rfl, run_takeDeferred hK, ?_⟩⟩
          exact ⟨_, results_tmp rfl _ _ _, by rw [HR.out]; rfl, hb.trans (belowK_b (w := w) (Nat.le_refl _) W D _ _ (by omega) hK rfl rfl)⟩
    · have hd1 : decide (200 < (s.size : Int)) = false := by simp; omega
      have hd2 : decide (200 < (r.size : Int)) = true := by simp; omega
      rw [swDI_no (s := s) (r := r) (fun h => h2 h.2)]
      gi_wp2
      exact ⟨_, results_tmp rfl _ _ _, rfl, (by repeat (first | exact Below.refl _ _ | assumption | (refine Below.drew ?_) | (refine below_drewN ?_ _) | (refine Below.alloc ?_ (by first | omega | (simp; done) | (simp; omega)) _) | (refine Below.setCell ?_ (by first | omega | (simp; done) | (simp; omega)) _)))⟩
  · have hd1 : decide (200 < (s.size : Int)) = true := by simp; omega
    rw [swDI_no (s := s) (r := r) (fun h => h1 h.1)]
    gi_wp2
    exact ⟨_, results_tmp rfl _ _ _, rfl, (by repeat (first | exact Below.refl _ _ | assumption | (refine Below.drew ?_) | (refine below_drewN ?_ _) | (refine Below.alloc ?_ (by first | omega | (simp; done) | (simp; omega)) _) | (refine Below.setCell ?_ (by first | omega | (simp; done) | (simp; omega)) _)))⟩
end Go.Proofs.Ytgikjopmijomgab

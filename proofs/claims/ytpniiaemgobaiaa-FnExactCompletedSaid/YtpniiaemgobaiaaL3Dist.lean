/-
  Chapter 3: Distance, in the program: a range over the columns.
-/
import Derived.Test.YtpniiaemgobaiaaColsIt
import Derived.Test.YtpniiaemgobaiaaL1Folded
namespace Go.Proofs.Ytpniiaemgobaiaa
open Go Go.RowKit Go.Shelf
set_option linter.unusedVariables false
set_option maxRecDepth 100000
attribute [local go_sem] Oper.semAt_some
theorem impl_columns (s r : ByteArray) (rise : Int) (w : World) :
    Calls Try.prog 76 #[.string s, .string r, .int .i64 rise] w fun e w' => e = .returned (.func (.func 92) #[] #[boxV w.heap.size, boxV (w.heap.size + 1), boxV (w.heap.size + 2)]) ∧ w' = ((w.alloc (.cells #[.string s] 9)).alloc (.cells #[.string r] 9)).alloc (.cells #[.int .i64 rise] 2) := by
  go_enter Try.func76, Try.ntmps76
  go_wp2
  go_ret
  exact ⟨rfl, rfl⟩
def foldIf (f : Bool) (s : ByteArray) : ByteArray := if f then foldS s else s
theorem foldIf_size (f : Bool) (s : ByteArray) : (foldIf f s).size = s.size := by
  cases f
  · rfl
  · exact foldS_size s
def distI (s r : ByteArray) (f : Bool) : Int := if s.size ≤ 200 ∧ r.size ≤ 200 then colAt (foldIf f s) (foldIf f r) 1 r.size s.size else -1
theorem distI_yes {s r : ByteArray} {f : Bool} (h : s.size ≤ 200 ∧ r.size ≤ 200) : distI s r f = colAt (foldIf f s) (foldIf f r) 1 r.size s.size := if_pos h
theorem distI_no {s r : ByteArray} {f : Bool} (h : ¬ (s.size ≤ 200 ∧ r.size ≤ 200)) : distI s r f = -1 := if_neg h
/-- what the variable least holds when k columns have come -/
def leastF (s r : ByteArray) : Nat → Int
  | 0 => 0
  | k + 1 => colAt s r 1 k s.size
set_option maxHeartbeats 4000000 in
theorem impl_distance (s r : ByteArray) (f : Bool) (w : World) (hs : s.size ≤ 1048576) (hr : r.size ≤ 1048576) :
    Calls Try.prog 49 #[.string s, .string r, .bool f] w fun e w' => e = .returned (.int .i64 (distI s r f)) ∧ Below w.heap.size w w' := by
  refine (callsIn_wide (n := 6)).1 ?_
  refine callsIn_of_wp_marks Try.func49 rfl trivial ?_ rfl
  simp only [Try.ntmps49, List.size_toArray, List.length_cons, List.length_nil, Nat.reduceAdd, Nat.reduceSub, Array.replicate_succ, Array.replicate_zero, List.push_toArray, List.append_toArray, List.nil_append, List.cons_append]
  by_cases h1 : s.size ≤ 200
  · by_cases h2 : r.size ≤ 200
    · have HR := Lib.hid (distI_yes (f := f) ⟨h1, h2⟩)
      have hd1 : decide (200 < (s.size : Int)) = false := by simp; omega
      have hd2 : decide (200 < (r.size : Int)) = false := by simp; omega
      cases f
      · have hSs : s.size ≤ 200 := h1
        have hRs : r.size ≤ 200 := h2
        gi_wp2
        have v0 : ((w.alloc (.cells #[.string s] 9)).alloc (.cells #[.int .i64 0] 2)).cell? ⟨w.heap.size, 0, none⟩ = some (.string s) := by go_simp
        have v1 : ((w.alloc (.cells #[.string s] 9)).alloc (.cells #[.int .i64 0] 2)).cell? ⟨w.heap.size + 1, 0, none⟩ = some (.int .i64 0) := by go_simp
        have vf : ((w.alloc (.cells #[.string s] 9)).alloc (.cells #[.int .i64 0] 2)).frozen? ⟨w.heap.size + 1, 0, none⟩ = false := by go_simp
        have hVB : Below w.heap.size w ((w.alloc (.cells #[.string s] 9)).alloc (.cells #[.int .i64 0] 2)) := (by repeat (first | exact Below.refl _ _ | assumption | (refine Below.drew ?_) | (refine below_drewN ?_ _) | (refine Below.alloc ?_ (by first | omega | (simp; done) | (simp; omega)) _) | (refine Below.setCell ?_ (by first | omega | (simp; done) | (simp; omega)) _)))
        have hV : ((w.alloc (.cells #[.string s] 9)).alloc (.cells #[.int .i64 0] 2)).heap.size = w.heap.size + 1 + 1 := by simp
        generalize ((w.alloc (.cells #[.string s] 9)).alloc (.cells #[.int .i64 0] 2)) = V at *
        have hbL : w.heap.size < w.heap.size + 1 := Nat.lt_succ_self _
        generalize w.heap.size + 1 = bL at *
        have hVl : bL < V.heap.size := by omega
        clear hV
        (first | refine ⟨trivial, fun h => (Bool.false_ne_true h).elim, ?_⟩ | refine ⟨trivial, ?_⟩)
        refine (callsIn_wide.2 (impl_columns s r 1 V)).mono ?_
        rintro e w1 ⟨rfl, rfl⟩
        obtain ⟨e1, e2, e3⟩ := heap_alloc3 V (.cells #[.string s] 9) (.cells #[.string r] 9) (.cells #[.int .i64 1] 2)
        have hBV : Below V.heap.size V (((V.alloc (.cells #[.string s] 9)).alloc (.cells #[.string r] 9)).alloc (.cells #[.int .i64 1] 2)) := (((Below.refl _ V).alloc (Nat.le_refl _) _).alloc (by simp) _).alloc (by simp; omega) _
        have hsz : (((V.alloc (.cells #[.string s] 9)).alloc (.cells #[.string r] 9)).alloc (.cells #[.int .i64 1] 2)).heap.size = V.heap.size + 3 := by simp
        have k2 : (((V.alloc (.cells #[.string s] 9)).alloc (.cells #[.string r] 9)).alloc (.cells #[.int .i64 1] 2)).cell? ⟨V.heap.size, 0, none⟩ = some (.string s) := by rw [cell_of_row _ _ 0 _ _ _ e1]; rfl
        have k3 : (((V.alloc (.cells #[.string s] 9)).alloc (.cells #[.string r] 9)).alloc (.cells #[.int .i64 1] 2)).cell? ⟨V.heap.size + 1, 0, none⟩ = some (.string r) := by rw [cell_of_row _ _ 0 _ _ _ e2]; rfl
        have k4 : (((V.alloc (.cells #[.string s] 9)).alloc (.cells #[.string r] 9)).alloc (.cells #[.int .i64 1] 2)).cell? ⟨V.heap.size + 2, 0, none⟩ = some (.int .i64 1) := by rw [cell_of_row _ _ 0 _ _ _ e3]; rfl
        generalize (((V.alloc (.cells #[.string s] 9)).alloc (.cells #[.string r] 9)).alloc (.cells #[.int .i64 1] 2)) = WR at *
        have k0 := (hBV.cell (p := ⟨w.heap.size, 0, none⟩) (by show w.heap.size < _; omega)).trans v0
        have k1 := (hBV.cell (p := ⟨bL, 0, none⟩) (by show bL < _; omega)).trans v1
        have g1 := (hBV.frozen (p := ⟨bL, 0, none⟩) (by show bL < _; omega)).trans vf
        have hBW := hVB.trans (hBV.mono hVB.size)
        have HSZ := Lib.hid hsz
        have hlV : V.heap.size < WR.heap.size := by omega
        clear hsz e1 e2 e3 v0 v1 vf
        gi_wp2
        refine range_law rfl (by omega) (gf := 92) (lb := #[boxV V.heap.size, boxV (V.heap.size + 1), boxV (V.heap.size + 2)]) rfl trivial (enters_of Try.func92 (by kernel_rfl) rfl)
          (columns_iter s r 1 V.heap.size (V.heap.size + 1) (V.heap.size + 2) _ (fun b => b < V.heap.size) WR hSs hRs (by decide) (by decide) k2 k3 k4 (by omega) (by omega) (by omega)) (fun x => rfl) (fun k x W l o o' h hl ho => handC_put _ _ _ k x W l o o' h hl ho)
          (fun k T W => (∀ b, T b ↔ b < V.heap.size) ∧ W.cell? ⟨bL, 0, none⟩ = some (.int .i64 (leastF s r k)) ∧ W.frozen? ⟨bL, 0, none⟩ = false ∧ W.cell? ⟨w.heap.size, 0, none⟩ = some (.string s) ∧ Below w.heap.size w W ∧ V.heap.size ≤ W.heap.size)
          ?hJ (fun b h => by omega) ⟨fun b => Iff.rfl, k1, g1, k0, hBW, by omega⟩
          (fun x => { tmps := #[.string s, .string r, .bool false, boxV w.heap.size, undef, undef, .int .i64 0, boxV bL, undef, .slice (some ⟨x.2.1, 0, none⟩) (s.size + 1) x.2.2, .string s, .int .i64 s.size, .bool false, .bool false, .string r, .int .i64 r.size, .bool false, .bool false, .bool false, undef, undef, undef, undef, .string s, .string r, .func (.func 92) #[] #[boxV V.heap.size, boxV (V.heap.size + 1), boxV (V.heap.size + 2)], .int .i64 x.1, .slice (some ⟨x.2.1, 0, none⟩) (s.size + 1) x.2.2, undef, undef, undef, undef, undef, undef], defers := [] }) ?assign ?body ?done
        case hJ =>
          rintro k T A B ⟨hT, c1, f1, c0, hb, hl⟩ hAB
          refine ⟨hT, (hAB.cell (p := ⟨bL, 0, none⟩) ((hT _).2 (by show bL < _; omega)) (by show bL < _; omega)).trans c1, (hAB.frozen (p := ⟨bL, 0, none⟩) ((hT _).2 (by show bL < _; omega)) (by show bL < _; omega)).trans f1, (hAB.cell (p := ⟨w.heap.size, 0, none⟩) ((hT _).2 (by show w.heap.size < _; omega)) (by show w.heap.size < _; omega)).trans c0, hb.trans (hAB.below hb.size fun b h => (hT b).2 (by omega)), Nat.le_trans hl hAB.size⟩
        case assign =>
          intro l x W K hK
          unfold encC
          gi_wp2
          exact hK
        case body =>
          rintro l k T ⟨x1, g, cap⟩ W hk ⟨hT, c1, f1, c0, hb, hl⟩ ⟨hx1, hcol⟩
          have hc := hcol (s).size (by omega)
          have hn1 : (((s).size : Nat) : Int) < (((s).size : Nat) : Int) + 1 := by omega
          have hbT : ¬ ¬ T bL := fun h => h ((hT bL).2 (by omega))
          simp only at hc
          clear hcol hx1
          gi_wp2
          refine ⟨T, ⟨hT, World.cell?_setCell_same' _ _ _ (by rw [c1]; rfl), by rw [World.frozen?_setCell]; exact f1, ?_, hb.setCell (p := ⟨bL, 0, none⟩) (by show _ ≤ bL; omega) _, ?_⟩, (On.refl _ W).setCell (p := ⟨bL, 0, none⟩) hbT _, fun b hb2 => ⟨.inl hb2, ?_⟩⟩
          · rw [← c0]
            exact World.cell?_of_block (Below.heap_setCell _ _ _ _ (by show w.heap.size ≠ bL; omega))
          · simp [World.setCell]; omega
          · have := (hT b).1 hb2; simp [World.setCell]; omega
        case done =>
          rintro D T W hD hTD ⟨hT, c1, f1, c0, hb, hl⟩ hK
          gi_wp2
          refine ⟨by simp, .inl ⟨_, _, rfl, run_takeDeferred hK, ?_⟩⟩
          exact ⟨_, results_tmp rfl _ _ _, by rw [HR.out]; rfl, hb.trans (belowK_b (w := w) (Nat.le_refl _) W D _ _ (by omega) hK rfl rfl)⟩
      · have hSs : (foldS s).size ≤ 200 := by rw [foldS_size]; exact h1
        have hRs : (foldS r).size ≤ 200 := by rw [foldS_size]; exact h2
        have HFS := Lib.hid (foldS_size s)
        have HFR := Lib.hid (foldS_size r)
        gi_wp2
        (first | refine ⟨trivial, fun h => (Bool.false_ne_true h).elim, ?_⟩ | refine ⟨trivial, ?_⟩)
        refine (callsIn_wide.2 (impl_folded s _ (by omega))).mono ?_
        rintro e w2 ⟨rfl, hb2⟩
        have c2 : w2.cell? ⟨w.heap.size, 0, none⟩ = some (.string s) := by
          rw [hb2.cell (p := ⟨w.heap.size, 0, none⟩) (by simp)]; go_simp
        have f2 : w2.frozen? ⟨w.heap.size, 0, none⟩ = false := by
          rw [hb2.frozen (p := ⟨w.heap.size, 0, none⟩) (by simp)]; go_simp
        have hB2 : Below w.heap.size w w2 := below_step (by repeat (first | exact Below.refl _ _ | assumption | (refine Below.drew ?_) | (refine below_drewN ?_ _) | (refine Below.alloc ?_ (by first | omega | (simp; done) | (simp; omega)) _) | (refine Below.setCell ?_ (by first | omega | (simp; done) | (simp; omega)) _))) hb2
        have hs2 := hb2.size
        simp only [World.size_alloc] at hs2
        clear hb2
        gi_wp2
        (first | refine ⟨trivial, fun h => (Bool.false_ne_true h).elim, ?_⟩ | refine ⟨trivial, ?_⟩)
        refine (callsIn_wide.2 (impl_folded r _ (by omega))).mono ?_
        rintro e w3 ⟨rfl, hb3⟩
        have c3 := (hb3.cell (p := ⟨w.heap.size, 0, none⟩) (by show w.heap.size < _; omega)).trans c2
        have f3 := (hb3.frozen (p := ⟨w.heap.size, 0, none⟩) (by show w.heap.size < _; omega)).trans f2
        have hB3 := below_step hB2 hb3
        have hs3 := hb3.size
        clear c2 f2 hB2 hb3
        have hsz3 : w.heap.size < w3.heap.size := by omega
        gi_wp2
        have v0 : ((w3.setCell ⟨w.heap.size, 0, none⟩ (.string (foldS s))).alloc (.cells #[.int .i64 0] 2)).cell? ⟨w.heap.size, 0, none⟩ = some (.string (foldS s)) := by
          rw [World.cell?_of_block (Below.heap_alloc _ _ _ (by simp [World.setCell]; omega))]
          exact World.cell?_setCell_same' _ _ _ (by rw [c3]; rfl)
        have v1 : ((w3.setCell ⟨w.heap.size, 0, none⟩ (.string (foldS s))).alloc (.cells #[.int .i64 0] 2)).cell? ⟨w3.heap.size, 0, none⟩ = some (.int .i64 0) := by go_simp
        have vf : ((w3.setCell ⟨w.heap.size, 0, none⟩ (.string (foldS s))).alloc (.cells #[.int .i64 0] 2)).frozen? ⟨w3.heap.size, 0, none⟩ = false := by go_simp
        have hVB : Below w.heap.size w ((w3.setCell ⟨w.heap.size, 0, none⟩ (.string (foldS s))).alloc (.cells #[.int .i64 0] 2)) := (hB3.setCell (p := ⟨w.heap.size, 0, none⟩) (Nat.le_refl _) _).alloc (by simp [World.setCell]; omega) _
        have hV : ((w3.setCell ⟨w.heap.size, 0, none⟩ (.string (foldS s))).alloc (.cells #[.int .i64 0] 2)).heap.size = w3.heap.size + 1 := by simp [World.setCell]
        generalize ((w3.setCell ⟨w.heap.size, 0, none⟩ (.string (foldS s))).alloc (.cells #[.int .i64 0] 2)) = V at *
        have hbL : w.heap.size < w3.heap.size := by omega
        generalize w3.heap.size = bL at *
        have hVl : bL < V.heap.size := by omega
        clear hV c3 f3
        (first | refine ⟨trivial, fun h => (Bool.false_ne_true h).elim, ?_⟩ | refine ⟨trivial, ?_⟩)
        refine (callsIn_wide.2 (impl_columns (foldS s) (foldS r) 1 V)).mono ?_
        rintro e w1 ⟨rfl, rfl⟩
        obtain ⟨e1, e2, e3⟩ := heap_alloc3 V (.cells #[.string (foldS s)] 9) (.cells #[.string (foldS r)] 9) (.cells #[.int .i64 1] 2)
        have hBV : Below V.heap.size V (((V.alloc (.cells #[.string (foldS s)] 9)).alloc (.cells #[.string (foldS r)] 9)).alloc (.cells #[.int .i64 1] 2)) := (((Below.refl _ V).alloc (Nat.le_refl _) _).alloc (by simp) _).alloc (by simp; omega) _
        have hsz : (((V.alloc (.cells #[.string (foldS s)] 9)).alloc (.cells #[.string (foldS r)] 9)).alloc (.cells #[.int .i64 1] 2)).heap.size = V.heap.size + 3 := by simp
        have k2 : (((V.alloc (.cells #[.string (foldS s)] 9)).alloc (.cells #[.string (foldS r)] 9)).alloc (.cells #[.int .i64 1] 2)).cell? ⟨V.heap.size, 0, none⟩ = some (.string (foldS s)) := by rw [cell_of_row _ _ 0 _ _ _ e1]; rfl
        have k3 : (((V.alloc (.cells #[.string (foldS s)] 9)).alloc (.cells #[.string (foldS r)] 9)).alloc (.cells #[.int .i64 1] 2)).cell? ⟨V.heap.size + 1, 0, none⟩ = some (.string (foldS r)) := by rw [cell_of_row _ _ 0 _ _ _ e2]; rfl
        have k4 : (((V.alloc (.cells #[.string (foldS s)] 9)).alloc (.cells #[.string (foldS r)] 9)).alloc (.cells #[.int .i64 1] 2)).cell? ⟨V.heap.size + 2, 0, none⟩ = some (.int .i64 1) := by rw [cell_of_row _ _ 0 _ _ _ e3]; rfl
        generalize (((V.alloc (.cells #[.string (foldS s)] 9)).alloc (.cells #[.string (foldS r)] 9)).alloc (.cells #[.int .i64 1] 2)) = WR at *
        have k0 := (hBV.cell (p := ⟨w.heap.size, 0, none⟩) (by show w.heap.size < _; omega)).trans v0
        have k1 := (hBV.cell (p := ⟨bL, 0, none⟩) (by show bL < _; omega)).trans v1
        have g1 := (hBV.frozen (p := ⟨bL, 0, none⟩) (by show bL < _; omega)).trans vf
        have hBW := hVB.trans (hBV.mono hVB.size)
        have HSZ := Lib.hid hsz
        have hlV : V.heap.size < WR.heap.size := by omega
        clear hsz e1 e2 e3 v0 v1 vf
        gi_wp2
        refine range_law rfl (by omega) (gf := 92) (lb := #[boxV V.heap.size, boxV (V.heap.size + 1), boxV (V.heap.size + 2)]) rfl trivial (enters_of Try.func92 (by kernel_rfl) rfl)
          (columns_iter (foldS s) (foldS r) 1 V.heap.size (V.heap.size + 1) (V.heap.size + 2) _ (fun b => b < V.heap.size) WR hSs hRs (by decide) (by decide) k2 k3 k4 (by omega) (by omega) (by omega)) (fun x => rfl) (fun k x W l o o' h hl ho => handC_put _ _ _ k x W l o o' h hl ho)
          (fun k T W => (∀ b, T b ↔ b < V.heap.size) ∧ W.cell? ⟨bL, 0, none⟩ = some (.int .i64 (leastF (foldS s) (foldS r) k)) ∧ W.frozen? ⟨bL, 0, none⟩ = false ∧ W.cell? ⟨w.heap.size, 0, none⟩ = some (.string (foldS s)) ∧ Below w.heap.size w W ∧ V.heap.size ≤ W.heap.size)
          ?hJ (fun b h => by omega) ⟨fun b => Iff.rfl, k1, g1, k0, hBW, by omega⟩
          (fun x => { tmps := #[.string s, .string (foldS r), .bool true, boxV w.heap.size, undef, undef, .int .i64 0, boxV bL, undef, .slice (some ⟨x.2.1, 0, none⟩) ((foldS s).size + 1) x.2.2, .string s, .int .i64 s.size, .bool false, .bool false, .string r, .int .i64 r.size, .bool false, .bool false, .bool true, .string s, .string (foldS s), .string r, .string (foldS r), .string (foldS s), .string (foldS r), .func (.func 92) #[] #[boxV V.heap.size, boxV (V.heap.size + 1), boxV (V.heap.size + 2)], .int .i64 x.1, .slice (some ⟨x.2.1, 0, none⟩) ((foldS s).size + 1) x.2.2, undef, undef, undef, undef, undef, undef], defers := [] }) ?assign ?body ?done
        case hJ =>
          rintro k T A B ⟨hT, c1, f1, c0, hb, hl⟩ hAB
          refine ⟨hT, (hAB.cell (p := ⟨bL, 0, none⟩) ((hT _).2 (by show bL < _; omega)) (by show bL < _; omega)).trans c1, (hAB.frozen (p := ⟨bL, 0, none⟩) ((hT _).2 (by show bL < _; omega)) (by show bL < _; omega)).trans f1, (hAB.cell (p := ⟨w.heap.size, 0, none⟩) ((hT _).2 (by show w.heap.size < _; omega)) (by show w.heap.size < _; omega)).trans c0, hb.trans (hAB.below hb.size fun b h => (hT b).2 (by omega)), Nat.le_trans hl hAB.size⟩
        case assign =>
          intro l x W K hK
          unfold encC
          gi_wp2
          exact hK
        case body =>
          rintro l k T ⟨x1, g, cap⟩ W hk ⟨hT, c1, f1, c0, hb, hl⟩ ⟨hx1, hcol⟩
          have hc := hcol (foldS s).size (by omega)
          have hn1 : (((foldS s).size : Nat) : Int) < (((foldS s).size : Nat) : Int) + 1 := by omega
          have hbT : ¬ ¬ T bL := fun h => h ((hT bL).2 (by omega))
          simp only at hc
          clear hcol hx1
          gi_wp2
          refine ⟨T, ⟨hT, World.cell?_setCell_same' _ _ _ (by rw [c1]; rfl), by rw [World.frozen?_setCell]; exact f1, ?_, hb.setCell (p := ⟨bL, 0, none⟩) (by show _ ≤ bL; omega) _, ?_⟩, (On.refl _ W).setCell (p := ⟨bL, 0, none⟩) hbT _, fun b hb2 => ⟨.inl hb2, ?_⟩⟩
          · rw [← c0]
            exact World.cell?_of_block (Below.heap_setCell _ _ _ _ (by show w.heap.size ≠ bL; omega))
          · simp [World.setCell]; omega
          · have := (hT b).1 hb2; simp [World.setCell]; omega
        case done =>
          rintro D T W hD hTD ⟨hT, c1, f1, c0, hb, hl⟩ hK
          gi_wp2
          refine ⟨by simp, .inl ⟨_, _, rfl, run_takeDeferred hK, ?_⟩⟩
          exact ⟨_, results_tmp rfl _ _ _, by rw [HR.out, ← HFS.out, ← HFR.out]; rfl, hb.trans (belowK_b (w := w) (Nat.le_refl _) W D _ _ (by omega) hK rfl rfl)⟩
    · have HR := Lib.hid (distI_no (f := f) (s := s) (fun h => h2 h.2))
      have hd1 : decide (200 < (s.size : Int)) = false := by simp; omega
      have hd2 : decide (200 < (r.size : Int)) = true := by simp; omega
      gi_wp2
      exact ⟨_, results_tmp rfl _ _ _, by rw [HR.out]; rfl, (by repeat (first | exact Below.refl _ _ | assumption | (refine Below.drew ?_) | (refine below_drewN ?_ _) | (refine Below.alloc ?_ (by first | omega | (simp; done) | (simp; omega)) _) | (refine Below.setCell ?_ (by first | omega | (simp; done) | (simp; omega)) _)))⟩
  · have HR := Lib.hid (distI_no (f := f) (r := r) (fun h => h1 h.1))
    have hd1 : decide (200 < (s.size : Int)) = true := by simp; omega
    gi_wp2
    exact ⟨_, results_tmp rfl _ _ _, by rw [HR.out]; rfl, (by repeat (first | exact Below.refl _ _ | assumption | (refine Below.drew ?_) | (refine below_drewN ?_ _) | (refine Below.alloc ?_ (by first | omega | (simp; done) | (simp; omega)) _) | (refine Below.setCell ?_ (by first | omega | (simp; done) | (simp; omega)) _)))⟩
end Go.Proofs.Ytpniiaemgobaiaa

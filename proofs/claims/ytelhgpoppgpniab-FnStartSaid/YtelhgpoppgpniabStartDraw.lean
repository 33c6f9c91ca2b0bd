/-
  The drawer of StartOf (by wip/tools/mk_drawstart.py).
-/
import Derived.Test.YtelhgpoppgpniabL3Draw
import Derived.Test.YtelhgpoppgpniabL3EndsL
namespace Go.Proofs.Ytelhgpoppgpniab
open Go.RowKit
set_option linter.unusedVariables false
set_option maxRecDepth 100000
theorem below_lt {j n : Int} (h0 : n ≤ 1 → j = 0) (h1 : 1 < n → j < n) (hn : 1 ≤ n) : j < n := by
  by_cases h : 1 < n
  · exact h1 h
  · have := h0 (by omega); omega
set_option maxHeartbeats 4000000 in
theorem drawStartOf (a : Option Addr) (len cap : Nat) (z : List Int) (w : World) (hr : IsRow .u8 w a len cap z) (hl : len ≤ 1048576) :
    Calls Try.prog 19 #[.slice a len cap] w fun e w' => ∃ (s : ByteArray) (k : Int) (f : Bool) (t : ByteArray) (en : Int), e = .returned (.tuple #[.agg #[.string s, .int .i64 k, .bool f], .string t, .int .i64 en]) ∧ s.size ≤ 8 ∧ i64B k ∧ t.size ≤ 40 ∧ Below w.heap.size w w' := by
  go_enter Try.func19, Try.ntmps19
  go_wp2_with fail
  have hr2 := isRow_below hr ((Below.refl w.heap.size w).alloc (Nat.le_refl _) (.cells #[.string ⟨#[]⟩, .int .i64 0, .bool false] 34))
  have r0 := heap_alloc_new w (.cells #[.string ⟨#[]⟩, .int .i64 0, .bool false] 34)
  have hb0 : Below w.heap.size w (w.alloc (.cells #[.string ⟨#[]⟩, .int .i64 0, .bool false] 34)) := (by repeat (first | exact Below.refl _ _ | assumption | (refine Below.drew ?_) | (refine below_drewN ?_ _) | (refine Below.alloc ?_ (by first | omega | (simp; done) | (simp; omega)) _) | (refine Below.setCell ?_ (by first | omega | (simp; done) | (simp; omega)) _)))
  have z0 : w.heap.size < (w.alloc (.cells #[.string ⟨#[]⟩, .int .i64 0, .bool false] 34)).heap.size := by simp
  generalize (w.alloc (.cells #[.string ⟨#[]⟩, .int .i64 0, .bool false] 34)) = w0 at *
  refine (l1Open_any _ _ _ _ _ hr2 hl).mono ?_
  rintro e w1 ⟨rfl, hok, hb⟩
  have r1 := (hb.block w.heap.size (by omega)).trans r0
  have hb1 := hb0.trans (hb.mono hb0.size)
  have z1 := hok.lt
  clear r0
  go_wp2_with fail
  refine (rd_pattern _ _ _ _ _ _ hok).mono ?_
  rintro e w2 ⟨s, k, f, rfl, hs, hk, hok2, hg2⟩
  have r2 := (hg2.block w.heap.size (by omega) (by simp; omega)).trans r1
  have hb2 : Below w.heap.size w w2 := hb1.grown hg2 hb1.size (fun q e => by cases e; omega)
  have z2 := hg2.size
  clear r1 hg2 hb1 hb
  go_wp2_with fail
  have hokw3 := hok2.alloc (.cells #[.string s, .int .i64 k, .bool f] 34)
  have p3 := heap_alloc_new w2 (.cells #[.string s, .int .i64 k, .bool f] 34)
  have rw3 := (Below.heap_alloc w2 (.cells #[.string s, .int .i64 k, .bool f] 34) w.heap.size (by omega)).trans r2
  have hbw3 := hb2.alloc hb2.size (.cells #[.string s, .int .i64 k, .bool f] 34)
  have z3 : w2.heap.size < (w2.alloc (.cells #[.string s, .int .i64 k, .bool f] 34)).heap.size := by simp
  generalize (w2.alloc (.cells #[.string s, .int .i64 k, .bool f] 34)) = w3 at *
  generalize w2.heap.size = B at *
  generalize w0.heap.size = R at *
  have n0w3 : w3.cell? ⟨B, 0, none⟩ = some (.string s) := by rw [cell_of_row _ _ 0 _ _ _ p3]; rfl
  have n1w3 : w3.cell? ⟨B, 1, none⟩ = some (.int .i64 k) := by rw [cell_of_row _ _ 1 _ _ _ p3]; rfl
  have n2w3 : w3.cell? ⟨B, 2, none⟩ = some (.bool f) := by rw [cell_of_row _ _ 2 _ _ _ p3]; rfl
  clear r2 p3 hb0 hb2 hok2 hok hr2 hr
  have hne : B ≠ w.heap.size := by omega
  have hs100 : s.size ≤ 8 := by omega
  go_wp2_with fail
  refine (rd_text _ _ _ _ _ _ hokw3 s k f hs100).mono ?_
  rintro e w4 ⟨t, rfl, ht, hokw4, hg4⟩
  have n0w4 := hg4.cell (a := ⟨B, 0, none⟩) n0w3 (by simp; omega)
  have n1w4 := hg4.cell (a := ⟨B, 1, none⟩) n1w3 (by simp; omega)
  have n2w4 := hg4.cell (a := ⟨B, 2, none⟩) n2w3 (by simp; omega)
  have rw4 := (hg4.block w.heap.size (by omega) (by simp; omega)).trans rw3
  have hbw4 : Below w.heap.size w w4 := hbw3.grown hg4 hbw3.size (fun q e => by cases e; omega)
  have zw4 := hg4.size
  clear n0w3 n1w3 n2w3 rw3 hbw3 hokw3 hg4
  go_wp2_with fail
  refine (rd_once _ _ _ _ _ _ hokw4 _ (by omega) (by omega)).mono ?_
  rintro e w5 ⟨m5, rfl, hokw5, hg5⟩
  have n0w5 := hg5.cell (a := ⟨B, 0, none⟩) n0w4 (by simp; omega)
  have n1w5 := hg5.cell (a := ⟨B, 1, none⟩) n1w4 (by simp; omega)
  have n2w5 := hg5.cell (a := ⟨B, 2, none⟩) n2w4 (by simp; omega)
  have rw5 := (hg5.block w.heap.size (by omega) (by simp; omega)).trans rw4
  have hbw5 : Below w.heap.size w w5 := hbw4.grown hg5 hbw4.size (fun q e => by cases e; omega)
  have zw5 := hg5.size
  clear n0w4 n1w4 n2w4 rw4 hbw4 hokw4 hg5
  cases m5
  · go_wp2_with fail
    refine (spec_endsOf s k f t _ (by omega) (by omega)).mono ?_
    rintro e w6 ⟨a6, c6, cap6, rfl, hO6, hb6⟩
    have n0w6 := (hb6.cell (p := ⟨B, 0, none⟩) (by show B < _; omega)).trans n0w5
    have n1w6 := (hb6.cell (p := ⟨B, 1, none⟩) (by show B < _; omega)).trans n1w5
    have n2w6 := (hb6.cell (p := ⟨B, 2, none⟩) (by show B < _; omega)).trans n2w5
    have rw6 := (hb6.block w.heap.size (by omega)).trans rw5
    have hbw6 : Below w.heap.size w w6 := hbw5.trans (hb6.mono hbw5.size)
    have hokw6 := hokw5.below hb6
    have zw6 := hb6.size
    have hll := endsL_len s k f t
    have hc6 : c6 ≤ 1000 := by have := hO6.len; omega
    clear n0w5 n1w5 n2w5 rw5 hbw5 hokw5 hb6
    by_cases hn0 : c6 = 0
    · subst hn0
      clear hO6
      go_wp2_with fail
      have hokd := hokw6.below ((Below.refl w6.heap.size w6).drew)
      have hS3 := (⟨n0w6, n1w6, n2w6⟩ : w6.cell? ⟨B, 0, none⟩ = some (.string s) ∧ w6.cell? ⟨B, 1, none⟩ = some (.int .i64 k) ∧ w6.cell? ⟨B, 2, none⟩ = some (.bool f))
      have hS6 : (((w6.drew.setCell ⟨w.heap.size, 0, none⟩ (.string s)).setCell ⟨w.heap.size, 1, none⟩ (.int .i64 k)).setCell ⟨w.heap.size, 2, none⟩ (.bool f)).cell? ⟨B, 0, none⟩ = some (.string s) ∧ (((w6.drew.setCell ⟨w.heap.size, 0, none⟩ (.string s)).setCell ⟨w.heap.size, 1, none⟩ (.int .i64 k)).setCell ⟨w.heap.size, 2, none⟩ (.bool f)).cell? ⟨B, 1, none⟩ = some (.int .i64 k) ∧ (((w6.drew.setCell ⟨w.heap.size, 0, none⟩ (.string s)).setCell ⟨w.heap.size, 1, none⟩ (.int .i64 k)).setCell ⟨w.heap.size, 2, none⟩ (.bool f)).cell? ⟨B, 2, none⟩ = some (.bool f) := ⟨(set3_cell hne _ _ _).trans n0w6, (set3_cell hne _ _ _).trans n1w6, (set3_cell hne _ _ _).trans n2w6⟩
      go_region_held3 (fun W => W.cell? ⟨B, 0, none⟩ = some (.string s) ∧ W.cell? ⟨B, 1, none⟩ = some (.int .i64 k) ∧ W.cell? ⟨B, 2, none⟩ = some (.bool f)) (first | with_reducible exact hS3 | with_reducible exact hS4 | with_reducible exact hS5 | with_reducible exact hS6 | go_keep)
        (first | (go_at_call 54; (with_reducible refine (rd_below _ _ _ _ _ _ hokd _).mono ?_); rintro e wy ⟨j, rfl, ⟨hj0, _, hj1, _⟩, hoky, hgyd⟩; have hgy : w6.grownBy wy (some R) := ⟨hgyd.os, hgyd.tape, hgyd.output, hgyd.size, hgyd.block⟩; have hS4 := (⟨hgy.cell (a := ⟨B, 0, none⟩) n0w6 (by simp; omega), hgy.cell (a := ⟨B, 1, none⟩) n1w6 (by simp; omega), hgy.cell (a := ⟨B, 2, none⟩) n2w6 (by simp; omega)⟩ : wy.cell? ⟨B, 0, none⟩ = some (.string s) ∧ wy.cell? ⟨B, 1, none⟩ = some (.int .i64 k) ∧ wy.cell? ⟨B, 2, none⟩ = some (.bool f)); have hS5 : (((wy.setCell ⟨w.heap.size, 0, none⟩ (.string s)).setCell ⟨w.heap.size, 1, none⟩ (.int .i64 k)).setCell ⟨w.heap.size, 2, none⟩ (.bool f)).cell? ⟨B, 0, none⟩ = some (.string s) ∧ (((wy.setCell ⟨w.heap.size, 0, none⟩ (.string s)).setCell ⟨w.heap.size, 1, none⟩ (.int .i64 k)).setCell ⟨w.heap.size, 2, none⟩ (.bool f)).cell? ⟨B, 1, none⟩ = some (.int .i64 k) ∧ (((wy.setCell ⟨w.heap.size, 0, none⟩ (.string s)).setCell ⟨w.heap.size, 1, none⟩ (.int .i64 k)).setCell ⟨w.heap.size, 2, none⟩ (.bool f)).cell? ⟨B, 2, none⟩ = some (.bool f) := ⟨(set3_cell hne _ _ _).trans hS4.1, (set3_cell hne _ _ _).trans hS4.2.1, (set3_cell hne _ _ _).trans hS4.2.2⟩; have ry := (hgy.block w.heap.size (by omega) (by simp; omega)).trans rw6; have m0 : wy.cell? ⟨w.heap.size, 0, none⟩ = some (.string ⟨#[]⟩) := (by rw [cell_of_row _ _ 0 _ _ _ ry]; rfl); have m1 : wy.cell? ⟨w.heap.size, 1, none⟩ = some (.int .i64 0) := (by rw [cell_of_row _ _ 1 _ _ _ ry]; rfl); have m2 : wy.cell? ⟨w.heap.size, 2, none⟩ = some (.bool false) := (by rw [cell_of_row _ _ 2 _ _ _ ry]; rfl); have g0 := frozen_of_row _ _ 0 _ _ ry; have g1 := frozen_of_row _ _ 1 _ _ ry; have g2 := frozen_of_row _ _ 2 _ _ ry))
      have hby : Below w.heap.size w wy := hbw6.grown hgy hbw6.size (fun q e => by cases e; omega)
      clear hS4 hS5 hS6 hS3
      go_wp2_with fail
      exact bodyPost_ret (v := .tuple #[.agg #[.string s, .int .i64 k, .bool f], .string t, .int .i64 j]) (by simp [results, Try.results19, go_sem, m0, m1, m2]) rfl ⟨_, _, _, _, _, rfl, by omega, hk, by omega, ((hby.setCell (p := ⟨w.heap.size, 0, none⟩) (Nat.le_refl _) _).setCell (p := ⟨w.heap.size, 1, none⟩) (Nat.le_refl _) _).setCell (p := ⟨w.heap.size, 2, none⟩) (Nat.le_refl _) _⟩
    · have hn1 : decide ((0 : Int) < (c6 : Int)) = true := by simp; omega
      go_wp2_with fail
      refine (rd_once _ _ _ _ _ _ hokw6 _ (by omega) (by omega)).mono ?_
      rintro e w7 ⟨m7, rfl, hokw7, hg7⟩
      have n0w7 := hg7.cell (a := ⟨B, 0, none⟩) n0w6 (by simp; omega)
      have n1w7 := hg7.cell (a := ⟨B, 1, none⟩) n1w6 (by simp; omega)
      have n2w7 := hg7.cell (a := ⟨B, 2, none⟩) n2w6 (by simp; omega)
      have rw7 := (hg7.block w.heap.size (by omega) (by simp; omega)).trans rw6
      have hbw7 : Below w.heap.size w w7 := hbw6.grown hg7 hbw6.size (fun q e => by cases e; omega)
      have zw7 := hg7.size
      have hR6 : R < w6.heap.size := by omega
      have hO7 : OwnM 42 2 w7 w5.heap.size a6 c6 cap6 (endsL s k f t) := ⟨hO6.1, hO6.2.kept hg7 (.inr (fun e => by have := (hO6.2.lt _ e).1; omega))⟩
      clear n0w6 n1w6 n2w6 rw6 hbw6 hokw6 hg7 hO6
      cases m7
      · obtain ⟨g9, rfl, hg91, hg92⟩ := hO7.head 0 (by omega)
        have HO7 := Lib.hid hO7
        clear hO7
        go_wp2_with fail
        have hokd := hokw7.below ((Below.refl w7.heap.size w7).drew)
        have hS3 := (⟨n0w7, n1w7, n2w7⟩ : w7.cell? ⟨B, 0, none⟩ = some (.string s) ∧ w7.cell? ⟨B, 1, none⟩ = some (.int .i64 k) ∧ w7.cell? ⟨B, 2, none⟩ = some (.bool f))
        have hS6 : (((w7.drew.setCell ⟨w.heap.size, 0, none⟩ (.string s)).setCell ⟨w.heap.size, 1, none⟩ (.int .i64 k)).setCell ⟨w.heap.size, 2, none⟩ (.bool f)).cell? ⟨B, 0, none⟩ = some (.string s) ∧ (((w7.drew.setCell ⟨w.heap.size, 0, none⟩ (.string s)).setCell ⟨w.heap.size, 1, none⟩ (.int .i64 k)).setCell ⟨w.heap.size, 2, none⟩ (.bool f)).cell? ⟨B, 1, none⟩ = some (.int .i64 k) ∧ (((w7.drew.setCell ⟨w.heap.size, 0, none⟩ (.string s)).setCell ⟨w.heap.size, 1, none⟩ (.int .i64 k)).setCell ⟨w.heap.size, 2, none⟩ (.bool f)).cell? ⟨B, 2, none⟩ = some (.bool f) := ⟨(set3_cell hne _ _ _).trans n0w7, (set3_cell hne _ _ _).trans n1w7, (set3_cell hne _ _ _).trans n2w7⟩
        go_region_law ((go_simp; (go_at_call 54; (with_reducible refine (rd_below _ _ _ _ _ _ hokd _).mono ?_); rintro e wy ⟨j9, rfl, ⟨hj0, hjz, hj1, _⟩, hoky, hgyd⟩; have hgy : w7.grownBy wy (some R) := ⟨hgyd.os, hgyd.tape, hgyd.output, hgyd.size, hgyd.block⟩; have hS4 := (⟨hgy.cell (a := ⟨B, 0, none⟩) n0w7 (by simp; omega), hgy.cell (a := ⟨B, 1, none⟩) n1w7 (by simp; omega), hgy.cell (a := ⟨B, 2, none⟩) n2w7 (by simp; omega)⟩ : wy.cell? ⟨B, 0, none⟩ = some (.string s) ∧ wy.cell? ⟨B, 1, none⟩ = some (.int .i64 k) ∧ wy.cell? ⟨B, 2, none⟩ = some (.bool f)); have hS5 : (((wy.setCell ⟨w.heap.size, 0, none⟩ (.string s)).setCell ⟨w.heap.size, 1, none⟩ (.int .i64 k)).setCell ⟨w.heap.size, 2, none⟩ (.bool f)).cell? ⟨B, 0, none⟩ = some (.string s) ∧ (((wy.setCell ⟨w.heap.size, 0, none⟩ (.string s)).setCell ⟨w.heap.size, 1, none⟩ (.int .i64 k)).setCell ⟨w.heap.size, 2, none⟩ (.bool f)).cell? ⟨B, 1, none⟩ = some (.int .i64 k) ∧ (((wy.setCell ⟨w.heap.size, 0, none⟩ (.string s)).setCell ⟨w.heap.size, 1, none⟩ (.int .i64 k)).setCell ⟨w.heap.size, 2, none⟩ (.bool f)).cell? ⟨B, 2, none⟩ = some (.bool f) := ⟨(set3_cell hne _ _ _).trans hS4.1, (set3_cell hne _ _ _).trans hS4.2.1, (set3_cell hne _ _ _).trans hS4.2.2⟩; have ry := (hgy.block w.heap.size (by omega) (by simp; omega)).trans rw7; have m0 : wy.cell? ⟨w.heap.size, 0, none⟩ = some (.string ⟨#[]⟩) := (by rw [cell_of_row _ _ 0 _ _ _ ry]; rfl); have m1 : wy.cell? ⟨w.heap.size, 1, none⟩ = some (.int .i64 0) := (by rw [cell_of_row _ _ 1 _ _ _ ry]; rfl); have m2 : wy.cell? ⟨w.heap.size, 2, none⟩ = some (.bool false) := (by rw [cell_of_row _ _ 2 _ _ _ ry]; rfl); have g0 := frozen_of_row _ _ 0 _ _ ry; have g1 := frozen_of_row _ _ 1 _ _ ry; have g2 := frozen_of_row _ _ 2 _ _ ry; have hj2 : j9 < (c6 : Int) := below_lt hjz hj1 (by omega); clear hj1 hjz; obtain ⟨j, rfl⟩ := Int.eq_ofNat_of_zero_le hj0; have hOy : OwnM 42 2 wy w5.heap.size (some ⟨g9, 0, none⟩) c6 cap6 (endsL s k f t) := ⟨HO7.out.1, HO7.out.2.kept hgy (.inr (fun e => by have := (HO7.out.2.lt _ e).1; omega))⟩; have c8 := hOy.cell (j * 2) (by omega))))
        all_goals
          have hby : Below w.heap.size w wy := hbw7.grown hgy hbw7.size (fun q e => by cases e; omega)
          clear hS4 hS5 hS6 hS3
          go_wp2_with fail
          exact bodyPost_ret (v := .tuple #[.agg #[.string s, .int .i64 k, .bool f], .string t, .int .i64 (intAt (endsL s k f t) (j * 2))]) (by simp [results, Try.results19, go_sem, m0, m1, m2]) rfl ⟨_, _, _, _, _, rfl, by omega, hk, by omega, ((hby.setCell (p := ⟨w.heap.size, 0, none⟩) (Nat.le_refl _) _).setCell (p := ⟨w.heap.size, 1, none⟩) (Nat.le_refl _) _).setCell (p := ⟨w.heap.size, 2, none⟩) (Nat.le_refl _) _⟩
      · clear hO7
        go_wp2_with fail
        have hokd := hokw7.below ((Below.refl w7.heap.size w7).drew)
        have hS3 := (⟨n0w7, n1w7, n2w7⟩ : w7.cell? ⟨B, 0, none⟩ = some (.string s) ∧ w7.cell? ⟨B, 1, none⟩ = some (.int .i64 k) ∧ w7.cell? ⟨B, 2, none⟩ = some (.bool f))
        have hS6 : (((w7.drew.setCell ⟨w.heap.size, 0, none⟩ (.string s)).setCell ⟨w.heap.size, 1, none⟩ (.int .i64 k)).setCell ⟨w.heap.size, 2, none⟩ (.bool f)).cell? ⟨B, 0, none⟩ = some (.string s) ∧ (((w7.drew.setCell ⟨w.heap.size, 0, none⟩ (.string s)).setCell ⟨w.heap.size, 1, none⟩ (.int .i64 k)).setCell ⟨w.heap.size, 2, none⟩ (.bool f)).cell? ⟨B, 1, none⟩ = some (.int .i64 k) ∧ (((w7.drew.setCell ⟨w.heap.size, 0, none⟩ (.string s)).setCell ⟨w.heap.size, 1, none⟩ (.int .i64 k)).setCell ⟨w.heap.size, 2, none⟩ (.bool f)).cell? ⟨B, 2, none⟩ = some (.bool f) := ⟨(set3_cell hne _ _ _).trans n0w7, (set3_cell hne _ _ _).trans n1w7, (set3_cell hne _ _ _).trans n2w7⟩
        go_region_held3 (fun W => W.cell? ⟨B, 0, none⟩ = some (.string s) ∧ W.cell? ⟨B, 1, none⟩ = some (.int .i64 k) ∧ W.cell? ⟨B, 2, none⟩ = some (.bool f)) (first | with_reducible exact hS3 | with_reducible exact hS4 | with_reducible exact hS5 | with_reducible exact hS6 | go_keep)
          (first | (go_at_call 54; (with_reducible refine (rd_below _ _ _ _ _ _ hokd _).mono ?_); rintro e wy ⟨j, rfl, ⟨hj0, _, hj1, _⟩, hoky, hgyd⟩; have hgy : w7.grownBy wy (some R) := ⟨hgyd.os, hgyd.tape, hgyd.output, hgyd.size, hgyd.block⟩; have hS4 := (⟨hgy.cell (a := ⟨B, 0, none⟩) n0w7 (by simp; omega), hgy.cell (a := ⟨B, 1, none⟩) n1w7 (by simp; omega), hgy.cell (a := ⟨B, 2, none⟩) n2w7 (by simp; omega)⟩ : wy.cell? ⟨B, 0, none⟩ = some (.string s) ∧ wy.cell? ⟨B, 1, none⟩ = some (.int .i64 k) ∧ wy.cell? ⟨B, 2, none⟩ = some (.bool f)); have hS5 : (((wy.setCell ⟨w.heap.size, 0, none⟩ (.string s)).setCell ⟨w.heap.size, 1, none⟩ (.int .i64 k)).setCell ⟨w.heap.size, 2, none⟩ (.bool f)).cell? ⟨B, 0, none⟩ = some (.string s) ∧ (((wy.setCell ⟨w.heap.size, 0, none⟩ (.string s)).setCell ⟨w.heap.size, 1, none⟩ (.int .i64 k)).setCell ⟨w.heap.size, 2, none⟩ (.bool f)).cell? ⟨B, 1, none⟩ = some (.int .i64 k) ∧ (((wy.setCell ⟨w.heap.size, 0, none⟩ (.string s)).setCell ⟨w.heap.size, 1, none⟩ (.int .i64 k)).setCell ⟨w.heap.size, 2, none⟩ (.bool f)).cell? ⟨B, 2, none⟩ = some (.bool f) := ⟨(set3_cell hne _ _ _).trans hS4.1, (set3_cell hne _ _ _).trans hS4.2.1, (set3_cell hne _ _ _).trans hS4.2.2⟩; have ry := (hgy.block w.heap.size (by omega) (by simp; omega)).trans rw7; have m0 : wy.cell? ⟨w.heap.size, 0, none⟩ = some (.string ⟨#[]⟩) := (by rw [cell_of_row _ _ 0 _ _ _ ry]; rfl); have m1 : wy.cell? ⟨w.heap.size, 1, none⟩ = some (.int .i64 0) := (by rw [cell_of_row _ _ 1 _ _ _ ry]; rfl); have m2 : wy.cell? ⟨w.heap.size, 2, none⟩ = some (.bool false) := (by rw [cell_of_row _ _ 2 _ _ _ ry]; rfl); have g0 := frozen_of_row _ _ 0 _ _ ry; have g1 := frozen_of_row _ _ 1 _ _ ry; have g2 := frozen_of_row _ _ 2 _ _ ry))
        have hby : Below w.heap.size w wy := hbw7.grown hgy hbw7.size (fun q e => by cases e; omega)
        clear hS4 hS5 hS6 hS3
        go_wp2_with fail
        exact bodyPost_ret (v := .tuple #[.agg #[.string s, .int .i64 k, .bool f], .string t, .int .i64 j]) (by simp [results, Try.results19, go_sem, m0, m1, m2]) rfl ⟨_, _, _, _, _, rfl, by omega, hk, by omega, ((hby.setCell (p := ⟨w.heap.size, 0, none⟩) (Nat.le_refl _) _).setCell (p := ⟨w.heap.size, 1, none⟩) (Nat.le_refl _) _).setCell (p := ⟨w.heap.size, 2, none⟩) (Nat.le_refl _) _⟩
  · go_wp2_with fail
    have hokd := hokw5.below ((Below.refl w5.heap.size w5).drew)
    have hS3 := (⟨n0w5, n1w5, n2w5⟩ : w5.cell? ⟨B, 0, none⟩ = some (.string s) ∧ w5.cell? ⟨B, 1, none⟩ = some (.int .i64 k) ∧ w5.cell? ⟨B, 2, none⟩ = some (.bool f))
    have hS6 : (((w5.drew.setCell ⟨w.heap.size, 0, none⟩ (.string s)).setCell ⟨w.heap.size, 1, none⟩ (.int .i64 k)).setCell ⟨w.heap.size, 2, none⟩ (.bool f)).cell? ⟨B, 0, none⟩ = some (.string s) ∧ (((w5.drew.setCell ⟨w.heap.size, 0, none⟩ (.string s)).setCell ⟨w.heap.size, 1, none⟩ (.int .i64 k)).setCell ⟨w.heap.size, 2, none⟩ (.bool f)).cell? ⟨B, 1, none⟩ = some (.int .i64 k) ∧ (((w5.drew.setCell ⟨w.heap.size, 0, none⟩ (.string s)).setCell ⟨w.heap.size, 1, none⟩ (.int .i64 k)).setCell ⟨w.heap.size, 2, none⟩ (.bool f)).cell? ⟨B, 2, none⟩ = some (.bool f) := ⟨(set3_cell hne _ _ _).trans n0w5, (set3_cell hne _ _ _).trans n1w5, (set3_cell hne _ _ _).trans n2w5⟩
    go_region_held3 (fun W => W.cell? ⟨B, 0, none⟩ = some (.string s) ∧ W.cell? ⟨B, 1, none⟩ = some (.int .i64 k) ∧ W.cell? ⟨B, 2, none⟩ = some (.bool f)) (first | with_reducible exact hS3 | with_reducible exact hS4 | with_reducible exact hS5 | with_reducible exact hS6 | go_keep)
      (first | (go_at_call 59; (with_reducible refine (rd_off _ _ _ _ _ _ hokd _ _ (by omega) (by omega) (by omega) (by omega)).mono ?_); rintro e wy ⟨j, rfl, hj, hoky, hgyd⟩; have hgy : w5.grownBy wy (some R) := ⟨hgyd.os, hgyd.tape, hgyd.output, hgyd.size, hgyd.block⟩; have hS4 := (⟨hgy.cell (a := ⟨B, 0, none⟩) n0w5 (by simp; omega), hgy.cell (a := ⟨B, 1, none⟩) n1w5 (by simp; omega), hgy.cell (a := ⟨B, 2, none⟩) n2w5 (by simp; omega)⟩ : wy.cell? ⟨B, 0, none⟩ = some (.string s) ∧ wy.cell? ⟨B, 1, none⟩ = some (.int .i64 k) ∧ wy.cell? ⟨B, 2, none⟩ = some (.bool f)); have hS5 : (((wy.setCell ⟨w.heap.size, 0, none⟩ (.string s)).setCell ⟨w.heap.size, 1, none⟩ (.int .i64 k)).setCell ⟨w.heap.size, 2, none⟩ (.bool f)).cell? ⟨B, 0, none⟩ = some (.string s) ∧ (((wy.setCell ⟨w.heap.size, 0, none⟩ (.string s)).setCell ⟨w.heap.size, 1, none⟩ (.int .i64 k)).setCell ⟨w.heap.size, 2, none⟩ (.bool f)).cell? ⟨B, 1, none⟩ = some (.int .i64 k) ∧ (((wy.setCell ⟨w.heap.size, 0, none⟩ (.string s)).setCell ⟨w.heap.size, 1, none⟩ (.int .i64 k)).setCell ⟨w.heap.size, 2, none⟩ (.bool f)).cell? ⟨B, 2, none⟩ = some (.bool f) := ⟨(set3_cell hne _ _ _).trans hS4.1, (set3_cell hne _ _ _).trans hS4.2.1, (set3_cell hne _ _ _).trans hS4.2.2⟩; have ry := (hgy.block w.heap.size (by omega) (by simp; omega)).trans rw5; have m0 : wy.cell? ⟨w.heap.size, 0, none⟩ = some (.string ⟨#[]⟩) := (by rw [cell_of_row _ _ 0 _ _ _ ry]; rfl); have m1 : wy.cell? ⟨w.heap.size, 1, none⟩ = some (.int .i64 0) := (by rw [cell_of_row _ _ 1 _ _ _ ry]; rfl); have m2 : wy.cell? ⟨w.heap.size, 2, none⟩ = some (.bool false) := (by rw [cell_of_row _ _ 2 _ _ _ ry]; rfl); have g0 := frozen_of_row _ _ 0 _ _ ry; have g1 := frozen_of_row _ _ 1 _ _ ry; have g2 := frozen_of_row _ _ 2 _ _ ry))
    have hby : Below w.heap.size w wy := hbw5.grown hgy hbw5.size (fun q e => by cases e; omega)
    clear hS4 hS5 hS6 hS3
    go_wp2_with fail
    exact bodyPost_ret (v := .tuple #[.agg #[.string s, .int .i64 k, .bool f], .string t, .int .i64 j]) (by simp [results, Try.results19, go_sem, m0, m1, m2]) rfl ⟨_, _, _, _, _, rfl, by omega, hk, by omega, ((hby.setCell (p := ⟨w.heap.size, 0, none⟩) (Nat.le_refl _) _).setCell (p := ⟨w.heap.size, 1, none⟩) (Nat.le_refl _) _).setCell (p := ⟨w.heap.size, 2, none⟩) (Nat.le_refl _) _⟩
end Go.Proofs.Ytelhgpoppgpniab

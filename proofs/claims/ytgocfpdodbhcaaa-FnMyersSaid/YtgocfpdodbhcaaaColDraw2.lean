/-
  Chapter 3: what DrawFirstCol, DrawNextCol and DrawColOk hand over.
-/
import Derived.Test.YtgocfpdodbhcaaaColDraw
namespace Go.Proofs.Ytgocfpdodbhcaaa
open Go.RowKit
set_option linter.unusedVariables false
set_option maxRecDepth 100000
theorem set3_turn (X : World) (B : Nat) (x y z : Value) : X.grownBy (((X.setCell ⟨B, 0, none⟩ x).setCell ⟨B, 1, none⟩ y).setCell ⟨B, 2, none⟩ z) (some B) :=
  grownBy_trans (grownBy_setCell X B 0 x) (grownBy_trans (grownBy_setCell _ B 1 y) (grownBy_setCell _ B 2 z))
theorem drawFirstCol (a : Option Addr) (len cap : Nat) (z : List Int) (w : World) (hr : IsRow .u8 w a len cap z) (hl : len ≤ 1048576) :
    Calls Try.prog 31 #[.slice a len cap] w fun e w' => ∃ (s : ByteArray) (k : Int) (f : Bool), e = .returned (.agg #[.string s, .int .i64 k, .bool f]) ∧ s.size ≤ 8 ∧ i64B k ∧ Below w.heap.size w w' := by
  go_enter Try.func31, Try.ntmps31
  go_wp2_with fail
  refine (drawPatternOk _ _ _ _ _ (isRow_below hr (by repeat (first | exact Below.refl _ _ | assumption | (refine Below.drew ?_) | (refine below_drewN ?_ _) | (refine Below.alloc ?_ (by first | omega | (simp; done) | (simp; omega)) _) | (refine Below.setCell ?_ (by first | omega | (simp; done) | (simp; omega)) _)))) hl).mono ?_
  rintro e w1 ⟨s, k, f, rfl, hs, hk, hb1⟩
  obtain ⟨hc_w1, hf_w1⟩ := bcell hb1; have HT_w1 : Below w.heap.size w w1 := below_step (by repeat (first | exact Below.refl _ _ | assumption | (refine Below.drew ?_) | (refine below_drewN ?_ _) | (refine Below.alloc ?_ (by first | omega | (simp; done) | (simp; omega)) _) | (refine Below.setCell ?_ (by first | omega | (simp; done) | (simp; omega)) _))) hb1; have hz_w_w1 : w.heap.size < w1.heap.size := (by have h1 := hb1.size; (try simp at h1); omega)
  go_wp2_with fail
  exact bodyPost_ret (v := .agg #[.string s, .int .i64 k, .bool f]) (by simp [results, Try.results31, go_sem, hc_w1]) rfl ⟨_, _, _, rfl, hs, hk, (by repeat (first | exact Below.refl _ _ | assumption | (refine Below.drew ?_) | (refine below_drewN ?_ _) | (refine Below.alloc ?_ (by first | omega | (simp; done) | (simp; omega)) _) | (refine Below.setCell ?_ (by first | omega | (simp; done) | (simp; omega)) _)))⟩
set_option maxHeartbeats 1000000 in
theorem drawNextCol (a : Option Addr) (len cap : Nat) (z : List Int) (w : World) (hr : IsRow .u8 w a len cap z) (hl : len ≤ 1048576) :
    Calls Try.prog 28 #[.slice a len cap] w fun e w' => ∃ (s : ByteArray) (k : Int) (f : Bool) (a' : Option Addr) (n cap' : Nat) (b : Int), e = .returned (.tuple #[.agg #[.string s, .int .i64 k, .bool f], .slice a' n cap', .int .i64 b]) ∧ s.size ≤ 8 ∧ i64B k ∧ i64B b ∧ (∃ L : List Int, OwnN w' w.heap.size a' n cap' L ∧ ColFine s k L) ∧ Below w.heap.size w w' := by
  go_enter Try.func28, Try.ntmps28
  go_wp2_with fail
  have hr2 := isRow_below hr ((Below.refl w.heap.size w).alloc (Nat.le_refl _) (.cells #[.string ⟨#[]⟩, .int .i64 0, .bool false] 31))
  have r0 := heap_alloc_new w (.cells #[.string ⟨#[]⟩, .int .i64 0, .bool false] 31)
  have hb0 : Below w.heap.size w (w.alloc (.cells #[.string ⟨#[]⟩, .int .i64 0, .bool false] 31)) := (by repeat (first | exact Below.refl _ _ | assumption | (refine Below.drew ?_) | (refine below_drewN ?_ _) | (refine Below.alloc ?_ (by first | omega | (simp; done) | (simp; omega)) _) | (refine Below.setCell ?_ (by first | omega | (simp; done) | (simp; omega)) _)))
  have z0 : w.heap.size < (w.alloc (.cells #[.string ⟨#[]⟩, .int .i64 0, .bool false] 31)).heap.size := by simp
  generalize (w.alloc (.cells #[.string ⟨#[]⟩, .int .i64 0, .bool false] 31)) = w0 at *
  refine (l1Open_any _ _ _ _ _ hr2 hl).mono ?_
  rintro e w1 ⟨rfl, hok, hb⟩
  have r1 := (hb.block w.heap.size (by omega)).trans r0
  have hb1 := hb0.trans (hb.mono hb0.size)
  have z1 := hok.lt
  clear r0
  go_wp2_with fail
  refine (rd_pattern _ _ _ _ _ _ hok).mono ?_
  rintro e w2 ⟨s, k, f, rfl, hs, hk, hok2, hg2⟩
  have r2 := (hg2.block w.heap.size (by omega) (by simp; omega)).trans r1
  have hb2 : Below w.heap.size w w2 := hb1.grown hg2 hb1.size (fun q e => by cases e; omega)
  have z2 := hg2.size
  clear r1 hg2 hb1 hb
  go_wp2_with fail
  have hok3 := hok2.alloc (.cells #[.string s, .int .i64 k, .bool f] 31)
  have p3 := heap_alloc_new w2 (.cells #[.string s, .int .i64 k, .bool f] 31)
  have r3 := (Below.heap_alloc w2 (.cells #[.string s, .int .i64 k, .bool f] 31) w.heap.size (by omega)).trans r2
  have hb3 := hb2.alloc hb2.size (.cells #[.string s, .int .i64 k, .bool f] 31)
  have z3 : w2.heap.size < (w2.alloc (.cells #[.string s, .int .i64 k, .bool f] 31)).heap.size := by simp
  generalize (w2.alloc (.cells #[.string s, .int .i64 k, .bool f] 31)) = w3 at *
  generalize w2.heap.size = B at *
  generalize w0.heap.size = R at *
  clear r2 hb0 hb2 hok2 hok hr2 hr
  refine (rd_column _ _ _ _ _ _ hok3 s k f hs).mono ?_
  rintro e w4 ⟨a', n, cap', rfl, L, hO, hF, hok4, hg4⟩
  have p4 := (hg4.block B (by omega) (by simp; omega)).trans p3
  have r4 := (hg4.block w.heap.size (by omega) (by simp; omega)).trans r3
  have hb4 : Below w.heap.size w w4 := hb3.grown hg4 hb3.size (fun q e => by cases e; omega)
  have z4 := hg4.size
  have z34 : w.heap.size < w3.heap.size := by omega
  have hO4 := hO.mono (C := w.heap.size + 1) (by omega)
  have hRR : R < w3.heap.size := by omega
  have n0 : w4.cell? ⟨B, 0, none⟩ = some (.string s) := by rw [cell_of_row _ _ 0 _ _ _ p4]; rfl
  have n1 : w4.cell? ⟨B, 1, none⟩ = some (.int .i64 k) := by rw [cell_of_row _ _ 1 _ _ _ p4]; rfl
  have n2 : w4.cell? ⟨B, 2, none⟩ = some (.bool f) := by rw [cell_of_row _ _ 2 _ _ _ p4]; rfl
  have hne : B ≠ w.heap.size := by omega
  have HF := Lib.hid hF
  clear p3 r3 hb3 hg4 hF hok3 p4
  go_wp2_with fail
  have hokd := hok4.below ((Below.refl w4.heap.size w4).drew)
  have hOd := hO.kept ((Below.refl w4.heap.size w4).drew)
  have hS4 : w4.drew.cell? ⟨B, 0, none⟩ = some (.string s) ∧ w4.drew.cell? ⟨B, 1, none⟩ = some (.int .i64 k) ∧ w4.drew.cell? ⟨B, 2, none⟩ = some (.bool f) := ⟨n0, n1, n2⟩
  go_region_held3 (fun W => W.cell? ⟨B, 0, none⟩ = some (.string s) ∧ W.cell? ⟨B, 1, none⟩ = some (.int .i64 k) ∧ W.cell? ⟨B, 2, none⟩ = some (.bool f)) (first | with_reducible exact hS4 | with_reducible exact hS5 | with_reducible exact hS6 | go_keep)
    (first | (go_at_call 123; (with_reducible refine (rd_any _ _ _ _ _ _ hokd).mono ?_); rintro e w5 ⟨b, rfl, hbb, hok5, hg5⟩; have hS5 := (⟨hg5.cell (a := ⟨B, 0, none⟩) n0 (by simp; omega), hg5.cell (a := ⟨B, 1, none⟩) n1 (by simp; omega), hg5.cell (a := ⟨B, 2, none⟩) n2 (by simp; omega)⟩ : w5.cell? ⟨B, 0, none⟩ = some (.string s) ∧ w5.cell? ⟨B, 1, none⟩ = some (.int .i64 k) ∧ w5.cell? ⟨B, 2, none⟩ = some (.bool f)); have hS6 : (((w5.setCell ⟨w.heap.size, 0, none⟩ (.string s)).setCell ⟨w.heap.size, 1, none⟩ (.int .i64 k)).setCell ⟨w.heap.size, 2, none⟩ (.bool f)).cell? ⟨B, 0, none⟩ = some (.string s) ∧ (((w5.setCell ⟨w.heap.size, 0, none⟩ (.string s)).setCell ⟨w.heap.size, 1, none⟩ (.int .i64 k)).setCell ⟨w.heap.size, 2, none⟩ (.bool f)).cell? ⟨B, 1, none⟩ = some (.int .i64 k) ∧ (((w5.setCell ⟨w.heap.size, 0, none⟩ (.string s)).setCell ⟨w.heap.size, 1, none⟩ (.int .i64 k)).setCell ⟨w.heap.size, 2, none⟩ (.bool f)).cell? ⟨B, 2, none⟩ = some (.bool f) := ⟨(set3_cell hne _ _ _).trans hS5.1, (set3_cell hne _ _ _).trans hS5.2.1, (set3_cell hne _ _ _).trans hS5.2.2⟩; have r5 := (hg5.block w.heap.size (by simp; omega) (by simp; omega)).trans r4; have m0 : w5.cell? ⟨w.heap.size, 0, none⟩ = some (.string ⟨#[]⟩) := (by rw [cell_of_row _ _ 0 _ _ _ r5]; rfl); have m1 : w5.cell? ⟨w.heap.size, 1, none⟩ = some (.int .i64 0) := (by rw [cell_of_row _ _ 1 _ _ _ r5]; rfl); have m2 : w5.cell? ⟨w.heap.size, 2, none⟩ = some (.bool false) := (by rw [cell_of_row _ _ 2 _ _ _ r5]; rfl); have g0 := frozen_of_row _ _ 0 _ _ r5; have g1 := frozen_of_row _ _ 1 _ _ r5; have g2 := frozen_of_row _ _ 2 _ _ r5))
  have hb5 : Below w.heap.size w w5 := hb4.drew.grown hg5 hb4.size (fun q e => by cases e; omega)
  have hO5 := (hOd.kept_hi hg5 (fun q e => by cases e; omega)).kept_hi (set3_turn w5 w.heap.size (.string s) (.int .i64 k) (.bool f)) (fun q e => by cases e; omega)
  have hO6 := hO5.mono (C := w.heap.size) (by omega)
  clear hS4 hS5 hS6
  go_wp2_with fail
  exact bodyPost_ret (v := .tuple #[.agg #[.string s, .int .i64 k, .bool f], .slice a' n cap', .int .i64 b]) (by simp [results, Try.results28, go_sem, m0, m1, m2]) rfl ⟨_, _, _, _, _, _, _, rfl, hs, hk, hbb, ⟨L, hO6, HF.out⟩, ((hb5.setCell (p := ⟨w.heap.size, 0, none⟩) (Nat.le_refl _) _).setCell (p := ⟨w.heap.size, 1, none⟩) (Nat.le_refl _) _).setCell (p := ⟨w.heap.size, 2, none⟩) (Nat.le_refl _) _⟩
set_option maxHeartbeats 1000000 in
theorem drawColOk (a : Option Addr) (len cap : Nat) (z : List Int) (w : World) (hr : IsRow .u8 w a len cap z) (hl : len ≤ 1048576) :
    Calls Try.prog 30 #[.slice a len cap] w fun e w' => ∃ (s : ByteArray) (k : Int) (f : Bool) (a' : Option Addr) (n cap' : Nat), e = .returned (.tuple #[.agg #[.string s, .int .i64 k, .bool f], .slice a' n cap']) ∧ s.size ≤ 8 ∧ i64B k ∧ (∃ L : List Int, OwnN w' w.heap.size a' n cap' L ∧ n ≤ 21 ∧ ∀ i, i < n → i64B (intAt L i)) ∧ Below w.heap.size w w' := by
  go_enter Try.func30, Try.ntmps30
  go_wp2_with fail
  have hr2 := isRow_below hr ((Below.refl w.heap.size w).alloc (Nat.le_refl _) (.cells #[.string ⟨#[]⟩, .int .i64 0, .bool false] 31))
  have r0 := heap_alloc_new w (.cells #[.string ⟨#[]⟩, .int .i64 0, .bool false] 31)
  have hb0 : Below w.heap.size w (w.alloc (.cells #[.string ⟨#[]⟩, .int .i64 0, .bool false] 31)) := (by repeat (first | exact Below.refl _ _ | assumption | (refine Below.drew ?_) | (refine below_drewN ?_ _) | (refine Below.alloc ?_ (by first | omega | (simp; done) | (simp; omega)) _) | (refine Below.setCell ?_ (by first | omega | (simp; done) | (simp; omega)) _)))
  have z0 : w.heap.size < (w.alloc (.cells #[.string ⟨#[]⟩, .int .i64 0, .bool false] 31)).heap.size := by simp
  generalize (w.alloc (.cells #[.string ⟨#[]⟩, .int .i64 0, .bool false] 31)) = w0 at *
  refine (l1Open_any _ _ _ _ _ hr2 hl).mono ?_
  rintro e w1 ⟨rfl, hok, hb⟩
  have r1 := (hb.block w.heap.size (by omega)).trans r0
  have hb1 := hb0.trans (hb.mono hb0.size)
  have z1 := hok.lt
  clear r0
  go_wp2_with fail
  refine (rd_pattern _ _ _ _ _ _ hok).mono ?_
  rintro e w2 ⟨s, k, f, rfl, hs, hk, hok2, hg2⟩
  have r2 := (hg2.block w.heap.size (by omega) (by simp; omega)).trans r1
  have hb2 : Below w.heap.size w w2 := hb1.grown hg2 hb1.size (fun q e => by cases e; omega)
  have z2 := hg2.size
  clear r1 hg2 hb1 hb
  go_wp2_with fail
  have hok3 := hok2.alloc (.cells #[.string s, .int .i64 k, .bool f] 31)
  have p3 := heap_alloc_new w2 (.cells #[.string s, .int .i64 k, .bool f] 31)
  have r3 := (Below.heap_alloc w2 (.cells #[.string s, .int .i64 k, .bool f] 31) w.heap.size (by omega)).trans r2
  have hb3 := hb2.alloc hb2.size (.cells #[.string s, .int .i64 k, .bool f] 31)
  have z3 : w2.heap.size < (w2.alloc (.cells #[.string s, .int .i64 k, .bool f] 31)).heap.size := by simp
  generalize (w2.alloc (.cells #[.string s, .int .i64 k, .bool f] 31)) = w3 at *
  generalize w2.heap.size = B at *
  generalize w0.heap.size = R at *
  clear r2 hb0 hb2 hok2 hok hr2 hr
  refine (rd_column _ _ _ _ _ _ hok3 s k f hs).mono ?_
  rintro e w4 ⟨a', n, cap', rfl, L, hO, hF, hok4, hg4⟩
  have p4 := (hg4.block B (by omega) (by simp; omega)).trans p3
  have r4 := (hg4.block w.heap.size (by omega) (by simp; omega)).trans r3
  have hb4 : Below w.heap.size w w4 := hb3.grown hg4 hb3.size (fun q e => by cases e; omega)
  have z4 := hg4.size
  have z34 : w.heap.size < w3.heap.size := by omega
  have hO4 := hO.mono (C := w.heap.size + 1) (by omega)
  have hRR : R < w3.heap.size := by omega
  have n0 : w4.cell? ⟨B, 0, none⟩ = some (.string s) := by rw [cell_of_row _ _ 0 _ _ _ p4]; rfl
  have n1 : w4.cell? ⟨B, 1, none⟩ = some (.int .i64 k) := by rw [cell_of_row _ _ 1 _ _ _ p4]; rfl
  have n2 : w4.cell? ⟨B, 2, none⟩ = some (.bool f) := by rw [cell_of_row _ _ 2 _ _ _ p4]; rfl
  have hne : B ≠ w.heap.size := by omega
  have HF := Lib.hid hF
  clear p3 r3 hb3 hg4 hF hok3
  have hln := hO.len
  have hn21 : n ≤ 21 := by have := HF.out.len (by omega); omega
  have hwf : ∀ i, i < n → i64B (intAt L i) := fun i hi => by
    have := HF.out.bnd i (by omega)
    unfold i64B; omega
  have HW := Lib.hid hwf
  clear hwf
  by_cases hn0 : n = 0
  · subst hn0
    have g0 := frozen_of_row _ _ 0 _ _ r4
    have g1 := frozen_of_row _ _ 1 _ _ r4
    have g2 := frozen_of_row _ _ 2 _ _ r4
    have m0 : w4.cell? ⟨w.heap.size, 0, none⟩ = some (.string ⟨#[]⟩) := by rw [cell_of_row _ _ 0 _ _ _ r4]; rfl
    have m1 : w4.cell? ⟨w.heap.size, 1, none⟩ = some (.int .i64 0) := by rw [cell_of_row _ _ 1 _ _ _ r4]; rfl
    have m2 : w4.cell? ⟨w.heap.size, 2, none⟩ = some (.bool false) := by rw [cell_of_row _ _ 2 _ _ _ r4]; rfl
    have hO6 := (hO4.kept_hi (set3_turn w4 w.heap.size (.string s) (.int .i64 k) (.bool f)) (fun q e => by cases e; omega)).mono (C := w.heap.size) (by omega)
    clear p4 r4 hln
    go_wp2_with fail
    exact bodyPost_ret (v := .tuple #[.agg #[.string s, .int .i64 k, .bool f], .slice a' 0 cap']) (by simp [results, Try.results30, go_sem, m0, m1, m2]) rfl ⟨_, _, _, _, _, _, rfl, hs, hk, ⟨L, hO6, by omega, HW.out⟩, ((hb4.setCell (p := ⟨w.heap.size, 0, none⟩) (Nat.le_refl _) _).setCell (p := ⟨w.heap.size, 1, none⟩) (Nat.le_refl _) _).setCell (p := ⟨w.heap.size, 2, none⟩) (Nat.le_refl _) _⟩
  · have hnp : (0 : Int) < (n : Int) := by omega
    have hnp2 : 0 < n := by omega
    go_wp2_with fail
    refine (rd_once _ _ _ _ _ _ hok4 _ (by omega) (by omega)).mono ?_
    rintro e w5 ⟨o, rfl, hok5, hg5⟩
    have p5 := (hg5.block B (by omega) (by simp; omega)).trans p4
    have r5 := (hg5.block w.heap.size (by omega) (by simp; omega)).trans r4
    have hb5 : Below w.heap.size w w5 := hb4.grown hg5 hb4.size (fun q e => by cases e; omega)
    have z5 := hg5.size
    have hO5 := (hO.kept_hi hg5 (fun q e => by cases e; omega))
    clear p4 r4 hb4 hg5 hO4 hO n0 n1 n2 hok4
    cases o
    · have n0 : w5.cell? ⟨B, 0, none⟩ = some (.string s) := by rw [cell_of_row _ _ 0 _ _ _ p5]; rfl
      have n1 : w5.cell? ⟨B, 1, none⟩ = some (.int .i64 k) := by rw [cell_of_row _ _ 1 _ _ _ p5]; rfl
      have n2 : w5.cell? ⟨B, 2, none⟩ = some (.bool f) := by rw [cell_of_row _ _ 2 _ _ _ p5]; rfl
      have g0 := frozen_of_row _ _ 0 _ _ r5
      have g1 := frozen_of_row _ _ 1 _ _ r5
      have g2 := frozen_of_row _ _ 2 _ _ r5
      have m0 : w5.cell? ⟨w.heap.size, 0, none⟩ = some (.string ⟨#[]⟩) := by rw [cell_of_row _ _ 0 _ _ _ r5]; rfl
      have m1 : w5.cell? ⟨w.heap.size, 1, none⟩ = some (.int .i64 0) := by rw [cell_of_row _ _ 1 _ _ _ r5]; rfl
      have m2 : w5.cell? ⟨w.heap.size, 2, none⟩ = some (.bool false) := by rw [cell_of_row _ _ 2 _ _ _ r5]; rfl
      have hO6 := (hO5.kept_hi (set3_turn w5 w.heap.size (.string s) (.int .i64 k) (.bool f)) (fun q e => by cases e; omega)).mono (C := w.heap.size) (by omega)
      clear p5 r5 hln
      go_wp2_with fail
      exact bodyPost_ret (v := .tuple #[.agg #[.string s, .int .i64 k, .bool f], .slice a' n cap']) (by simp [results, Try.results30, go_sem, m0, m1, m2]) rfl ⟨_, _, _, _, _, _, rfl, hs, hk, ⟨L, hO6, by omega, HW.out⟩, ((hb5.setCell (p := ⟨w.heap.size, 0, none⟩) (Nat.le_refl _) _).setCell (p := ⟨w.heap.size, 1, none⟩) (Nat.le_refl _) _).setCell (p := ⟨w.heap.size, 2, none⟩) (Nat.le_refl _) _⟩
    · go_wp2_with fail
      refine (rd_below _ _ _ _ _ _ hok5 _).mono ?_
      rintro e w6 ⟨q, rfl, ⟨hq0, hq3, hq1, _⟩, hok6, hg6⟩
      have hqn : q < n := by
        by_cases h1 : (n : Int) ≤ 1
        · have := hq3 h1; omega
        · exact hq1 (by omega)
      obtain ⟨q, rfl⟩ := Int.eq_ofNat_of_zero_le hq0
      have p6 := (hg6.block B (by omega) (by simp; omega)).trans p5
      have r6 := (hg6.block w.heap.size (by omega) (by simp; omega)).trans r5
      have hb6 : Below w.heap.size w w6 := hb5.grown hg6 hb5.size (fun q e => by cases e; omega)
      have z6 := hg6.size
      have hO6 := (hO5.kept_hi hg6 (fun q e => by cases e; omega))
      clear p5 r5 hb5 hg6 hO5 hok5 hq1 hq3
      go_wp2_with fail
      refine (rd_off _ _ _ _ _ _ hok6 _ _ (by omega) (by omega) (by omega) (by omega)).mono ?_
      rintro e w7 ⟨x, rfl, hx, hok7, hg7⟩
      have p7 := (hg7.block B (by omega) (by simp; omega)).trans p6
      have r7 := (hg7.block w.heap.size (by omega) (by simp; omega)).trans r6
      have hb7 : Below w.heap.size w w7 := hb6.grown hg7 hb6.size (fun q e => by cases e; omega)
      have hO7 := (hO6.kept_hi hg7 (fun q e => by cases e; omega))
      have z7 := hg7.size
      clear p6 r6 hb6 hg7 hO6 hok6
      obtain ⟨g, rfl, hg0, hg1⟩ := hO7.head q (by omega)
      have hc := hO7.cell q (by omega)
      have hf := hO7.frozen q
      have hO8 := hO7.set q x
      have hx2 : ∀ i, i < n → i64B (intAt (L.set q x) i) := fun i hi => by
        rw [intAt_set _ _ _ _ (by omega)]; split
        · exact hx
        · exact HW.out i hi
      have HX := Lib.hid hx2
      have hgt := hO7.set_grown q x
      have hbn : B ≠ g := by omega
      have hwn : w.heap.size ≠ g := by omega
      have p8 := (hgt.block B (by omega) (by simp; omega)).trans p7
      have r8 := (hgt.block w.heap.size (by omega) (by simp; omega)).trans r7
      have hb8 : Below w.heap.size w (w7.setCell ⟨g, q, none⟩ (.int .i64 x)) := hb7.setCell (p := ⟨g, q, none⟩) (by show w.heap.size ≤ g; omega) _
      have hqi : (q : Int) < (n : Int) := by omega
      have hqn2 : q < n := by omega
      have n0 : w7.cell? ⟨B, 0, none⟩ = some (.string s) := by rw [cell_of_row _ _ 0 _ _ _ p7]; rfl
      have n1 : w7.cell? ⟨B, 1, none⟩ = some (.int .i64 k) := by rw [cell_of_row _ _ 1 _ _ _ p7]; rfl
      have n2 : w7.cell? ⟨B, 2, none⟩ = some (.bool f) := by rw [cell_of_row _ _ 2 _ _ _ p7]; rfl
      have g0 := frozen_of_row _ _ 0 _ _ r7
      have g1 := frozen_of_row _ _ 1 _ _ r7
      have g2 := frozen_of_row _ _ 2 _ _ r7
      have m0 : w7.cell? ⟨w.heap.size, 0, none⟩ = some (.string ⟨#[]⟩) := by rw [cell_of_row _ _ 0 _ _ _ r7]; rfl
      have m1 : w7.cell? ⟨w.heap.size, 1, none⟩ = some (.int .i64 0) := by rw [cell_of_row _ _ 1 _ _ _ r7]; rfl
      have m2 : w7.cell? ⟨w.heap.size, 2, none⟩ = some (.bool false) := by rw [cell_of_row _ _ 2 _ _ _ r7]; rfl
      have hO9 := (hO8.kept_hi (set3_turn (w7.setCell ⟨g, q, none⟩ (.int .i64 x)) w.heap.size (.string s) (.int .i64 k) (.bool f)) (fun q e => by cases e; omega)).mono (C := w.heap.size) (by omega)
      have hbn1 : ¬ B = g := hbn
      have hbn2 : ¬ g = B := fun e => hbn e.symm
      have hwn1 : ¬ w.heap.size = g := hwn
      have hwn2 : ¬ g = w.heap.size := fun e => hwn e.symm
      have hbw1 : ¬ B = w.heap.size := hne
      have hbw2 : ¬ w.heap.size = B := fun e => hne e.symm
      clear p7 r7 p8 r8 hO7 hgt hx2 hln
      go_wp2_with fail
      exact bodyPost_ret (v := .tuple #[.agg #[.string s, .int .i64 k, .bool f], .slice (some ⟨g, 0, none⟩) n cap']) (by simp [results, Try.results30, go_sem, m0, m1, m2]) rfl ⟨_, _, _, _, _, _, rfl, hs, hk, ⟨_, hO9, by omega, HX.out⟩, ((hb8.setCell (p := ⟨w.heap.size, 0, none⟩) (Nat.le_refl _) _).setCell (p := ⟨w.heap.size, 1, none⟩) (Nat.le_refl _) _).setCell (p := ⟨w.heap.size, 2, none⟩) (Nat.le_refl _) _⟩
end Go.Proofs.Ytgocfpdodbhcaaa

/-
  Chapter 10: what the drawers of rings hand over.
-/
import Derived.Test.YtglldmfhjipacaaL10Draw
import Derived.Deep.RegionHeld3
namespace Go.Proofs.Ytglldmfhjipacaa
open Go.RowKit
set_option linter.unusedVariables false
set_option maxRecDepth 100000
set_option maxHeartbeats 2000000 in
theorem drawRingOk (a : Option Addr) (len cap : Nat) (z : List Int) (w : World) (hr : IsRow .u8 w a len cap z) (hl : len ≤ 1048576) :
    Calls Try.prog 19 #[.slice a len cap] w fun r w' => ∃ (y e : Int) (d : ByteArray), r = .returned (.agg #[.int .i64 y, .int .i64 e, .string d]) ∧ RingFine y e d ∧ Below w.heap.size w w' := by
  go_enter Try.func19, Try.ntmps19
  go_wp2_with fail
  have rM := heap_alloc_new w (.cells #[.int .i64 0, .int .i64 0, .string ⟨#[]⟩] 25)
  have hb0 : Below w.heap.size w (w.alloc (.cells #[.int .i64 0, .int .i64 0, .string ⟨#[]⟩] 25)) := (by repeat (first | exact Below.refl _ _ | assumption | (refine Below.drew ?_) | (refine below_drewN ?_ _) | (refine Below.alloc ?_ (by first | omega | (simp; done) | (simp; omega)) _) | (refine Below.setCell ?_ (by first | omega | (simp; done) | (simp; omega)) _)))
  have z0 : w.heap.size < (w.alloc (.cells #[.int .i64 0, .int .i64 0, .string ⟨#[]⟩] 25)).heap.size := by simp
  have hr2 := isRow_below hr hb0
  generalize w.alloc (.cells #[.int .i64 0, .int .i64 0, .string ⟨#[]⟩] 25) = w0 at *
  refine (l1Open_any _ _ _ _ _ hr2 hl).mono ?_
  rintro r w1 ⟨rfl, hok1, hb1⟩
  replace rM := (hb1.block w.heap.size z0).trans rM
  have HB := hb0.trans (hb1.mono hb0.size)
  have z1 := hok1.lt
  clear hb0 hb1 hr2 hr
  generalize w0.heap.size = R at *
  go_wp2_with fail
  refine (rd_ring _ _ _ _ _ _ hok1).mono ?_
  rintro r w2 ⟨y, e, d, rfl, hF, hok2, hg2⟩
  replace rM := (hg2.block w.heap.size (by omega) (by simp; omega)).trans rM
  replace HB := HB.grown hg2 HB.size (fun q e => by cases e; omega)
  obtain ⟨p0, p1, p2⟩ := box3r rM
  have g0 := frozen_of_row _ _ 0 _ _ rM; have g1 := frozen_of_row _ _ 1 _ _ rM; have g2 := frozen_of_row _ _ 2 _ _ rM
  clear rM hg2
  go_wp2_with fail
  exact bodyPost_ret (v := .agg #[.int .i64 y, .int .i64 e, .string d]) (by simp [results, Try.results19, go_sem, p0, p1, p2]) rfl ⟨_, _, _, rfl, hF, below_set3 HB (Nat.le_refl _) _ _ _⟩
theorem drawRingNew (a : Option Addr) (len cap : Nat) (z : List Int) (w : World) (hr : IsRow .u8 w a len cap z) (hl : len ≤ 1048576) :
    Calls Try.prog 20 #[.slice a len cap] w fun r w' => ∃ (y e : Int), r = .returned (.tuple #[.int .i64 y, .int .i64 e]) ∧ i64B y ∧ i64B e ∧ Below w.heap.size w w' := by
  go_enter Try.func20, Try.ntmps20
  go_wp2_with fail
  refine (l1Open_any _ _ _ _ _ hr hl).mono ?_
  rintro r w1 ⟨rfl, hok1, hb1⟩
  go_wp2_with fail
  refine (rd_off _ _ _ _ _ _ hok1 _ _ (by omega) (by omega) (by omega) (by omega)).mono ?_
  rintro r w2 ⟨y, rfl, hy, hok2, hg2⟩
  have HB := below_rd hb1 hg2
  go_wp2_with fail
  refine (rd_off _ _ _ _ _ _ hok2 _ _ (by omega) (by omega) (by omega) (by omega)).mono ?_
  rintro r w3 ⟨e, rfl, he, hok3, hg3⟩
  replace HB := below_rd HB hg3
  go_wp2_with fail
  exact bodyPost_ret (v := .tuple #[.int .i64 y, .int .i64 e]) (by simp [results, Try.results20, go_sem]) rfl ⟨_, _, rfl, hy, he, HB⟩
set_option maxHeartbeats 4000000 in
theorem drawRingPut (a : Option Addr) (len cap : Nat) (z : List Int) (w : World) (hr : IsRow .u8 w a len cap z) (hl : len ≤ 1048576) :
    Calls Try.prog 16 #[.slice a len cap] w fun r w' => ∃ (y e : Int) (d s : ByteArray), r = .returned (.tuple #[.agg #[.int .i64 y, .int .i64 e, .string d], .string s]) ∧ RingFine y e d ∧ s.size ≤ 10 ∧ Below w.heap.size w w' := by
  go_enter Try.func16, Try.ntmps16
  go_wp2_with fail
  have rM := heap_alloc_new w (.cells #[.int .i64 0, .int .i64 0, .string ⟨#[]⟩] 25)
  have hb0 : Below w.heap.size w (w.alloc (.cells #[.int .i64 0, .int .i64 0, .string ⟨#[]⟩] 25)) := (by repeat (first | exact Below.refl _ _ | assumption | (refine Below.drew ?_) | (refine below_drewN ?_ _) | (refine Below.alloc ?_ (by first | omega | (simp; done) | (simp; omega)) _) | (refine Below.setCell ?_ (by first | omega | (simp; done) | (simp; omega)) _)))
  have z0 : w.heap.size < (w.alloc (.cells #[.int .i64 0, .int .i64 0, .string ⟨#[]⟩] 25)).heap.size := by simp
  have hr2 := isRow_below hr hb0
  generalize w.alloc (.cells #[.int .i64 0, .int .i64 0, .string ⟨#[]⟩] 25) = w0 at *
  refine (l1Open_any _ _ _ _ _ hr2 hl).mono ?_
  rintro r w1 ⟨rfl, hok1, hb1⟩
  replace rM := (hb1.block w.heap.size z0).trans rM
  have HB := hb0.trans (hb1.mono hb0.size)
  have z1 := hok1.lt
  clear hb0 hb1 hr2 hr
  generalize w0.heap.size = R at *
  go_wp2_with fail
  refine (rd_ring _ _ _ _ _ _ hok1).mono ?_
  rintro r w2 ⟨y, e, d, rfl, hF, hok2, hg2⟩
  replace rM := (hg2.block w.heap.size (by omega) (by simp; omega)).trans rM
  replace HB := HB.grown hg2 HB.size (fun q e => by cases e; omega)
  have z2 := hg2.size
  have HF := Lib.hid hF; clear hF hok1
  go_wp2_with fail
  have rX := heap_alloc_new w2 (.cells #[.int .i64 y, .int .i64 e, .string d] 25)
  replace rM := (Below.heap_alloc w2 (.cells #[.int .i64 y, .int .i64 e, .string d] 25) w.heap.size (by omega)).trans rM
  have hok3 := hok2.alloc (.cells #[.int .i64 y, .int .i64 e, .string d] 25)
  replace HB := HB.alloc HB.size (.cells #[.int .i64 y, .int .i64 e, .string d] 25)
  have z3 : w2.heap.size < (w2.alloc (.cells #[.int .i64 y, .int .i64 e, .string d] 25)).heap.size := by simp
  generalize w2.alloc (.cells #[.int .i64 y, .int .i64 e, .string d] 25) = w3 at *
  have hRX : R < w2.heap.size := by omega
  generalize w2.heap.size = X at *
  have hWX : w.heap.size < X := by omega
  have hWR : w.heap.size < R := by omega
  clear hok2 hg2
  refine (rd_once _ _ _ _ _ _ hok3 _ (by omega) (by omega)).mono ?_
  rintro r w4 ⟨o, rfl, hok4, hg4⟩
  replace rM := (hg4.block w.heap.size (by omega) (by simp; omega)).trans rM
  replace rX := (hg4.block X (by omega) (by simp; omega)).trans rX
  replace HB := HB.grown hg4 HB.size (fun q e => by cases e; omega)
  have z4 : X < w4.heap.size := Nat.lt_of_lt_of_le z3 hg4.size
  clear hok3 hg4 z0 z1 z2 z3
  cases o
  · have rMd : w4.drew.heap[w.heap.size]? = some (.cells #[.int .i64 0, .int .i64 0, .string ⟨#[]⟩] 25 (0, 0)) := rM
    have rXd : w4.drew.heap[X]? = some (.cells #[.int .i64 y, .int .i64 e, .string d] 25 (0, 0)) := rX
    have HBd := HB.drew
    have hokd : RdOk w4.drew R a len cap z := hok4.below ((Below.refl w4.heap.size w4).drew)
    have zd : X < w4.drew.heap.size := z4
    obtain ⟨x0, x1, x2⟩ := box3r rXd
    clear rM rX HB hok4 z4
    go_wp2_with fail
    go_region_law ((go_simp; first
      | (go_at_call 76; refine (rd_term _ _ _ _ _ _ hokd 9 (by omega)).mono ?_; rintro r w6 ⟨t, rfl, ht, hok6, hg6⟩; have rM6 := (hg6.block w.heap.size (by omega) (by simp; omega)).trans rMd; have rX6 := (hg6.block X (by omega) (by simp; omega)).trans rXd; have HB6 := HBd.grown hg6 HBd.size (fun q e => by cases e; omega); obtain ⟨y0, y1, y2⟩ := box3r rX6; obtain ⟨p0, p1, p2⟩ := box3r rM6; have g0 := frozen_of_row _ _ 0 _ _ rM6; have g1 := frozen_of_row _ _ 1 _ _ rM6; have g2 := frozen_of_row _ _ 2 _ _ rM6)))
    all_goals
      go_wp2_with fail
      exact bodyPost_ret (v := .tuple #[.agg #[.int .i64 y, .int .i64 e, .string d], .string t]) (by simp [results, Try.results16, go_sem, p0, p1, p2]) rfl ⟨_, _, _, _, rfl, HF.out, ht, below_set3 HB6 (Nat.le_refl _) _ _ _⟩
  · go_wp2_with fail
    refine (rd_below _ _ _ _ _ _ hok4 _).mono ?_
    rintro r w5 ⟨m, rfl, ⟨hm0, _, hm1, _⟩, hok5, hg5⟩
    replace hm1 := hm1 (by omega)
    have hE : i64B (1000000 - m) := by unfold i64B; omega
    replace rM := (hg5.block w.heap.size (by omega) (by simp; omega)).trans rM
    replace rX := (hg5.block X (by omega) (by simp; omega)).trans rX
    replace HB := HB.grown hg5 HB.size (fun q e => by cases e; omega)
    have z5 : X < w5.heap.size := Nat.lt_of_lt_of_le z4 hg5.size
    have f1 := frozen_of_row _ _ 1 _ _ rX
    obtain ⟨x0, x1, x2⟩ := box3r rX
    have rX7 := Lib.hid (heap_setCell_mark w5 X 1 _ _ _ (.int .i64 (1000000 - m)) rX)
    have rM7 := Lib.hid ((Below.heap_setCell w5 ⟨X, 1, none⟩ (.int .i64 (1000000 - m)) w.heap.size (by show w.heap.size ≠ X; omega)).trans rM)
    have HB7 := Lib.hid (HB.setCell (p := ⟨X, 1, none⟩) (by show w.heap.size ≤ X; omega) (.int .i64 (1000000 - m)))
    have hok7 := Lib.hid (hok5.grown (grownBy_setCell w5 X 1 (.int .i64 (1000000 - m))) (fun q e => by cases e; omega))
    have z7 := Lib.hid (show X < (w5.setCell ⟨X, 1, none⟩ (.int .i64 (1000000 - m))).heap.size by simp [World.setCell]; omega)
    clear rM rX HB hok4 hok5 hg5 z4 z5 x0 x2
    go_wp2_with fail
    have rMd : (w5.setCell ⟨X, 1, none⟩ (.int .i64 (1000000 - m))).drew.heap[w.heap.size]? = some (.cells #[.int .i64 0, .int .i64 0, .string ⟨#[]⟩] 25 (0, 0)) := rM7.out
    have rXd : (w5.setCell ⟨X, 1, none⟩ (.int .i64 (1000000 - m))).drew.heap[X]? = some (.cells #[.int .i64 y, .int .i64 (1000000 - m), .string d] 25 (0, 0)) := rX7.out
    have HBd := HB7.out.drew
    have hokd : RdOk (w5.setCell ⟨X, 1, none⟩ (.int .i64 (1000000 - m))).drew R a len cap z := hok7.out.below ((Below.refl _ _).drew)
    have zd : X < (w5.setCell ⟨X, 1, none⟩ (.int .i64 (1000000 - m))).drew.heap.size := z7.out
    clear rX7 rM7 HB7 hok7 z7 x1 f1
    generalize w5.setCell ⟨X, 1, none⟩ (.int .i64 (1000000 - m)) = w7 at *
    obtain ⟨x0, x1, x2⟩ := box3r rXd
    go_region_law ((go_simp; first
      | (go_at_call 76; refine (rd_term _ _ _ _ _ _ hokd 9 (by omega)).mono ?_; rintro r w6 ⟨t, rfl, ht, hok6, hg6⟩; have rM6 := (hg6.block w.heap.size (by omega) (by simp; omega)).trans rMd; have rX6 := (hg6.block X (by omega) (by simp; omega)).trans rXd; have HB6 := HBd.grown hg6 HBd.size (fun q e => by cases e; omega); obtain ⟨y0, y1, y2⟩ := box3r rX6; obtain ⟨p0, p1, p2⟩ := box3r rM6; have g0 := frozen_of_row _ _ 0 _ _ rM6; have g1 := frozen_of_row _ _ 1 _ _ rM6; have g2 := frozen_of_row _ _ 2 _ _ rM6)))
    all_goals
      go_wp2_with fail
      exact bodyPost_ret (v := .tuple #[.agg #[.int .i64 y, .int .i64 (1000000 - m), .string d], .string t]) (by simp [results, Try.results16, go_sem, p0, p1, p2]) rfl ⟨_, _, _, _, rfl, ⟨HF.out.1, hE, HF.out.2.2⟩, ht, below_set3 HB6 (Nat.le_refl _) _ _ _⟩
set_option maxHeartbeats 4000000 in
theorem drawRingCut (a : Option Addr) (len cap : Nat) (z : List Int) (w : World) (hr : IsRow .u8 w a len cap z) (hl : len ≤ 1048576) :
    Calls Try.prog 26 #[.slice a len cap] w fun r w' => ∃ (y e : Int) (d : ByteArray) (x1 x2 : Int), r = .returned (.tuple #[.agg #[.int .i64 y, .int .i64 e, .string d], .int .i64 x1, .int .i64 x2]) ∧ RingFine y e d ∧ Below w.heap.size w w' := by
  go_enter Try.func26, Try.ntmps26
  go_wp2_with fail
  have rM := heap_alloc_new w (.cells #[.int .i64 0, .int .i64 0, .string ⟨#[]⟩] 25)
  have hb0 : Below w.heap.size w (w.alloc (.cells #[.int .i64 0, .int .i64 0, .string ⟨#[]⟩] 25)) := (by repeat (first | exact Below.refl _ _ | assumption | (refine Below.drew ?_) | (refine below_drewN ?_ _) | (refine Below.alloc ?_ (by first | omega | (simp; done) | (simp; omega)) _) | (refine Below.setCell ?_ (by first | omega | (simp; done) | (simp; omega)) _)))
  have z0 : w.heap.size < (w.alloc (.cells #[.int .i64 0, .int .i64 0, .string ⟨#[]⟩] 25)).heap.size := by simp
  have hr2 := isRow_below hr hb0
  generalize w.alloc (.cells #[.int .i64 0, .int .i64 0, .string ⟨#[]⟩] 25) = w0 at *
  refine (l1Open_any _ _ _ _ _ hr2 hl).mono ?_
  rintro r w1 ⟨rfl, hok1, hb1⟩
  replace rM := (hb1.block w.heap.size z0).trans rM
  have HB := hb0.trans (hb1.mono hb0.size)
  have z1 := hok1.lt
  clear hb0 hb1 hr2 hr
  generalize w0.heap.size = R at *
  go_wp2_with fail
  refine (rd_ring _ _ _ _ _ _ hok1).mono ?_
  rintro r w2 ⟨y, e, d, rfl, hF, hok2, hg2⟩
  replace rM := (hg2.block w.heap.size (by omega) (by simp; omega)).trans rM
  replace HB := HB.grown hg2 HB.size (fun q e => by cases e; omega)
  have z2 := hg2.size
  have HF := Lib.hid hF; clear hF hok1
  go_wp2_with fail
  have rX := heap_alloc_new w2 (.cells #[.int .i64 y, .int .i64 e, .string d] 25)
  replace rM := (Below.heap_alloc w2 (.cells #[.int .i64 y, .int .i64 e, .string d] 25) w.heap.size (by omega)).trans rM
  have hok3 := hok2.alloc (.cells #[.int .i64 y, .int .i64 e, .string d] 25)
  replace HB := HB.alloc HB.size (.cells #[.int .i64 y, .int .i64 e, .string d] 25)
  have z3 : w2.heap.size < (w2.alloc (.cells #[.int .i64 y, .int .i64 e, .string d] 25)).heap.size := by simp
  generalize w2.alloc (.cells #[.int .i64 y, .int .i64 e, .string d] 25) = w3 at *
  have hRX : R < w2.heap.size := by omega
  generalize w2.heap.size = X at *
  have hWX : w.heap.size < X := by omega
  have hWR : w.heap.size < R := by omega
  clear hok2 hg2
  have rMd : w3.drew.heap[w.heap.size]? = some (.cells #[.int .i64 0, .int .i64 0, .string ⟨#[]⟩] 25 (0, 0)) := rM
  have rXd : w3.drew.heap[X]? = some (.cells #[.int .i64 y, .int .i64 e, .string d] 25 (0, 0)) := rX
  have HBd := HB.drew
  have hokd : RdOk w3.drew R a len cap z := hok3.below ((Below.refl w3.heap.size w3).drew)
  have zd : X < w3.drew.heap.size := z3
  have hS0 : w3.drew.cell? ⟨X, 0, none⟩ = some (.int .i64 y) ∧ w3.drew.cell? ⟨X, 1, none⟩ = some (.int .i64 e) ∧ w3.drew.cell? ⟨X, 2, none⟩ = some (.string d) := box3r rXd
  clear rM rX HB hok3 z0 z1 z2 z3
  go_region_held3 (fun W => W.cell? ⟨X, 0, none⟩ = some (.int .i64 y) ∧ W.cell? ⟨X, 1, none⟩ = some (.int .i64 e) ∧ W.cell? ⟨X, 2, none⟩ = some (.string d)) (first | with_reducible exact hS0 | with_reducible exact hS1 | go_keep)
    (first
      | (go_at_call 75; (with_reducible refine (rd_below _ _ _ _ _ _ hokd _).mono ?_); rintro r w4 ⟨m, rfl, _, hok4, hg4⟩; have rM4 := (hg4.block w.heap.size (by omega) (by simp; omega)).trans rMd; have rX4 := (hg4.block X (by omega) (by simp; omega)).trans rXd; have HB4 := HBd.grown hg4 HBd.size (fun q e => by cases e; omega); have z4 : X < w4.heap.size := Nat.lt_of_lt_of_le zd hg4.size; have hS1 : w4.cell? ⟨X, 0, none⟩ = some (.int .i64 y) ∧ w4.cell? ⟨X, 1, none⟩ = some (.int .i64 e) ∧ w4.cell? ⟨X, 2, none⟩ = some (.string d) := box3r rX4))
  clear hS0 hS1 rMd rXd HBd hokd zd hg4
  obtain ⟨v, hv⟩ : ∃ v, IntKind.i64.wrap (e - m) = v := ⟨_, rfl⟩
  rw [hv]
  clear hv
  go_wp2_with fail
  refine (rd_once _ _ _ _ _ _ hok4 _ (by omega) (by omega)).mono ?_
  rintro r w5 ⟨o, rfl, hok5, hg5⟩
  have rM5 := (hg5.block w.heap.size (by omega) (by simp; omega)).trans rM4
  have rX5 := (hg5.block X (by omega) (by simp; omega)).trans rX4
  have HB5 := HB4.grown hg5 HB4.size (fun q e => by cases e; omega)
  have z5 : X < w5.heap.size := Nat.lt_of_lt_of_le z4 hg5.size
  clear rM4 rX4 HB4 hok4 hg5 z4
  cases o
  · have rM := rM5; have rX := rX5; have HB := HB5; have hok := hok5
    clear rM5 rX5 HB5 hok5
    have rMd : w5.drew.heap[w.heap.size]? = some (.cells #[.int .i64 0, .int .i64 0, .string ⟨#[]⟩] 25 (0, 0)) := rM
    have rXd : w5.drew.heap[X]? = some (.cells #[.int .i64 y, .int .i64 e, .string d] 25 (0, 0)) := rX
    have HBd := HB.drew
    have hokd : RdOk w5.drew R a len cap z := hok.below ((Below.refl w5.heap.size w5).drew)
    have zd : X < w5.drew.heap.size := z5
    obtain ⟨x0, x1, x2⟩ := box3r rXd
    clear rM rX HB hok z5
    go_wp2_with fail
    go_region_law ((go_simp; first
      | (go_at_call 75; refine (rd_below _ _ _ _ _ _ hokd _).mono ?_; rintro r w8 ⟨m2, rfl, _, hok8, hg8⟩; have rM8 := (hg8.block w.heap.size (by omega) (by simp; omega)).trans rMd; have rX8 := (hg8.block X (by omega) (by simp; omega)).trans rXd; have HB8 := HBd.grown hg8 HBd.size (fun q e => by cases e; omega); obtain ⟨y0, y1, y2⟩ := box3r rX8; obtain ⟨p0, p1, p2⟩ := box3r rM8; have g0 := frozen_of_row _ _ 0 _ _ rM8; have g1 := frozen_of_row _ _ 1 _ _ rM8; have g2 := frozen_of_row _ _ 2 _ _ rM8)))
    all_goals
      go_wp2_with fail
      exact bodyPost_ret (v := .tuple #[.agg #[.int .i64 y, .int .i64 e, .string d], .int .i64 v, .int .i64 (IntKind.i64.wrap (v + m2))]) (by simp [results, Try.results26, go_sem, p0, p1, p2]) rfl ⟨_, _, _, _, _, rfl, HF.out, below_set3 HB8 (Nat.le_refl _) _ _ _⟩
  · go_wp2_with fail
    refine (rd_off _ _ _ _ _ _ hok5 _ _ (by omega) (by omega) (by omega) (by omega)).mono ?_
    rintro r w6 ⟨n, rfl, hn, hok, hg6⟩
    have rM := (hg6.block w.heap.size (by omega) (by simp; omega)).trans rM5
    have rX := (hg6.block X (by omega) (by simp; omega)).trans rX5
    have HB := HB5.grown hg6 HB5.size (fun q e => by cases e; omega)
    replace z5 : X < w6.heap.size := Nat.lt_of_lt_of_le z5 hg6.size
    clear rM5 rX5 HB5 hok5 hg6
    have rMd : w6.drew.heap[w.heap.size]? = some (.cells #[.int .i64 0, .int .i64 0, .string ⟨#[]⟩] 25 (0, 0)) := rM
    have rXd : w6.drew.heap[X]? = some (.cells #[.int .i64 y, .int .i64 e, .string d] 25 (0, 0)) := rX
    have HBd := HB.drew
    have hokd : RdOk w6.drew R a len cap z := hok.below ((Below.refl w6.heap.size w6).drew)
    have zd : X < w6.drew.heap.size := z5
    obtain ⟨x0, x1, x2⟩ := box3r rXd
    clear rM rX HB hok z5
    go_wp2_with fail
    go_region_law ((go_simp; first
      | (go_at_call 75; refine (rd_below _ _ _ _ _ _ hokd _).mono ?_; rintro r w8 ⟨m2, rfl, _, hok8, hg8⟩; have rM8 := (hg8.block w.heap.size (by omega) (by simp; omega)).trans rMd; have rX8 := (hg8.block X (by omega) (by simp; omega)).trans rXd; have HB8 := HBd.grown hg8 HBd.size (fun q e => by cases e; omega); obtain ⟨y0, y1, y2⟩ := box3r rX8; obtain ⟨p0, p1, p2⟩ := box3r rM8; have g0 := frozen_of_row _ _ 0 _ _ rM8; have g1 := frozen_of_row _ _ 1 _ _ rM8; have g2 := frozen_of_row _ _ 2 _ _ rM8)))
    all_goals
      go_wp2_with fail
      exact bodyPost_ret (v := .tuple #[.agg #[.int .i64 y, .int .i64 e, .string d], .int .i64 n, .int .i64 (IntKind.i64.wrap (n + m2))]) (by simp [results, Try.results26, go_sem, p0, p1, p2]) rfl ⟨_, _, _, _, _, rfl, HF.out, below_set3 HB8 (Nat.le_refl _) _ _ _⟩
end Go.Proofs.Ytglldmfhjipacaa

/-
  Chapter 4: what DrawMyersOk and DrawMyersCol hand over.
-/
import Derived.Test.YtgocfpdodbhcaaaL4Draw
namespace Go.Proofs.Ytgocfpdodbhcaaa
open Go.RowKit
set_option linter.unusedVariables false
set_option maxRecDepth 100000
set_option maxHeartbeats 4000000 in
theorem drawMyersOk (a : Option Addr) (len cap : Nat) (z : List Int) (w : World) (hr : IsRow .u8 w a len cap z) (hl : len ≤ 1048576) :
    Calls Try.prog 46 #[.slice a len cap] w fun e w' => ∃ (s : ByteArray) (k : Int) (f : Bool) (u d t : Int), e = .returned (.tuple #[.agg #[.string s, .int .i64 k, .bool f], .agg #[.int .i64 u, .int .i64 d, .int .i64 t]]) ∧ s.size ≤ 8 ∧ i64B k ∧ (i64B u ∧ i64B d ∧ i64B t) ∧ Below w.heap.size w w' := by
  go_enter Try.func46, Try.ntmps46
  go_wp2_with fail
  have rP := heap_alloc2_old w (.cells #[.string ⟨#[]⟩, .int .i64 0, .bool false] 31) (.cells #[.int .i64 0, .int .i64 0, .int .i64 0] 51)
  have rM := heap_alloc2_new w (.cells #[.string ⟨#[]⟩, .int .i64 0, .bool false] 31) (.cells #[.int .i64 0, .int .i64 0, .int .i64 0] 51)
  have hb0 : Below w.heap.size w ((w.alloc (.cells #[.string ⟨#[]⟩, .int .i64 0, .bool false] 31)).alloc (.cells #[.int .i64 0, .int .i64 0, .int .i64 0] 51)) := (by repeat (first | exact Below.refl _ _ | assumption | (refine Below.drew ?_) | (refine below_drewN ?_ _) | (refine Below.alloc ?_ (by first | omega | (simp; done) | (simp; omega)) _) | (refine Below.setCell ?_ (by first | omega | (simp; done) | (simp; omega)) _)))
  have z0 : w.heap.size + 1 < ((w.alloc (.cells #[.string ⟨#[]⟩, .int .i64 0, .bool false] 31)).alloc (.cells #[.int .i64 0, .int .i64 0, .int .i64 0] 51)).heap.size := by simp
  have hr2 := isRow_below hr hb0
  generalize ((w.alloc (.cells #[.string ⟨#[]⟩, .int .i64 0, .bool false] 31)).alloc (.cells #[.int .i64 0, .int .i64 0, .int .i64 0] 51)) = w0 at *
  refine (l1Open_any _ _ _ _ _ hr2 hl).mono ?_
  rintro e w1 ⟨rfl, hok1, hb1⟩
  have rP := (hb1.block w.heap.size (by omega)).trans rP
  have rM := (hb1.block (w.heap.size + 1) (by omega)).trans rM
  have HB := hb0.trans (hb1.mono hb0.size)
  have z1 := hok1.lt
  clear hb0 hb1 hr2 hr
  generalize w0.heap.size = R at *
  go_wp2_with fail
  refine (rd_myers _ _ _ _ _ _ hok1).mono ?_
  rintro e w2 ⟨s, k, f, u, d, t, rfl, hs, hk, ⟨hu, hd, ht⟩, hok2, hg2⟩
  have rP := (hg2.block w.heap.size (by omega) (by simp; omega)).trans rP
  have rM := (hg2.block (w.heap.size + 1) (by omega) (by simp; omega)).trans rM
  have HB := HB.grown hg2 HB.size (fun q e => by cases e; omega)
  have z2 := hg2.size
  clear hok1 hg2
  go_wp2_with fail
  have rB := heap_alloc2_old w2 (.cells #[.string s, .int .i64 k, .bool f] 31) (.cells #[.int .i64 u, .int .i64 d, .int .i64 t] 51)
  have rG := heap_alloc2_new w2 (.cells #[.string s, .int .i64 k, .bool f] 31) (.cells #[.int .i64 u, .int .i64 d, .int .i64 t] 51)
  have hb3 := ((Below.refl w2.heap.size w2).alloc (Nat.le_refl _) (.cells #[.string s, .int .i64 k, .bool f] 31)).alloc (by simp) (.cells #[.int .i64 u, .int .i64 d, .int .i64 t] 51)
  have z3 : w2.heap.size + 1 < ((w2.alloc (.cells #[.string s, .int .i64 k, .bool f] 31)).alloc (.cells #[.int .i64 u, .int .i64 d, .int .i64 t] 51)).heap.size := by simp
  have hok3 := hok2.below hb3
  have rP := (hb3.block w.heap.size (by omega)).trans rP
  have rM := (hb3.block (w.heap.size + 1) (by omega)).trans rM
  have HB := HB.trans (hb3.mono HB.size)
  clear hb3 hok2
  generalize ((w2.alloc (.cells #[.string s, .int .i64 k, .bool f] 31)).alloc (.cells #[.int .i64 u, .int .i64 d, .int .i64 t] 51)) = w3 at *
  obtain ⟨G, hG⟩ : ∃ G, w2.heap.size + 1 = G := ⟨_, rfl⟩
  rw [hG] at rG z3 ⊢
  generalize w2.heap.size = B at *
  have hBG : B < G := by omega
  clear hG
  refine (rd_once _ _ _ _ _ _ hok3 _ (by omega) (by omega)).mono ?_
  rintro e w4 ⟨o, rfl, hok4, hg4⟩
  have rB := (hg4.block B (by omega) (by simp; omega)).trans rB
  have rG := (hg4.block G (by omega) (by simp; omega)).trans rG
  have rP := (hg4.block w.heap.size (by omega) (by simp; omega)).trans rP
  have rM := (hg4.block (w.heap.size + 1) (by omega) (by simp; omega)).trans rM
  have HB := HB.grown hg4 HB.size (fun q e => by cases e; omega)
  have z4 := hg4.size
  clear hok3 hg4
  cases o
  · go_wp2_with fail
    have b0 : w4.cell? ⟨B, 0, none⟩ = some (.string s) := by rw [cell_of_row _ _ 0 _ _ _ rB]; rfl
    have b1 : w4.cell? ⟨B, 1, none⟩ = some (.int .i64 k) := by rw [cell_of_row _ _ 1 _ _ _ rB]; rfl
    have b2 : w4.cell? ⟨B, 2, none⟩ = some (.bool f) := by rw [cell_of_row _ _ 2 _ _ _ rB]; rfl
    have e0 : w4.cell? ⟨G, 0, none⟩ = some (.int .i64 u) := by rw [cell_of_row _ _ 0 _ _ _ rG]; rfl
    have e1 : w4.cell? ⟨G, 1, none⟩ = some (.int .i64 d) := by rw [cell_of_row _ _ 1 _ _ _ rG]; rfl
    have e2 : w4.cell? ⟨G, 2, none⟩ = some (.int .i64 t) := by rw [cell_of_row _ _ 2 _ _ _ rG]; rfl
    have p0 : w4.cell? ⟨w.heap.size, 0, none⟩ = some (.string ⟨#[]⟩) := by rw [cell_of_row _ _ 0 _ _ _ rP]; rfl
    have p1 : w4.cell? ⟨w.heap.size, 1, none⟩ = some (.int .i64 0) := by rw [cell_of_row _ _ 1 _ _ _ rP]; rfl
    have p2 : w4.cell? ⟨w.heap.size, 2, none⟩ = some (.bool false) := by rw [cell_of_row _ _ 2 _ _ _ rP]; rfl
    have q0 : w4.cell? ⟨w.heap.size + 1, 0, none⟩ = some (.int .i64 0) := by rw [cell_of_row _ _ 0 _ _ _ rM]; rfl
    have q1 : w4.cell? ⟨w.heap.size + 1, 1, none⟩ = some (.int .i64 0) := by rw [cell_of_row _ _ 1 _ _ _ rM]; rfl
    have q2 : w4.cell? ⟨w.heap.size + 1, 2, none⟩ = some (.int .i64 0) := by rw [cell_of_row _ _ 2 _ _ _ rM]; rfl
    have g0 := frozen_of_row _ _ 0 _ _ rP
    have g1 := frozen_of_row _ _ 1 _ _ rP
    have g2 := frozen_of_row _ _ 2 _ _ rP
    have i0 := frozen_of_row _ _ 0 _ _ rM
    have i1 := frozen_of_row _ _ 1 _ _ rM
    have i2 := frozen_of_row _ _ 2 _ _ rM
    have HF := Lib.hid (fun (x0 y0 v0 x1 y1 v1 : Value) => below_set3 (below_set3 HB (Nat.le_refl w.heap.size) x0 y0 v0) (Nat.le_succ w.heap.size) x1 y1 v1)
    have hGP : ¬ G = w.heap.size := by omega
    have hGM : ¬ G = w.heap.size + 1 := by omega
    have hPG : ¬ w.heap.size = G := by omega
    have hMG : ¬ w.heap.size + 1 = G := by omega
    clear rB rG rP rM
    go_region
    all_goals
      go_wp2_with fail
      exact bodyPost_ret (v := .tuple #[.agg #[.string s, .int .i64 k, .bool f], .agg #[.int .i64 u, .int .i64 d, .int .i64 t]]) (by simp [results, Try.results46, go_sem, p0, p1, p2, q0, q1, q2]) rfl ⟨_, _, _, _, _, _, rfl, hs, hk, ⟨hu, hd, ht⟩, (HF.out _ _ _ _ _ _).drew⟩
  · go_wp2_with fail
    refine (rd_off _ _ _ _ _ _ hok4 _ _ (by omega) (by omega) (by omega) (by omega)).mono ?_
    rintro e w7 ⟨x, rfl, hx, hok7, hg7⟩
    have rB := (hg7.block B (by omega) (by simp; omega)).trans rB
    have rG := (hg7.block G (by omega) (by simp; omega)).trans rG
    have rP := (hg7.block w.heap.size (by omega) (by simp; omega)).trans rP
    have rM := (hg7.block (w.heap.size + 1) (by omega) (by simp; omega)).trans rM
    have HB := HB.grown hg7 HB.size (fun q e => by cases e; omega)
    have e1 : w7.cell? ⟨G, 1, none⟩ = some (.int .i64 d) := by rw [cell_of_row _ _ 1 _ _ _ rG]; rfl
    have v1 := frozen_of_row _ _ 1 _ _ rG
    have HG := Lib.hid (heap_setCell_mark w7 G 1 _ _ _ (.int .i64 x) rG)
    have HBx := Lib.hid ((Below.heap_setCell w7 ⟨G, 1, none⟩ (.int .i64 x) B (by show B ≠ G; omega)).trans rB)
    have HP := Lib.hid ((Below.heap_setCell w7 ⟨G, 1, none⟩ (.int .i64 x) w.heap.size (by show w.heap.size ≠ G; omega)).trans rP)
    have HM := Lib.hid ((Below.heap_setCell w7 ⟨G, 1, none⟩ (.int .i64 x) (w.heap.size + 1) (by show w.heap.size + 1 ≠ G; omega)).trans rM)
    have HBs := Lib.hid (HB.setCell (p := ⟨G, 1, none⟩) (by show w.heap.size ≤ G; omega) (.int .i64 x))
    clear rB rG rP rM hok4 hok7 hg7 HB
    go_wp2_with fail
    have rB := HBx.out; have rG := HG.out; have rP := HP.out; have rM := HM.out; have HB := HBs.out
    clear HBx HG HP HM HBs e1 v1
    generalize w7.setCell ⟨G, 1, none⟩ (.int .i64 x) = w8 at *
    have b0 : w8.cell? ⟨B, 0, none⟩ = some (.string s) := by rw [cell_of_row _ _ 0 _ _ _ rB]; rfl
    have b1 : w8.cell? ⟨B, 1, none⟩ = some (.int .i64 k) := by rw [cell_of_row _ _ 1 _ _ _ rB]; rfl
    have b2 : w8.cell? ⟨B, 2, none⟩ = some (.bool f) := by rw [cell_of_row _ _ 2 _ _ _ rB]; rfl
    have e0 : w8.cell? ⟨G, 0, none⟩ = some (.int .i64 u) := by rw [cell_of_row _ _ 0 _ _ _ rG]; rfl
    have e1 : w8.cell? ⟨G, 1, none⟩ = some (.int .i64 x) := by rw [cell_of_row _ _ 1 _ _ _ rG]; rfl
    have e2 : w8.cell? ⟨G, 2, none⟩ = some (.int .i64 t) := by rw [cell_of_row _ _ 2 _ _ _ rG]; rfl
    have p0 : w8.cell? ⟨w.heap.size, 0, none⟩ = some (.string ⟨#[]⟩) := by rw [cell_of_row _ _ 0 _ _ _ rP]; rfl
    have p1 : w8.cell? ⟨w.heap.size, 1, none⟩ = some (.int .i64 0) := by rw [cell_of_row _ _ 1 _ _ _ rP]; rfl
    have p2 : w8.cell? ⟨w.heap.size, 2, none⟩ = some (.bool false) := by rw [cell_of_row _ _ 2 _ _ _ rP]; rfl
    have q0 : w8.cell? ⟨w.heap.size + 1, 0, none⟩ = some (.int .i64 0) := by rw [cell_of_row _ _ 0 _ _ _ rM]; rfl
    have q1 : w8.cell? ⟨w.heap.size + 1, 1, none⟩ = some (.int .i64 0) := by rw [cell_of_row _ _ 1 _ _ _ rM]; rfl
    have q2 : w8.cell? ⟨w.heap.size + 1, 2, none⟩ = some (.int .i64 0) := by rw [cell_of_row _ _ 2 _ _ _ rM]; rfl
    have g0 := frozen_of_row _ _ 0 _ _ rP
    have g1 := frozen_of_row _ _ 1 _ _ rP
    have g2 := frozen_of_row _ _ 2 _ _ rP
    have i0 := frozen_of_row _ _ 0 _ _ rM
    have i1 := frozen_of_row _ _ 1 _ _ rM
    have i2 := frozen_of_row _ _ 2 _ _ rM
    have HF := Lib.hid (fun (x0 y0 v0 x1 y1 v1 : Value) => below_set3 (below_set3 HB (Nat.le_refl w.heap.size) x0 y0 v0) (Nat.le_succ w.heap.size) x1 y1 v1)
    have hGP : ¬ G = w.heap.size := by omega
    have hGM : ¬ G = w.heap.size + 1 := by omega
    have hPG : ¬ w.heap.size = G := by omega
    have hMG : ¬ w.heap.size + 1 = G := by omega
    clear rB rG rP rM
    go_region
    all_goals
      go_wp2_with fail
      exact bodyPost_ret (v := .tuple #[.agg #[.string s, .int .i64 k, .bool f], .agg #[.int .i64 u, .int .i64 x, .int .i64 t]]) (by simp [results, Try.results46, go_sem, p0, p1, p2, q0, q1, q2]) rfl ⟨_, _, _, _, _, _, rfl, hs, hk, ⟨hu, hx, ht⟩, (HF.out _ _ _ _ _ _).drew⟩
set_option maxHeartbeats 4000000 in
theorem drawMyersCol (a : Option Addr) (len cap : Nat) (z : List Int) (w : World) (hr : IsRow .u8 w a len cap z) (hl : len ≤ 1048576) :
    Calls Try.prog 53 #[.slice a len cap] w fun e w' => ∃ (s : ByteArray) (k : Int) (f : Bool) (u d t : Int), e = .returned (.tuple #[.agg #[.string s, .int .i64 k, .bool f], .agg #[.int .i64 u, .int .i64 d, .int .i64 t]]) ∧ s.size ≤ 8 ∧ i64B k ∧ (i64B u ∧ i64B d ∧ i64B t) ∧ Below w.heap.size w w' := by
  go_enter Try.func53, Try.ntmps53
  go_wp2_with fail
  have rP := heap_alloc2_old w (.cells #[.string ⟨#[]⟩, .int .i64 0, .bool false] 31) (.cells #[.int .i64 0, .int .i64 0, .int .i64 0] 51)
  have rM := heap_alloc2_new w (.cells #[.string ⟨#[]⟩, .int .i64 0, .bool false] 31) (.cells #[.int .i64 0, .int .i64 0, .int .i64 0] 51)
  have hb0 : Below w.heap.size w ((w.alloc (.cells #[.string ⟨#[]⟩, .int .i64 0, .bool false] 31)).alloc (.cells #[.int .i64 0, .int .i64 0, .int .i64 0] 51)) := (by repeat (first | exact Below.refl _ _ | assumption | (refine Below.drew ?_) | (refine below_drewN ?_ _) | (refine Below.alloc ?_ (by first | omega | (simp; done) | (simp; omega)) _) | (refine Below.setCell ?_ (by first | omega | (simp; done) | (simp; omega)) _)))
  have z0 : w.heap.size + 1 < ((w.alloc (.cells #[.string ⟨#[]⟩, .int .i64 0, .bool false] 31)).alloc (.cells #[.int .i64 0, .int .i64 0, .int .i64 0] 51)).heap.size := by simp
  have hr2 := isRow_below hr hb0
  generalize ((w.alloc (.cells #[.string ⟨#[]⟩, .int .i64 0, .bool false] 31)).alloc (.cells #[.int .i64 0, .int .i64 0, .int .i64 0] 51)) = w0 at *
  refine (drawMyersOk _ _ _ _ _ hr2 hl).mono ?_
  rintro e w1 ⟨s, k, f, u, d, t, rfl, hs, hk, ⟨hu, hd, ht⟩, hb1⟩
  have rP := (hb1.block w.heap.size (by omega)).trans rP
  have rM := (hb1.block (w.heap.size + 1) (by omega)).trans rM
  have HB := hb0.trans (hb1.mono hb0.size)
  have p0 : w1.cell? ⟨w.heap.size, 0, none⟩ = some (.string ⟨#[]⟩) := by rw [cell_of_row _ _ 0 _ _ _ rP]; rfl
  have p1 : w1.cell? ⟨w.heap.size, 1, none⟩ = some (.int .i64 0) := by rw [cell_of_row _ _ 1 _ _ _ rP]; rfl
  have p2 : w1.cell? ⟨w.heap.size, 2, none⟩ = some (.bool false) := by rw [cell_of_row _ _ 2 _ _ _ rP]; rfl
  have q0 : w1.cell? ⟨w.heap.size + 1, 0, none⟩ = some (.int .i64 0) := by rw [cell_of_row _ _ 0 _ _ _ rM]; rfl
  have q1 : w1.cell? ⟨w.heap.size + 1, 1, none⟩ = some (.int .i64 0) := by rw [cell_of_row _ _ 1 _ _ _ rM]; rfl
  have q2 : w1.cell? ⟨w.heap.size + 1, 2, none⟩ = some (.int .i64 0) := by rw [cell_of_row _ _ 2 _ _ _ rM]; rfl
  have g0 := frozen_of_row _ _ 0 _ _ rP
  have g1 := frozen_of_row _ _ 1 _ _ rP
  have g2 := frozen_of_row _ _ 2 _ _ rP
  have i0 := frozen_of_row _ _ 0 _ _ rM
  have i1 := frozen_of_row _ _ 1 _ _ rM
  have i2 := frozen_of_row _ _ 2 _ _ rM
  have HF := Lib.hid (fun (x0 y0 v0 x1 y1 v1 : Value) => below_set3 (below_set3 HB (Nat.le_refl w.heap.size) x0 y0 v0) (Nat.le_succ w.heap.size) x1 y1 v1)
  clear rP rM hb0 hb1 hr2
  go_wp2_with fail
  exact bodyPost_ret (v := .tuple #[.agg #[.string s, .int .i64 k, .bool f], .agg #[.int .i64 u, .int .i64 d, .int .i64 t]]) (by simp [results, Try.results53, go_sem, p0, p1, p2, q0, q1, q2]) rfl ⟨_, _, _, _, _, _, rfl, hs, hk, ⟨hu, hd, ht⟩, HF.out _ _ _ _ _ _⟩
end Go.Proofs.Ytgocfpdodbhcaaa

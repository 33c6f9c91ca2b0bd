/-
  Chapter 4: what is drawn: a state, with its pattern.
-/
import Derived.Test.YtgocfpdodbhcaaaColDraw2
import Derived.Test.YtgocfpdodbhcaaaL4New
import Derived.StillTailTactics
namespace Go.Proofs.Ytgocfpdodbhcaaa
open Go.RowKit
set_option linter.unusedVariables false
set_option maxRecDepth 100000
theorem set3_heap_far {X : World} {b r : Nat} (h : r ≠ b) (x y v : Value) : (((X.setCell ⟨b, 0, none⟩ x).setCell ⟨b, 1, none⟩ y).setCell ⟨b, 2, none⟩ v).heap[r]? = X.heap[r]? :=
  (Below.heap_setCell _ ⟨b, 2, none⟩ _ r h).trans ((Below.heap_setCell _ ⟨b, 1, none⟩ _ r h).trans (Below.heap_setCell _ ⟨b, 0, none⟩ _ r h))
theorem set3_size (X : World) (b : Nat) (x y v : Value) : (((X.setCell ⟨b, 0, none⟩ x).setCell ⟨b, 1, none⟩ y).setCell ⟨b, 2, none⟩ v).heap.size = X.heap.size := by simp [World.setCell]
theorem grown_drew {w w1 : World} {r : Option Nat} (h : w.grownBy w1 r) : w.grownBy w1.drew r := ⟨h.os, h.tape, h.output, h.size, h.block⟩
set_option maxHeartbeats 4000000 in
theorem rd_myers (w : World) (R : Nat) (a : Option Addr) (len cap : Nat) (z : List Int) (h : RdOk w R a len cap z) :
    Calls Try.prog 135 #[.pointer (some ⟨R, 0, none⟩)] w fun e w' => ∃ (s : ByteArray) (k : Int) (f : Bool) (u d t : Int), e = .returned (.tuple #[.agg #[.string s, .int .i64 k, .bool f], .agg #[.int .i64 u, .int .i64 d, .int .i64 t]]) ∧ s.size ≤ 8 ∧ i64B k ∧ (i64B u ∧ i64B d ∧ i64B t) ∧ RdOk w' R a len cap z ∧ w.grownBy w' (some R) := by
  have hR := h.lt
  go_enter Try.func135, Try.ntmps135
  go_wp2_with fail
  have rP := heap_alloc2_old w (.cells #[.string ⟨#[]⟩, .int .i64 0, .bool false] 31) (.cells #[.int .i64 0, .int .i64 0, .int .i64 0] 51)
  have rM := heap_alloc2_new w (.cells #[.string ⟨#[]⟩, .int .i64 0, .bool false] 31) (.cells #[.int .i64 0, .int .i64 0, .int .i64 0] 51)
  have hok0 := (h.alloc (.cells #[.string ⟨#[]⟩, .int .i64 0, .bool false] 31)).alloc (.cells #[.int .i64 0, .int .i64 0, .int .i64 0] 51)
  have hw0 := grownBy_alloc (World.grownBy_alloc w (.cells #[.string ⟨#[]⟩, .int .i64 0, .bool false] 31) (some R)) (.cells #[.int .i64 0, .int .i64 0, .int .i64 0] 51)
  have z0 : w.heap.size + 1 < ((w.alloc (.cells #[.string ⟨#[]⟩, .int .i64 0, .bool false] 31)).alloc (.cells #[.int .i64 0, .int .i64 0, .int .i64 0] 51)).heap.size := by simp
  generalize ((w.alloc (.cells #[.string ⟨#[]⟩, .int .i64 0, .bool false] 31)).alloc (.cells #[.int .i64 0, .int .i64 0, .int .i64 0] 51)) = w0 at *
  refine (rd_pattern _ _ _ _ _ _ hok0).mono ?_
  rintro e w1 ⟨s, k, f, rfl, hs, hk, hok1, hg1⟩
  have rP := (hg1.block w.heap.size (by omega) (by simp; omega)).trans rP
  have rM := (hg1.block (w.heap.size + 1) (by omega) (by simp; omega)).trans rM
  have hw1 := grownBy_trans hw0 hg1
  have z1 := hg1.size
  clear hok0 hw0 hg1
  go_wp2_with fail
  have rB := heap_alloc_new w1 (.cells #[.string s, .int .i64 k, .bool f] 31)
  have rP := (Below.heap_alloc w1 (.cells #[.string s, .int .i64 k, .bool f] 31) w.heap.size (by omega)).trans rP
  have rM := (Below.heap_alloc w1 (.cells #[.string s, .int .i64 k, .bool f] 31) (w.heap.size + 1) (by omega)).trans rM
  have hok2 := hok1.alloc (.cells #[.string s, .int .i64 k, .bool f] 31)
  have hw2 := grownBy_alloc hw1 (.cells #[.string s, .int .i64 k, .bool f] 31)
  have z2 : w1.heap.size < (w1.alloc (.cells #[.string s, .int .i64 k, .bool f] 31)).heap.size := by simp
  clear hok1 hw1
  generalize (w1.alloc (.cells #[.string s, .int .i64 k, .bool f] 31)) = w2 at *
  generalize w1.heap.size = B at *
  refine (rd_column _ _ _ _ _ _ hok2 s k f hs).mono ?_
  rintro e w3 ⟨a', n, cap', rfl, L, hO, hF, hok3, hg3⟩
  have rB := (hg3.block B (by omega) (by simp; omega)).trans rB
  have rP := (hg3.block w.heap.size (by omega) (by simp; omega)).trans rP
  have rM := (hg3.block (w.heap.size + 1) (by omega) (by simp; omega)).trans rM
  have hw3 := grownBy_trans hw2 hg3
  have z3 := hg3.size
  clear hok2 hw2 hg3
  by_cases hn0 : n = 0
  · subst hn0
    have hzero : i64B 0 := ⟨by decide, by decide⟩
    have hokX := hok3
    have hwX := hw3
    have HFIN := Lib.hid (show RdOk ((((((w3.setCell ⟨w.heap.size, 0, none⟩ (.string s)).setCell ⟨w.heap.size, 1, none⟩ (.int .i64 k)).setCell ⟨w.heap.size, 2, none⟩ (.bool f)).setCell ⟨w.heap.size + 1, 0, none⟩ (.int .i64 0)).setCell ⟨w.heap.size + 1, 1, none⟩ (.int .i64 0)).setCell ⟨w.heap.size + 1, 2, none⟩ (.int .i64 0)) R a len cap z from set3_ok (set3_ok hok3 hR _ _ _) (by omega) _ _ _)
    have HFG := Lib.hid (show w.grownBy ((((((w3.setCell ⟨w.heap.size, 0, none⟩ (.string s)).setCell ⟨w.heap.size, 1, none⟩ (.int .i64 k)).setCell ⟨w.heap.size, 2, none⟩ (.bool f)).setCell ⟨w.heap.size + 1, 0, none⟩ (.int .i64 0)).setCell ⟨w.heap.size + 1, 1, none⟩ (.int .i64 0)).setCell ⟨w.heap.size + 1, 2, none⟩ (.int .i64 0)) (some R) from set3_grown (set3_grown hw3 (Nat.le_refl _) _ _ _) (Nat.le_succ _) _ _ _)
    have p0 : w3.cell? ⟨w.heap.size, 0, none⟩ = some (.string ⟨#[]⟩) := by rw [cell_of_row _ _ 0 _ _ _ rP]; rfl
    have p1 : w3.cell? ⟨w.heap.size, 1, none⟩ = some (.int .i64 0) := by rw [cell_of_row _ _ 1 _ _ _ rP]; rfl
    have p2 : w3.cell? ⟨w.heap.size, 2, none⟩ = some (.bool false) := by rw [cell_of_row _ _ 2 _ _ _ rP]; rfl
    have q0 : w3.cell? ⟨w.heap.size + 1, 0, none⟩ = some (.int .i64 0) := by rw [cell_of_row _ _ 0 _ _ _ rM]; rfl
    have q1 : w3.cell? ⟨w.heap.size + 1, 1, none⟩ = some (.int .i64 0) := by rw [cell_of_row _ _ 1 _ _ _ rM]; rfl
    have q2 : w3.cell? ⟨w.heap.size + 1, 2, none⟩ = some (.int .i64 0) := by rw [cell_of_row _ _ 2 _ _ _ rM]; rfl
    have b0 : w3.cell? ⟨B, 0, none⟩ = some (.string s) := by rw [cell_of_row _ _ 0 _ _ _ rB]; rfl
    have b1 : w3.cell? ⟨B, 1, none⟩ = some (.int .i64 k) := by rw [cell_of_row _ _ 1 _ _ _ rB]; rfl
    have b2 : w3.cell? ⟨B, 2, none⟩ = some (.bool f) := by rw [cell_of_row _ _ 2 _ _ _ rB]; rfl
    have g0 := frozen_of_row _ _ 0 _ _ rP
    have g1 := frozen_of_row _ _ 1 _ _ rP
    have g2 := frozen_of_row _ _ 2 _ _ rP
    have i0 := frozen_of_row _ _ 0 _ _ rM
    have i1 := frozen_of_row _ _ 1 _ _ rM
    have i2 := frozen_of_row _ _ 2 _ _ rM
    clear rB rP rM hok3 hw3 hO hF hokX hwX
    go_wp2_with fail
    exact bodyPost_ret (v := .tuple #[.agg #[.string s, .int .i64 k, .bool f], .agg #[.int .i64 0, .int .i64 0, .int .i64 0]]) (by simp [results, Try.results135, go_sem, p0, p1, p2, q0, q1, q2]) rfl ⟨_, _, _, _, _, _, rfl, hs, hk, ⟨hzero, hzero, hzero⟩, HFIN.out, HFG.out⟩
  · have hln := hO.len
    have hn21 : n ≤ 21 := by have := hF.len (by omega); omega
    have hn1 : 1 ≤ n := by omega
    have hnb : ((n : Int) == 0) = false := by simp; omega
    have hni : ¬ (n : Int) = 0 := by omega
    have HBD := Lib.hid (show ∀ i, i < n → 0 ≤ intAt L i ∧ intAt L i ≤ 21 from fun i hi => by have := hF.bnd i (by omega); omega)
    have HLN := Lib.hid hln
    have hU0 := maskTo_ltI (upG L) (n - 1)
    have hD0 := maskTo_ltI (dnG L) (n - 1)
    have hpw := pow_small (n - 1) (by omega)
    have hT0 := HBD.out (n - 1) (by omega)
    have hbu : i64B (maskTo (upG L) (n - 1) : Nat) := ⟨by omega, by omega⟩
    have hbd : i64B (maskTo (dnG L) (n - 1) : Nat) := ⟨by omega, by omega⟩
    have hbt : i64B (intAt L (n - 1)) := ⟨by omega, by omega⟩
    have HBU := Lib.hid hbu; have HBDn := Lib.hid hbd; have HBT := Lib.hid hbt
    clear hln hU0 hD0 hpw hT0 hbu hbd hbt hF
    go_wp2_with fail
    refine (spec_l4Of L a' n cap' 21 _ HLN.out hO.ints hn1 hn21 HBD.out (by decide)).mono ?_
    rintro e w4 ⟨rfl, hb4⟩
    unfold myV
    have rB := (hb4.block B (by omega)).trans rB
    have rP := (hb4.block w.heap.size (by omega)).trans rP
    have rM := (hb4.block (w.heap.size + 1) (by omega)).trans rM
    have hok4 := hok3.below hb4
    have hw4 := grownBy_trans hw3 (grown_of_below hb4 (some R))
    have z4 := hb4.size
    clear hok3 hw3 hb4 hO
    go_wp2_with fail
    have rG := heap_alloc_new w4 (.cells #[.int .i64 (maskTo (upG L) (n - 1) : Nat), .int .i64 (maskTo (dnG L) (n - 1) : Nat), .int .i64 (intAt L (n - 1))] 51)
    have rB := (Below.heap_alloc w4 (.cells #[.int .i64 (maskTo (upG L) (n - 1) : Nat), .int .i64 (maskTo (dnG L) (n - 1) : Nat), .int .i64 (intAt L (n - 1))] 51) B (by omega)).trans rB
    have rP := (Below.heap_alloc w4 (.cells #[.int .i64 (maskTo (upG L) (n - 1) : Nat), .int .i64 (maskTo (dnG L) (n - 1) : Nat), .int .i64 (intAt L (n - 1))] 51) w.heap.size (by omega)).trans rP
    have rM := (Below.heap_alloc w4 (.cells #[.int .i64 (maskTo (upG L) (n - 1) : Nat), .int .i64 (maskTo (dnG L) (n - 1) : Nat), .int .i64 (intAt L (n - 1))] 51) (w.heap.size + 1) (by omega)).trans rM
    have hok5 := hok4.alloc (.cells #[.int .i64 (maskTo (upG L) (n - 1) : Nat), .int .i64 (maskTo (dnG L) (n - 1) : Nat), .int .i64 (intAt L (n - 1))] 51)
    have hw5 := grownBy_alloc hw4 (.cells #[.int .i64 (maskTo (upG L) (n - 1) : Nat), .int .i64 (maskTo (dnG L) (n - 1) : Nat), .int .i64 (intAt L (n - 1))] 51)
    have z5 : w4.heap.size < (w4.alloc (.cells #[.int .i64 (maskTo (upG L) (n - 1) : Nat), .int .i64 (maskTo (dnG L) (n - 1) : Nat), .int .i64 (intAt L (n - 1))] 51)).heap.size := by simp
    clear hok4 hw4
    generalize w4.alloc (.cells #[.int .i64 (maskTo (upG L) (n - 1) : Nat), .int .i64 (maskTo (dnG L) (n - 1) : Nat), .int .i64 (intAt L (n - 1))] 51) = w5 at *
    generalize w4.heap.size = G at *
    refine (rd_below _ _ _ _ _ _ hok5 _).mono ?_
    rintro e w6 ⟨q, rfl, ⟨hq0, _, hq1, _⟩, hok6, hg6⟩
    have rB := (hg6.block B (by omega) (by simp; omega)).trans rB
    have rG := (hg6.block G (by omega) (by simp; omega)).trans rG
    have rP := (hg6.block w.heap.size (by omega) (by simp; omega)).trans rP
    have rM := (hg6.block (w.heap.size + 1) (by omega) (by simp; omega)).trans rM
    have hw6 := grownBy_trans hw5 hg6
    have z6 := hg6.size
    clear hok5 hw5 hg6 hq1
    by_cases c0 : q = 28
    · subst c0
      go_wp2_with fail
      refine (rd_off _ _ _ _ _ _ hok6 _ _ (by omega) (by omega) (by omega) (by omega)).mono ?_
      rintro e w7 ⟨x, rfl, hx, hok7, hg7⟩
      have rB := (hg7.block B (by omega) (by simp; omega)).trans rB
      have rG := (hg7.block G (by omega) (by simp; omega)).trans rG
      have rP := (hg7.block w.heap.size (by omega) (by simp; omega)).trans rP
      have rM := (hg7.block (w.heap.size + 1) (by omega) (by simp; omega)).trans rM
      have hw7 := grownBy_trans hw6 hg7
      have e0 : w7.cell? ⟨G, 0, none⟩ = some (.int .i64 (maskTo (upG L) (n - 1) : Nat)) := by rw [cell_of_row _ _ 0 _ _ _ rG]; rfl
      have v1 := frozen_of_row _ _ 0 _ _ rG
      have HG := Lib.hid (heap_setCell_mark w7 G 0 _ _ _ (.int .i64 x) rG)
      have HBx := Lib.hid ((Below.heap_setCell w7 ⟨G, 0, none⟩ (.int .i64 x) B (by show B ≠ G; omega)).trans rB)
      have HP := Lib.hid ((Below.heap_setCell w7 ⟨G, 0, none⟩ (.int .i64 x) w.heap.size (by show w.heap.size ≠ G; omega)).trans rP)
      have HM := Lib.hid ((Below.heap_setCell w7 ⟨G, 0, none⟩ (.int .i64 x) (w.heap.size + 1) (by show w.heap.size + 1 ≠ G; omega)).trans rM)
      have HOK := Lib.hid (hok7.grown (grownBy_setCell w7 G 0 (.int .i64 x)) (fun q e => by cases e; omega))
      have HW := Lib.hid (grownBy_own hw7 (grownBy_setCell w7 G 0 (.int .i64 x)) (fun q e => by cases e; omega))
      clear rB rG rP rM hok6 hok7 hg7 hw6 hw7
      go_wp2_with fail
      have rB := HBx.out; have rG := HG.out; have rP := HP.out; have rM := HM.out; have hokX := HOK.out; have hwX := HW.out
      clear HBx HG HP HM HOK HW e0 v1
      generalize w7.setCell ⟨G, 0, none⟩ (.int .i64 x) = w8 at *
      have HF1 := Lib.hid (fun (x0 y0 v0 x1 y1 v1 : Value) => set3_ok (set3_ok hokX hR x0 y0 v0) (show R < w.heap.size + 1 by omega) x1 y1 v1)
      have HF2 := Lib.hid (fun (x0 y0 v0 x1 y1 v1 : Value) => set3_grown (set3_grown hwX (Nat.le_refl w.heap.size) x0 y0 v0) (Nat.le_succ w.heap.size) x1 y1 v1)
      have b0 : w8.cell? ⟨B, 0, none⟩ = some (.string s) := by rw [cell_of_row _ _ 0 _ _ _ (show w8.heap[B]? = _ from rB)]; rfl
      have b1 : w8.cell? ⟨B, 1, none⟩ = some (.int .i64 k) := by rw [cell_of_row _ _ 1 _ _ _ (show w8.heap[B]? = _ from rB)]; rfl
      have b2 : w8.cell? ⟨B, 2, none⟩ = some (.bool f) := by rw [cell_of_row _ _ 2 _ _ _ (show w8.heap[B]? = _ from rB)]; rfl
      have e0 : w8.cell? ⟨G, 0, none⟩ = some (.int .i64 x) := by rw [cell_of_row _ _ 0 _ _ _ (show w8.heap[G]? = _ from rG)]; rfl
      have e1 : w8.cell? ⟨G, 1, none⟩ = some (.int .i64 (maskTo (dnG L) (n - 1) : Nat)) := by rw [cell_of_row _ _ 1 _ _ _ (show w8.heap[G]? = _ from rG)]; rfl
      have e2 : w8.cell? ⟨G, 2, none⟩ = some (.int .i64 (intAt L (n - 1))) := by rw [cell_of_row _ _ 2 _ _ _ (show w8.heap[G]? = _ from rG)]; rfl
      have p0 : w8.cell? ⟨w.heap.size, 0, none⟩ = some (.string ⟨#[]⟩) := by rw [cell_of_row _ _ 0 _ _ _ (show w8.heap[w.heap.size]? = _ from rP)]; rfl
      have p1 : w8.cell? ⟨w.heap.size, 1, none⟩ = some (.int .i64 0) := by rw [cell_of_row _ _ 1 _ _ _ (show w8.heap[w.heap.size]? = _ from rP)]; rfl
      have p2 : w8.cell? ⟨w.heap.size, 2, none⟩ = some (.bool false) := by rw [cell_of_row _ _ 2 _ _ _ (show w8.heap[w.heap.size]? = _ from rP)]; rfl
      have q0 : w8.cell? ⟨w.heap.size + 1, 0, none⟩ = some (.int .i64 0) := by rw [cell_of_row _ _ 0 _ _ _ (show w8.heap[w.heap.size + 1]? = _ from rM)]; rfl
      have q1 : w8.cell? ⟨w.heap.size + 1, 1, none⟩ = some (.int .i64 0) := by rw [cell_of_row _ _ 1 _ _ _ (show w8.heap[w.heap.size + 1]? = _ from rM)]; rfl
      have q2 : w8.cell? ⟨w.heap.size + 1, 2, none⟩ = some (.int .i64 0) := by rw [cell_of_row _ _ 2 _ _ _ (show w8.heap[w.heap.size + 1]? = _ from rM)]; rfl
      have g0 := frozen_of_row _ _ 0 _ _ (show w8.heap[w.heap.size]? = _ from rP)
      have g1 := frozen_of_row _ _ 1 _ _ (show w8.heap[w.heap.size]? = _ from rP)
      have g2 := frozen_of_row _ _ 2 _ _ (show w8.heap[w.heap.size]? = _ from rP)
      have i0 := frozen_of_row _ _ 0 _ _ (show w8.heap[w.heap.size + 1]? = _ from rM)
      have i1 := frozen_of_row _ _ 1 _ _ (show w8.heap[w.heap.size + 1]? = _ from rM)
      have i2 := frozen_of_row _ _ 2 _ _ (show w8.heap[w.heap.size + 1]? = _ from rM)
      clear rB rG rP rM hokX hwX
      have hGP : ¬ G = w.heap.size := by omega
      have hGM : ¬ G = w.heap.size + 1 := by omega
      have hPG : ¬ w.heap.size = G := by omega
      have hMG : ¬ w.heap.size + 1 = G := by omega
      go_region
      all_goals
        go_wp2_with fail
        exact bodyPost_ret (v := .tuple #[.agg #[.string s, .int .i64 k, .bool f], .agg #[.int .i64 x, .int .i64 (maskTo (dnG L) (n - 1) : Nat), .int .i64 (intAt L (n - 1))]]) (by simp [results, Try.results135, go_sem, p0, p1, p2, q0, q1, q2]) rfl ⟨_, _, _, _, _, _, rfl, hs, hk, ⟨hx, HBDn.out, HBT.out⟩, (HF1.out _ _ _ _ _ _).below ((Below.refl _ _).drew), grown_drew (HF2.out _ _ _ _ _ _)⟩
    · by_cases c1 : q = 29
      · subst c1
        go_wp2_with fail
        refine (rd_off _ _ _ _ _ _ hok6 _ _ (by omega) (by omega) (by omega) (by omega)).mono ?_
        rintro e w7 ⟨x, rfl, hx, hok7, hg7⟩
        have rB := (hg7.block B (by omega) (by simp; omega)).trans rB
        have rG := (hg7.block G (by omega) (by simp; omega)).trans rG
        have rP := (hg7.block w.heap.size (by omega) (by simp; omega)).trans rP
        have rM := (hg7.block (w.heap.size + 1) (by omega) (by simp; omega)).trans rM
        have hw7 := grownBy_trans hw6 hg7
        have e2 : w7.cell? ⟨G, 2, none⟩ = some (.int .i64 (intAt L (n - 1))) := by rw [cell_of_row _ _ 2 _ _ _ rG]; rfl
        have v1 := frozen_of_row _ _ 2 _ _ rG
        have HG := Lib.hid (heap_setCell_mark w7 G 2 _ _ _ (.int .i64 x) rG)
        have HBx := Lib.hid ((Below.heap_setCell w7 ⟨G, 2, none⟩ (.int .i64 x) B (by show B ≠ G; omega)).trans rB)
        have HP := Lib.hid ((Below.heap_setCell w7 ⟨G, 2, none⟩ (.int .i64 x) w.heap.size (by show w.heap.size ≠ G; omega)).trans rP)
        have HM := Lib.hid ((Below.heap_setCell w7 ⟨G, 2, none⟩ (.int .i64 x) (w.heap.size + 1) (by show w.heap.size + 1 ≠ G; omega)).trans rM)
        have HOK := Lib.hid (hok7.grown (grownBy_setCell w7 G 2 (.int .i64 x)) (fun q e => by cases e; omega))
        have HW := Lib.hid (grownBy_own hw7 (grownBy_setCell w7 G 2 (.int .i64 x)) (fun q e => by cases e; omega))
        clear rB rG rP rM hok6 hok7 hg7 hw6 hw7
        go_wp2_with fail
        have rB := HBx.out; have rG := HG.out; have rP := HP.out; have rM := HM.out; have hokX := HOK.out; have hwX := HW.out
        clear HBx HG HP HM HOK HW e2 v1
        generalize w7.setCell ⟨G, 2, none⟩ (.int .i64 x) = w8 at *
        have HF1 := Lib.hid (fun (x0 y0 v0 x1 y1 v1 : Value) => set3_ok (set3_ok hokX hR x0 y0 v0) (show R < w.heap.size + 1 by omega) x1 y1 v1)
        have HF2 := Lib.hid (fun (x0 y0 v0 x1 y1 v1 : Value) => set3_grown (set3_grown hwX (Nat.le_refl w.heap.size) x0 y0 v0) (Nat.le_succ w.heap.size) x1 y1 v1)
        have b0 : w8.cell? ⟨B, 0, none⟩ = some (.string s) := by rw [cell_of_row _ _ 0 _ _ _ (show w8.heap[B]? = _ from rB)]; rfl
        have b1 : w8.cell? ⟨B, 1, none⟩ = some (.int .i64 k) := by rw [cell_of_row _ _ 1 _ _ _ (show w8.heap[B]? = _ from rB)]; rfl
        have b2 : w8.cell? ⟨B, 2, none⟩ = some (.bool f) := by rw [cell_of_row _ _ 2 _ _ _ (show w8.heap[B]? = _ from rB)]; rfl
        have e0 : w8.cell? ⟨G, 0, none⟩ = some (.int .i64 (maskTo (upG L) (n - 1) : Nat)) := by rw [cell_of_row _ _ 0 _ _ _ (show w8.heap[G]? = _ from rG)]; rfl
        have e1 : w8.cell? ⟨G, 1, none⟩ = some (.int .i64 (maskTo (dnG L) (n - 1) : Nat)) := by rw [cell_of_row _ _ 1 _ _ _ (show w8.heap[G]? = _ from rG)]; rfl
        have e2 : w8.cell? ⟨G, 2, none⟩ = some (.int .i64 x) := by rw [cell_of_row _ _ 2 _ _ _ (show w8.heap[G]? = _ from rG)]; rfl
        have p0 : w8.cell? ⟨w.heap.size, 0, none⟩ = some (.string ⟨#[]⟩) := by rw [cell_of_row _ _ 0 _ _ _ (show w8.heap[w.heap.size]? = _ from rP)]; rfl
        have p1 : w8.cell? ⟨w.heap.size, 1, none⟩ = some (.int .i64 0) := by rw [cell_of_row _ _ 1 _ _ _ (show w8.heap[w.heap.size]? = _ from rP)]; rfl
        have p2 : w8.cell? ⟨w.heap.size, 2, none⟩ = some (.bool false) := by rw [cell_of_row _ _ 2 _ _ _ (show w8.heap[w.heap.size]? = _ from rP)]; rfl
        have q0 : w8.cell? ⟨w.heap.size + 1, 0, none⟩ = some (.int .i64 0) := by rw [cell_of_row _ _ 0 _ _ _ (show w8.heap[w.heap.size + 1]? = _ from rM)]; rfl
        have q1 : w8.cell? ⟨w.heap.size + 1, 1, none⟩ = some (.int .i64 0) := by rw [cell_of_row _ _ 1 _ _ _ (show w8.heap[w.heap.size + 1]? = _ from rM)]; rfl
        have q2 : w8.cell? ⟨w.heap.size + 1, 2, none⟩ = some (.int .i64 0) := by rw [cell_of_row _ _ 2 _ _ _ (show w8.heap[w.heap.size + 1]? = _ from rM)]; rfl
        have g0 := frozen_of_row _ _ 0 _ _ (show w8.heap[w.heap.size]? = _ from rP)
        have g1 := frozen_of_row _ _ 1 _ _ (show w8.heap[w.heap.size]? = _ from rP)
        have g2 := frozen_of_row _ _ 2 _ _ (show w8.heap[w.heap.size]? = _ from rP)
        have i0 := frozen_of_row _ _ 0 _ _ (show w8.heap[w.heap.size + 1]? = _ from rM)
        have i1 := frozen_of_row _ _ 1 _ _ (show w8.heap[w.heap.size + 1]? = _ from rM)
        have i2 := frozen_of_row _ _ 2 _ _ (show w8.heap[w.heap.size + 1]? = _ from rM)
        clear rB rG rP rM hokX hwX
        have hGP : ¬ G = w.heap.size := by omega
        have hGM : ¬ G = w.heap.size + 1 := by omega
        have hPG : ¬ w.heap.size = G := by omega
        have hMG : ¬ w.heap.size + 1 = G := by omega
        go_region
        all_goals
          go_wp2_with fail
          exact bodyPost_ret (v := .tuple #[.agg #[.string s, .int .i64 k, .bool f], .agg #[.int .i64 (maskTo (upG L) (n - 1) : Nat), .int .i64 (maskTo (dnG L) (n - 1) : Nat), .int .i64 x]]) (by simp [results, Try.results135, go_sem, p0, p1, p2, q0, q1, q2]) rfl ⟨_, _, _, _, _, _, rfl, hs, hk, ⟨HBU.out, HBDn.out, hx⟩, (HF1.out _ _ _ _ _ _).below ((Below.refl _ _).drew), grown_drew (HF2.out _ _ _ _ _ _)⟩
      · have k0 : (q == 28) = false := by simpa using c0
        have k1 : (q == 29) = false := by simpa using c1
        go_wp2_with fail
        have hokX := hok6; have hwX := hw6
        clear hok6 hw6
        have HF1 := Lib.hid (fun (x0 y0 v0 x1 y1 v1 : Value) => set3_ok (set3_ok hokX hR x0 y0 v0) (show R < w.heap.size + 1 by omega) x1 y1 v1)
        have HF2 := Lib.hid (fun (x0 y0 v0 x1 y1 v1 : Value) => set3_grown (set3_grown hwX (Nat.le_refl w.heap.size) x0 y0 v0) (Nat.le_succ w.heap.size) x1 y1 v1)
        have b0 : w6.cell? ⟨B, 0, none⟩ = some (.string s) := by rw [cell_of_row _ _ 0 _ _ _ (show w6.heap[B]? = _ from rB)]; rfl
        have b1 : w6.cell? ⟨B, 1, none⟩ = some (.int .i64 k) := by rw [cell_of_row _ _ 1 _ _ _ (show w6.heap[B]? = _ from rB)]; rfl
        have b2 : w6.cell? ⟨B, 2, none⟩ = some (.bool f) := by rw [cell_of_row _ _ 2 _ _ _ (show w6.heap[B]? = _ from rB)]; rfl
        have e0 : w6.cell? ⟨G, 0, none⟩ = some (.int .i64 (maskTo (upG L) (n - 1) : Nat)) := by rw [cell_of_row _ _ 0 _ _ _ (show w6.heap[G]? = _ from rG)]; rfl
        have e1 : w6.cell? ⟨G, 1, none⟩ = some (.int .i64 (maskTo (dnG L) (n - 1) : Nat)) := by rw [cell_of_row _ _ 1 _ _ _ (show w6.heap[G]? = _ from rG)]; rfl
        have e2 : w6.cell? ⟨G, 2, none⟩ = some (.int .i64 (intAt L (n - 1))) := by rw [cell_of_row _ _ 2 _ _ _ (show w6.heap[G]? = _ from rG)]; rfl
        have p0 : w6.cell? ⟨w.heap.size, 0, none⟩ = some (.string ⟨#[]⟩) := by rw [cell_of_row _ _ 0 _ _ _ (show w6.heap[w.heap.size]? = _ from rP)]; rfl
        have p1 : w6.cell? ⟨w.heap.size, 1, none⟩ = some (.int .i64 0) := by rw [cell_of_row _ _ 1 _ _ _ (show w6.heap[w.heap.size]? = _ from rP)]; rfl
        have p2 : w6.cell? ⟨w.heap.size, 2, none⟩ = some (.bool false) := by rw [cell_of_row _ _ 2 _ _ _ (show w6.heap[w.heap.size]? = _ from rP)]; rfl
        have q0 : w6.cell? ⟨w.heap.size + 1, 0, none⟩ = some (.int .i64 0) := by rw [cell_of_row _ _ 0 _ _ _ (show w6.heap[w.heap.size + 1]? = _ from rM)]; rfl
        have q1 : w6.cell? ⟨w.heap.size + 1, 1, none⟩ = some (.int .i64 0) := by rw [cell_of_row _ _ 1 _ _ _ (show w6.heap[w.heap.size + 1]? = _ from rM)]; rfl
        have q2 : w6.cell? ⟨w.heap.size + 1, 2, none⟩ = some (.int .i64 0) := by rw [cell_of_row _ _ 2 _ _ _ (show w6.heap[w.heap.size + 1]? = _ from rM)]; rfl
        have g0 := frozen_of_row _ _ 0 _ _ (show w6.heap[w.heap.size]? = _ from rP)
        have g1 := frozen_of_row _ _ 1 _ _ (show w6.heap[w.heap.size]? = _ from rP)
        have g2 := frozen_of_row _ _ 2 _ _ (show w6.heap[w.heap.size]? = _ from rP)
        have i0 := frozen_of_row _ _ 0 _ _ (show w6.heap[w.heap.size + 1]? = _ from rM)
        have i1 := frozen_of_row _ _ 1 _ _ (show w6.heap[w.heap.size + 1]? = _ from rM)
        have i2 := frozen_of_row _ _ 2 _ _ (show w6.heap[w.heap.size + 1]? = _ from rM)
        clear rB rG rP rM hokX hwX
        have hGP : ¬ G = w.heap.size := by omega
        have hGM : ¬ G = w.heap.size + 1 := by omega
        have hPG : ¬ w.heap.size = G := by omega
        have hMG : ¬ w.heap.size + 1 = G := by omega
        go_region
        all_goals
          go_wp2_with fail
          exact bodyPost_ret (v := .tuple #[.agg #[.string s, .int .i64 k, .bool f], .agg #[.int .i64 (maskTo (upG L) (n - 1) : Nat), .int .i64 (maskTo (dnG L) (n - 1) : Nat), .int .i64 (intAt L (n - 1))]]) (by simp [results, Try.results135, go_sem, p0, p1, p2, q0, q1, q2]) rfl ⟨_, _, _, _, _, _, rfl, hs, hk, ⟨HBU.out, HBDn.out, HBT.out⟩, (HF1.out _ _ _ _ _ _).below ((Below.refl _ _).drew), grown_drew (HF2.out _ _ _ _ _ _)⟩
end Go.Proofs.Ytgocfpdodbhcaaa

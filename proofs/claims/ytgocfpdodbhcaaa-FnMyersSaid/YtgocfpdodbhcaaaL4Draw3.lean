/-
  Chapter 4: what DrawMyersNew and DrawMyersStep hand over.
-/
import Derived.Test.YtgocfpdodbhcaaaL4Draw2
import Derived.Deep.RegionHeld3
namespace Go.Proofs.Ytgocfpdodbhcaaa
open Go.RowKit
set_option linter.unusedVariables false
set_option maxRecDepth 100000
theorem drawMyersNew (a : Option Addr) (len cap : Nat) (z : List Int) (w : World) (hr : IsRow .u8 w a len cap z) (hl : len ≤ 1048576) :
    Calls Try.prog 45 #[.slice a len cap] w fun e w' => ∃ (s : ByteArray) (k : Int) (f : Bool), e = .returned (.agg #[.string s, .int .i64 k, .bool f]) ∧ s.size ≤ 8 ∧ i64B k ∧ Below w.heap.size w w' := by
  go_enter Try.func45, Try.ntmps45
  go_wp2_with fail
  refine (drawPatternOk _ _ _ _ _ (isRow_below hr (by repeat (first | exact Below.refl _ _ | assumption | (refine Below.drew ?_) | (refine below_drewN ?_ _) | (refine Below.alloc ?_ (by first | omega | (simp; done) | (simp; omega)) _) | (refine Below.setCell ?_ (by first | omega | (simp; done) | (simp; omega)) _)))) hl).mono ?_
  rintro e w1 ⟨s, k, f, rfl, hs, hk, hb1⟩
  obtain ⟨hc_w1, hf_w1⟩ := bcell hb1; have HT_w1 : Below w.heap.size w w1 := below_step (by repeat (first | exact Below.refl _ _ | assumption | (refine Below.drew ?_) | (refine below_drewN ?_ _) | (refine Below.alloc ?_ (by first | omega | (simp; done) | (simp; omega)) _) | (refine Below.setCell ?_ (by first | omega | (simp; done) | (simp; omega)) _))) hb1; have hz_w_w1 : w.heap.size < w1.heap.size := (by have h1 := hb1.size; (try simp at h1); omega)
  go_wp2_with fail
  exact bodyPost_ret (v := .agg #[.string s, .int .i64 k, .bool f]) (by simp [results, Try.results45, go_sem, hc_w1]) rfl ⟨_, _, _, rfl, hs, hk, (by repeat (first | exact Below.refl _ _ | assumption | (refine Below.drew ?_) | (refine below_drewN ?_ _) | (refine Below.alloc ?_ (by first | omega | (simp; done) | (simp; omega)) _) | (refine Below.setCell ?_ (by first | omega | (simp; done) | (simp; omega)) _)))⟩
theorem keep6f {X : World} {B G r : Nat} {s : ByteArray} {k u d t : Int} {f : Bool} (hB : B ≠ r) (hG : G ≠ r) (x y v : Value)
    (h : X.cell? ⟨B, 0, none⟩ = some (.string s) ∧ X.cell? ⟨B, 1, none⟩ = some (.int .i64 k) ∧ X.cell? ⟨B, 2, none⟩ = some (.bool f) ∧ X.cell? ⟨G, 0, none⟩ = some (.int .i64 u) ∧ X.cell? ⟨G, 1, none⟩ = some (.int .i64 d) ∧ X.cell? ⟨G, 2, none⟩ = some (.int .i64 t)) : (((X.setCell ⟨r, 0, none⟩ x).setCell ⟨r, 1, none⟩ y).setCell ⟨r, 2, none⟩ v).cell? ⟨B, 0, none⟩ = some (.string s) ∧ (((X.setCell ⟨r, 0, none⟩ x).setCell ⟨r, 1, none⟩ y).setCell ⟨r, 2, none⟩ v).cell? ⟨B, 1, none⟩ = some (.int .i64 k) ∧ (((X.setCell ⟨r, 0, none⟩ x).setCell ⟨r, 1, none⟩ y).setCell ⟨r, 2, none⟩ v).cell? ⟨B, 2, none⟩ = some (.bool f) ∧ (((X.setCell ⟨r, 0, none⟩ x).setCell ⟨r, 1, none⟩ y).setCell ⟨r, 2, none⟩ v).cell? ⟨G, 0, none⟩ = some (.int .i64 u) ∧ (((X.setCell ⟨r, 0, none⟩ x).setCell ⟨r, 1, none⟩ y).setCell ⟨r, 2, none⟩ v).cell? ⟨G, 1, none⟩ = some (.int .i64 d) ∧ (((X.setCell ⟨r, 0, none⟩ x).setCell ⟨r, 1, none⟩ y).setCell ⟨r, 2, none⟩ v).cell? ⟨G, 2, none⟩ = some (.int .i64 t) := by
  obtain ⟨a0, a1, a2, b0, b1, b2⟩ := h
  exact ⟨(set3_cell hB _ _ _).trans a0, (set3_cell hB _ _ _).trans a1, (set3_cell hB _ _ _).trans a2, (set3_cell hG _ _ _).trans b0, (set3_cell hG _ _ _).trans b1, (set3_cell hG _ _ _).trans b2⟩
set_option maxHeartbeats 4000000 in
theorem drawMyersStep (a : Option Addr) (len cap : Nat) (z : List Int) (w : World) (hr : IsRow .u8 w a len cap z) (hl : len ≤ 1048576) :
    Calls Try.prog 43 #[.slice a len cap] w fun e w' => ∃ (s : ByteArray) (k : Int) (f : Bool) (u d t b : Int), e = .returned (.tuple #[.agg #[.string s, .int .i64 k, .bool f], .agg #[.int .i64 u, .int .i64 d, .int .i64 t], .int .i64 b]) ∧ s.size ≤ 8 ∧ i64B k ∧ (i64B u ∧ i64B d ∧ i64B t) ∧ i64B b ∧ Below w.heap.size w w' := by
  go_enter Try.func43, Try.ntmps43
  go_wp2_with fail
  have rP := heap_alloc2_old w (.cells #[.string ⟨#[]⟩, .int .i64 0, .bool false] 31) (.cells #[.int .i64 0, .int .i64 0, .int .i64 0] 51)
  have rM := heap_alloc2_new w (.cells #[.string ⟨#[]⟩, .int .i64 0, .bool false] 31) (.cells #[.int .i64 0, .int .i64 0, .int .i64 0] 51)
  have hb0 : Below w.heap.size w ((w.alloc (.cells #[.string ⟨#[]⟩, .int .i64 0, .bool false] 31)).alloc (.cells #[.int .i64 0, .int .i64 0, .int .i64 0] 51)) := (by repeat (first | exact Below.refl _ _ | assumption | (refine Below.drew ?_) | (refine below_drewN ?_ _) | (refine Below.alloc ?_ (by first | omega | (simp; done) | (simp; omega)) _) | (refine Below.setCell ?_ (by first | omega | (simp; done) | (simp; omega)) _)))
  have z0 : w.heap.size + 1 < ((w.alloc (.cells #[.string ⟨#[]⟩, .int .i64 0, .bool false] 31)).alloc (.cells #[.int .i64 0, .int .i64 0, .int .i64 0] 51)).heap.size := by simp
  have hr2 := isRow_below hr hb0
  generalize ((w.alloc (.cells #[.string ⟨#[]⟩, .int .i64 0, .bool false] 31)).alloc (.cells #[.int .i64 0, .int .i64 0, .int .i64 0] 51)) = w0 at *
  refine (l1Open_any _ _ _ _ _ hr2 hl).mono ?_
  rintro e w1 ⟨rfl, hok1, hb1⟩
  have rP := (hb1.block w.heap.size (by omega)).trans rP
  have rM := (hb1.block (w.heap.size + 1) (by omega)).trans rM
  have HB := hb0.trans (hb1.mono hb0.size)
  have z1 := hok1.lt
  clear hb0 hb1 hr2 hr
  generalize w0.heap.size = R at *
  go_wp2_with fail
  refine (rd_myers _ _ _ _ _ _ hok1).mono ?_
  rintro e w2 ⟨s, k, f, u, d, t, rfl, hs, hk, ⟨hu, hd, ht⟩, hok2, hg2⟩
  have rP := (hg2.block w.heap.size (by omega) (by simp; omega)).trans rP
  have rM := (hg2.block (w.heap.size + 1) (by omega) (by simp; omega)).trans rM
  have HB := HB.grown hg2 HB.size (fun q e => by cases e; omega)
  have z2 := hg2.size
  clear hok1 hg2
  go_wp2_with fail
  have rB := heap_alloc2_old w2 (.cells #[.string s, .int .i64 k, .bool f] 31) (.cells #[.int .i64 u, .int .i64 d, .int .i64 t] 51)
  have rG := heap_alloc2_new w2 (.cells #[.string s, .int .i64 k, .bool f] 31) (.cells #[.int .i64 u, .int .i64 d, .int .i64 t] 51)
  have hb3 := ((Below.refl w2.heap.size w2).alloc (Nat.le_refl _) (.cells #[.string s, .int .i64 k, .bool f] 31)).alloc (by simp) (.cells #[.int .i64 u, .int .i64 d, .int .i64 t] 51)
  have z3 : w2.heap.size + 1 < ((w2.alloc (.cells #[.string s, .int .i64 k, .bool f] 31)).alloc (.cells #[.int .i64 u, .int .i64 d, .int .i64 t] 51)).heap.size := by simp
  have hok3 := hok2.below hb3
  have rP := (hb3.block w.heap.size (by omega)).trans rP
  have rM := (hb3.block (w.heap.size + 1) (by omega)).trans rM
  have HB := HB.trans (hb3.mono HB.size)
  clear hb3 hok2
  generalize ((w2.alloc (.cells #[.string s, .int .i64 k, .bool f] 31)).alloc (.cells #[.int .i64 u, .int .i64 d, .int .i64 t] 51)) = w3 at *
  obtain ⟨G, hG⟩ : ∃ G, w2.heap.size + 1 = G := ⟨_, rfl⟩
  rw [hG] at rG z3 ⊢
  generalize w2.heap.size = B at *
  have hBG : B < G := by omega
  clear hG
  have hBP : B ≠ w.heap.size := by omega
  have hBM : B ≠ w.heap.size + 1 := by omega
  have hGP : G ≠ w.heap.size := by omega
  have hGM : G ≠ w.heap.size + 1 := by omega
  go_wp2_with fail
  have hokd := hok3.below ((Below.refl w3.heap.size w3).drew)
  have hS4 : w3.drew.cell? ⟨B, 0, none⟩ = some (.string s) ∧ w3.drew.cell? ⟨B, 1, none⟩ = some (.int .i64 k) ∧ w3.drew.cell? ⟨B, 2, none⟩ = some (.bool f) ∧ w3.drew.cell? ⟨G, 0, none⟩ = some (.int .i64 u) ∧ w3.drew.cell? ⟨G, 1, none⟩ = some (.int .i64 d) ∧ w3.drew.cell? ⟨G, 2, none⟩ = some (.int .i64 t) := ⟨by rw [cell_of_row _ _ 0 _ _ _ (show w3.drew.heap[B]? = _ from rB)]; rfl, by rw [cell_of_row _ _ 1 _ _ _ (show w3.drew.heap[B]? = _ from rB)]; rfl, by rw [cell_of_row _ _ 2 _ _ _ (show w3.drew.heap[B]? = _ from rB)]; rfl, by rw [cell_of_row _ _ 0 _ _ _ (show w3.drew.heap[G]? = _ from rG)]; rfl, by rw [cell_of_row _ _ 1 _ _ _ (show w3.drew.heap[G]? = _ from rG)]; rfl, by rw [cell_of_row _ _ 2 _ _ _ (show w3.drew.heap[G]? = _ from rG)]; rfl⟩
  have rPd : w3.drew.heap[w.heap.size]? = some (.cells #[.string ⟨#[]⟩, .int .i64 0, .bool false] 31 (0, 0)) := rP
  have rMd : w3.drew.heap[w.heap.size + 1]? = some (.cells #[.int .i64 0, .int .i64 0, .int .i64 0] 51 (0, 0)) := rM
  have rBd : w3.drew.heap[B]? = some (.cells #[.string s, .int .i64 k, .bool f] 31 (0, 0)) := rB
  have rGd : w3.drew.heap[G]? = some (.cells #[.int .i64 u, .int .i64 d, .int .i64 t] 51 (0, 0)) := rG
  have HBd := HB.drew
  have zd : G < w3.drew.heap.size := by show G < w3.heap.size; omega
  clear rB rG rP rM hok3
  go_region_held3 (fun W => W.cell? ⟨B, 0, none⟩ = some (.string s) ∧ W.cell? ⟨B, 1, none⟩ = some (.int .i64 k) ∧ W.cell? ⟨B, 2, none⟩ = some (.bool f) ∧ W.cell? ⟨G, 0, none⟩ = some (.int .i64 u) ∧ W.cell? ⟨G, 1, none⟩ = some (.int .i64 d) ∧ W.cell? ⟨G, 2, none⟩ = some (.int .i64 t)) (first | with_reducible exact hS4 | with_reducible exact hS5 | with_reducible exact hS6 | with_reducible exact hS7 | go_keep)
    (first | (go_at_call 123; (with_reducible refine (rd_any _ _ _ _ _ _ hokd).mono ?_); rintro e w5 ⟨b, rfl, hbb, hok5, hg5⟩; have rB := (hg5.block B (by omega) (by simp; omega)).trans rBd; have rG := (hg5.block G (by omega) (by simp; omega)).trans rGd; have rP := (hg5.block w.heap.size (by omega) (by simp; omega)).trans rPd; have rM := (hg5.block (w.heap.size + 1) (by omega) (by simp; omega)).trans rMd; have hS5 : w5.cell? ⟨B, 0, none⟩ = some (.string s) ∧ w5.cell? ⟨B, 1, none⟩ = some (.int .i64 k) ∧ w5.cell? ⟨B, 2, none⟩ = some (.bool f) ∧ w5.cell? ⟨G, 0, none⟩ = some (.int .i64 u) ∧ w5.cell? ⟨G, 1, none⟩ = some (.int .i64 d) ∧ w5.cell? ⟨G, 2, none⟩ = some (.int .i64 t) := ⟨by rw [cell_of_row _ _ 0 _ _ _ rB]; rfl, by rw [cell_of_row _ _ 1 _ _ _ rB]; rfl, by rw [cell_of_row _ _ 2 _ _ _ rB]; rfl, by rw [cell_of_row _ _ 0 _ _ _ rG]; rfl, by rw [cell_of_row _ _ 1 _ _ _ rG]; rfl, by rw [cell_of_row _ _ 2 _ _ _ rG]; rfl⟩; have hS6 : (((w5.setCell ⟨w.heap.size, 0, none⟩ (.string s)).setCell ⟨w.heap.size, 1, none⟩ (.int .i64 k)).setCell ⟨w.heap.size, 2, none⟩ (.bool f)).cell? ⟨B, 0, none⟩ = some (.string s) ∧ (((w5.setCell ⟨w.heap.size, 0, none⟩ (.string s)).setCell ⟨w.heap.size, 1, none⟩ (.int .i64 k)).setCell ⟨w.heap.size, 2, none⟩ (.bool f)).cell? ⟨B, 1, none⟩ = some (.int .i64 k) ∧ (((w5.setCell ⟨w.heap.size, 0, none⟩ (.string s)).setCell ⟨w.heap.size, 1, none⟩ (.int .i64 k)).setCell ⟨w.heap.size, 2, none⟩ (.bool f)).cell? ⟨B, 2, none⟩ = some (.bool f) ∧ (((w5.setCell ⟨w.heap.size, 0, none⟩ (.string s)).setCell ⟨w.heap.size, 1, none⟩ (.int .i64 k)).setCell ⟨w.heap.size, 2, none⟩ (.bool f)).cell? ⟨G, 0, none⟩ = some (.int .i64 u) ∧ (((w5.setCell ⟨w.heap.size, 0, none⟩ (.string s)).setCell ⟨w.heap.size, 1, none⟩ (.int .i64 k)).setCell ⟨w.heap.size, 2, none⟩ (.bool f)).cell? ⟨G, 1, none⟩ = some (.int .i64 d) ∧ (((w5.setCell ⟨w.heap.size, 0, none⟩ (.string s)).setCell ⟨w.heap.size, 1, none⟩ (.int .i64 k)).setCell ⟨w.heap.size, 2, none⟩ (.bool f)).cell? ⟨G, 2, none⟩ = some (.int .i64 t) := keep6f hBP hGP _ _ _ hS5; have hS7 : ((((((w5.setCell ⟨w.heap.size, 0, none⟩ (.string s)).setCell ⟨w.heap.size, 1, none⟩ (.int .i64 k)).setCell ⟨w.heap.size, 2, none⟩ (.bool f)).setCell ⟨w.heap.size + 1, 0, none⟩ (.int .i64 u)).setCell ⟨w.heap.size + 1, 1, none⟩ (.int .i64 d)).setCell ⟨w.heap.size + 1, 2, none⟩ (.int .i64 t)).cell? ⟨B, 0, none⟩ = some (.string s) ∧ ((((((w5.setCell ⟨w.heap.size, 0, none⟩ (.string s)).setCell ⟨w.heap.size, 1, none⟩ (.int .i64 k)).setCell ⟨w.heap.size, 2, none⟩ (.bool f)).setCell ⟨w.heap.size + 1, 0, none⟩ (.int .i64 u)).setCell ⟨w.heap.size + 1, 1, none⟩ (.int .i64 d)).setCell ⟨w.heap.size + 1, 2, none⟩ (.int .i64 t)).cell? ⟨B, 1, none⟩ = some (.int .i64 k) ∧ ((((((w5.setCell ⟨w.heap.size, 0, none⟩ (.string s)).setCell ⟨w.heap.size, 1, none⟩ (.int .i64 k)).setCell ⟨w.heap.size, 2, none⟩ (.bool f)).setCell ⟨w.heap.size + 1, 0, none⟩ (.int .i64 u)).setCell ⟨w.heap.size + 1, 1, none⟩ (.int .i64 d)).setCell ⟨w.heap.size + 1, 2, none⟩ (.int .i64 t)).cell? ⟨B, 2, none⟩ = some (.bool f) ∧ ((((((w5.setCell ⟨w.heap.size, 0, none⟩ (.string s)).setCell ⟨w.heap.size, 1, none⟩ (.int .i64 k)).setCell ⟨w.heap.size, 2, none⟩ (.bool f)).setCell ⟨w.heap.size + 1, 0, none⟩ (.int .i64 u)).setCell ⟨w.heap.size + 1, 1, none⟩ (.int .i64 d)).setCell ⟨w.heap.size + 1, 2, none⟩ (.int .i64 t)).cell? ⟨G, 0, none⟩ = some (.int .i64 u) ∧ ((((((w5.setCell ⟨w.heap.size, 0, none⟩ (.string s)).setCell ⟨w.heap.size, 1, none⟩ (.int .i64 k)).setCell ⟨w.heap.size, 2, none⟩ (.bool f)).setCell ⟨w.heap.size + 1, 0, none⟩ (.int .i64 u)).setCell ⟨w.heap.size + 1, 1, none⟩ (.int .i64 d)).setCell ⟨w.heap.size + 1, 2, none⟩ (.int .i64 t)).cell? ⟨G, 1, none⟩ = some (.int .i64 d) ∧ ((((((w5.setCell ⟨w.heap.size, 0, none⟩ (.string s)).setCell ⟨w.heap.size, 1, none⟩ (.int .i64 k)).setCell ⟨w.heap.size, 2, none⟩ (.bool f)).setCell ⟨w.heap.size + 1, 0, none⟩ (.int .i64 u)).setCell ⟨w.heap.size + 1, 1, none⟩ (.int .i64 d)).setCell ⟨w.heap.size + 1, 2, none⟩ (.int .i64 t)).cell? ⟨G, 2, none⟩ = some (.int .i64 t) := keep6f hBM hGM _ _ _ hS6; have p0 : w5.cell? ⟨w.heap.size, 0, none⟩ = some (.string ⟨#[]⟩) := (by rw [cell_of_row _ _ 0 _ _ _ rP]; rfl); have p1 : w5.cell? ⟨w.heap.size, 1, none⟩ = some (.int .i64 0) := (by rw [cell_of_row _ _ 1 _ _ _ rP]; rfl); have p2 : w5.cell? ⟨w.heap.size, 2, none⟩ = some (.bool false) := (by rw [cell_of_row _ _ 2 _ _ _ rP]; rfl); have q0 : w5.cell? ⟨w.heap.size + 1, 0, none⟩ = some (.int .i64 0) := (by rw [cell_of_row _ _ 0 _ _ _ rM]; rfl); have q1 : w5.cell? ⟨w.heap.size + 1, 1, none⟩ = some (.int .i64 0) := (by rw [cell_of_row _ _ 1 _ _ _ rM]; rfl); have q2 : w5.cell? ⟨w.heap.size + 1, 2, none⟩ = some (.int .i64 0) := (by rw [cell_of_row _ _ 2 _ _ _ rM]; rfl); have g0 := frozen_of_row _ _ 0 _ _ rP; have g1 := frozen_of_row _ _ 1 _ _ rP; have g2 := frozen_of_row _ _ 2 _ _ rP; have i0 := frozen_of_row _ _ 0 _ _ rM; have i1 := frozen_of_row _ _ 1 _ _ rM; have i2 := frozen_of_row _ _ 2 _ _ rM))
  have hB5 : Below w.heap.size w w5 := HBd.grown hg5 HBd.size (fun q e => by cases e; omega)
  have HF := Lib.hid (fun (x0 y0 v0 x1 y1 v1 : Value) => below_set3 (below_set3 hB5 (Nat.le_refl w.heap.size) x0 y0 v0) (Nat.le_succ w.heap.size) x1 y1 v1)
  clear hS4 hS5 hS6 hS7 rB rG rP rM rPd rMd rBd rGd
  go_wp2_with fail
  exact bodyPost_ret (v := .tuple #[.agg #[.string s, .int .i64 k, .bool f], .agg #[.int .i64 u, .int .i64 d, .int .i64 t], .int .i64 b]) (by simp [results, Try.results43, go_sem, p0, p1, p2, q0, q1, q2]) rfl ⟨_, _, _, _, _, _, _, rfl, hs, hk, ⟨hu, hd, ht⟩, hbb, HF.out _ _ _ _ _ _⟩
end Go.Proofs.Ytgocfpdodbhcaaa

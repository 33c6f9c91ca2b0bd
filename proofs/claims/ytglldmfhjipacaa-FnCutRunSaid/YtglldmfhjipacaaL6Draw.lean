/-
  Chapter 6: what is drawn: cut-off columns, with their pattern.
-/
import Derived.Test.YtglldmfhjipacaaColDraw2
import Derived.Test.YtglldmfhjipacaaL6StepS
import Derived.Test.YtglldmfhjipacaaL6NewC
import Derived.Test.YtglldmfhjipacaaOwnOn
import Derived.StillTailTactics
import Derived.Deep.Cut
import Derived.Deep.CutRange
import Derived.Deep.RegionHeld3
namespace Go.Proofs.Ytglldmfhjipacaa
open Go.RowKit
set_option linter.unusedVariables false
set_option maxRecDepth 100000
theorem grown_drew6 {w w1 : World} {r : Option Nat} (h : w.grownBy w1 r) : w.grownBy w1.drew r := ⟨h.os, h.tape, h.output, h.size, h.block⟩
theorem below_lt6 {q : Int} {n : Nat} (h3 : (n : Int) ≤ 1 → q = 0) (h1 : 1 < (n : Int) → q < (n : Int)) (hn : 0 < n) : q < (n : Int) := by
  by_cases h : (n : Int) ≤ 1
  · have := h3 h; omega
  · exact h1 (by omega)
/-- a cut-off column's numbers that are few and fit -/
def CutFine (L : List Int) (x : Int) : Prop := L.length ≤ 21 ∧ (∀ i, i < L.length → -9223372036854775808 ≤ intAt L i ∧ intAt L i ≤ 9223372036854775807) ∧ (-9223372036854775808 ≤ x ∧ x ≤ 9223372036854775807)
theorem capI_fine {C : Nat → Int} {k : Int} (hk0 : 0 ≤ k) (hk : k ≤ 4) {n : Nat} (hC : ∀ i, i ≤ n → 0 ≤ C i) : ∀ i, i ≤ n → 0 ≤ capI C k i ∧ capI C k i ≤ 5 := by
  intro i hi
  have := hC i hi
  unfold capI; split <;> omega
theorem cutL_fine {C : Nat → Int} {k : Int} {n : Nat} (hk0 : 0 ≤ k) (hk : k ≤ 4) (hn : n ≤ 20) (hC : ∀ i, i ≤ n → 0 ≤ C i) : CutFine (cutL C k (n + 1)) ((lastLe C k (n + 1) : Nat) : Int) := by
  have hl := lastLe_lt C k (n + 1) (by omega)
  refine ⟨by unfold cutL; rw [tab_length]; omega, fun i hi => ?_, by omega⟩
  unfold cutL at hi ⊢
  rw [tab_length] at hi
  rw [intAt_tab _ _ _ hi]
  have := capI_fine hk0 hk hC i (by omega)
  omega
theorem fine_cutNew (s : ByteArray) (k : Int) (hs : s.size ≤ 8) : CutFine (cutNewL s k) (cutNewI s k) := by
  unfold cutNewL cutNewI
  cases hp : patOk s k
  · exact ⟨by simp, fun i hi => by simp at hi, by simp⟩
  · obtain ⟨_, hn, h0, hk⟩ := (patOk_iff s k).1 hp
    refine cutL_fine h0 hk hn fun i hi => ?_
    unfold firstI; rw [intAt_tab _ _ _ (by omega)]; unfold idI; omega
theorem fine_cutStep {s : ByteArray} {k : Int} {L : List Int} {x : Int} (f : Bool) (b : Int) (hs : s.size ≤ 8) (h : CutFine L x) : CutFine (cutStepL s k f b L x) (cutStepI s k f b L x) := by
  unfold cutStepL cutStepI
  cases hc : cutStepB s k b L x
  · exact ⟨by simp, fun i hi => by simp at hi, by simp⟩
  · unfold cutStepB at hc
    simp only [Bool.and_eq_true] at hc
    have hcp := cutOkB_iff.1 hc.1
    obtain ⟨_, hn, h0, hk⟩ := (patOk_iff s k).1 hcp.1
    obtain ⟨q, rfl⟩ := Int.eq_ofNat_of_zero_le hcp.2.1
    obtain ⟨w0, w1, w2⟩ := whole_steps hc.1
    exact cutL_fine h0 hk hn fun i hi => (near_next (eq := maskG s f b) ⟨w0, fun i _ => w1 i, w2⟩).1.2.1 i hi
theorem cutFine_set {L : List Int} {x : Int} (h : CutFine L x) (q : Nat) (y : Int) (hy : -9223372036854775808 ≤ y ∧ y ≤ 9223372036854775807) : CutFine (L.set q y) x := by
  refine ⟨by simpa using h.1, fun i hi => ?_, h.2.2⟩
  rw [List.length_set] at hi
  by_cases hq : q < L.length
  · rw [intAt_set _ _ _ _ hq]; split
    · exact hy
    · exact h.2.1 i hi
  · rw [List.set_eq_of_length_le (by omega)]; exact h.2.1 i hi
theorem set_cut_ok {X : World} {R B : Nat} {a : Option Addr} {len cap : Nat} {zz : List Int} (h : RdOk X R a len cap zz) (hB : R < B) (x y z : Value) (C : Nat) (hC : R < C) (v u : Value) : RdOk (((((X.setCell ⟨B, 0, none⟩ x).setCell ⟨B, 1, none⟩ y).setCell ⟨B, 2, none⟩ z).setCell ⟨C, 0, none⟩ v).setCell ⟨C, 1, none⟩ u) R a len cap zz :=
  ((set3_ok h hB x y z).grown (grownBy_setCell _ C 0 v) (fun q e => by cases e; exact hC)).grown (grownBy_setCell _ C 1 u) (fun q e => by cases e; exact hC)
theorem set_cut_grown {w X : World} {R B : Nat} (h : w.grownBy X (some R)) (hB : w.heap.size ≤ B) (x y z : Value) (C : Nat) (hC : w.heap.size ≤ C) (v u : Value) : w.grownBy (((((X.setCell ⟨B, 0, none⟩ x).setCell ⟨B, 1, none⟩ y).setCell ⟨B, 2, none⟩ z).setCell ⟨C, 0, none⟩ v).setCell ⟨C, 1, none⟩ u) (some R) :=
  grownBy_own (grownBy_own (set3_grown h hB x y z) (grownBy_setCell _ C 0 v) (fun q e => by cases e; exact hC)) (grownBy_setCell _ C 1 u) (fun q e => by cases e; exact hC)
set_option maxHeartbeats 4000000 in
theorem rd_cut (w : World) (R : Nat) (a : Option Addr) (len cap : Nat) (z : List Int) (h : RdOk w R a len cap z) :
    Calls Try.prog 109 #[.pointer (some ⟨R, 0, none⟩)] w fun e w' => ∃ (s : ByteArray) (k : Int) (f : Bool) (a' : Option Addr) (n cap' : Nat) (x : Int), e = .returned (.tuple #[.agg #[.string s, .int .i64 k, .bool f], .agg #[.slice a' n cap', .int .i64 x]]) ∧ s.size ≤ 8 ∧ i64B k ∧ (∃ L : List Int, OwnN w' (w.heap.size + 2) a' n cap' L ∧ CutFine L x) ∧ RdOk w' R a len cap z ∧ w.grownBy w' (some R) := by
  have hR := h.lt
  go_enter Try.func109, Try.ntmps109
  go_wp2_with fail
  have rP := heap_alloc2_old w (.cells #[.string ⟨#[]⟩, .int .i64 0, .bool false] 48) (.cells #[.slice none 0 0, .int .i64 0] 79)
  have rM := heap_alloc2_new w (.cells #[.string ⟨#[]⟩, .int .i64 0, .bool false] 48) (.cells #[.slice none 0 0, .int .i64 0] 79)
  have hok0 := (h.alloc (.cells #[.string ⟨#[]⟩, .int .i64 0, .bool false] 48)).alloc (.cells #[.slice none 0 0, .int .i64 0] 79)
  have hw0 := grownBy_alloc (World.grownBy_alloc w (.cells #[.string ⟨#[]⟩, .int .i64 0, .bool false] 48) (some R)) (.cells #[.slice none 0 0, .int .i64 0] 79)
  have z0 : w.heap.size + 1 < ((w.alloc (.cells #[.string ⟨#[]⟩, .int .i64 0, .bool false] 48)).alloc (.cells #[.slice none 0 0, .int .i64 0] 79)).heap.size := by simp
  generalize ((w.alloc (.cells #[.string ⟨#[]⟩, .int .i64 0, .bool false] 48)).alloc (.cells #[.slice none 0 0, .int .i64 0] 79)) = w0 at *
  refine (rd_pattern _ _ _ _ _ _ hok0).mono ?_
  rintro e w1 ⟨s, k, f, rfl, hs, hk, hok1, hg1⟩
  replace rP := (hg1.block w.heap.size (by omega) (by simp; omega)).trans rP
  replace rM := (hg1.block (w.heap.size + 1) (by omega) (by simp; omega)).trans rM
  have hw1 := grownBy_trans hw0 hg1
  have z1 := hg1.size
  clear hok0 hw0 hg1
  go_wp2_with fail
  have rB := heap_alloc_new w1 (.cells #[.string s, .int .i64 k, .bool f] 48)
  replace rP := (Below.heap_alloc w1 (.cells #[.string s, .int .i64 k, .bool f] 48) w.heap.size (by omega)).trans rP
  replace rM := (Below.heap_alloc w1 (.cells #[.string s, .int .i64 k, .bool f] 48) (w.heap.size + 1) (by omega)).trans rM
  have hok2 := hok1.alloc (.cells #[.string s, .int .i64 k, .bool f] 48)
  have hw2 := grownBy_alloc hw1 (.cells #[.string s, .int .i64 k, .bool f] 48)
  have z2 : w1.heap.size < (w1.alloc (.cells #[.string s, .int .i64 k, .bool f] 48)).heap.size := by simp
  clear hok1 hw1
  generalize (w1.alloc (.cells #[.string s, .int .i64 k, .bool f] 48)) = w2 at *
  generalize w1.heap.size = B at *
  refine (spec_cutNew s k f _ (by omega)).mono ?_
  rintro e w3 ⟨a3, n3, cap3, rfl, hO, hb3⟩
  replace rB := (hb3.block B z2).trans rB
  replace rP := (hb3.block w.heap.size (by omega)).trans rP
  replace rM := (hb3.block (w.heap.size + 1) (by omega)).trans rM
  have hok3 := hok2.below hb3
  have hw3 := grownBy_trans hw2 (grown_of_below hb3 (some R))
  have z3 := hb3.size
  have hF := fine_cutNew s k hs
  have hO3 := hO.mono (C := w.heap.size + 2) (by omega)
  have hlt : ∀ r, (Value.slice a3 n3 cap3).ownBlock = some r → B < r ∧ r ≠ w3.heap.size := fun r hr => by have := hO.2.lt r hr; omega
  generalize cutNewL s k = L3 at *
  generalize cutNewI s k = x3 at *
  have rB4 := (Below.heap_alloc w3 (.cells #[.slice a3 n3 cap3, .int .i64 x3] 79) B (by omega)).trans rB
  have m0 : (w3.alloc (.cells #[.slice a3 n3 cap3, .int .i64 x3] 79)).cell? ⟨B, 0, none⟩ = some (.string s) := by rw [cell_of_row _ _ 0 _ _ _ rB4]; rfl
  have m1 : (w3.alloc (.cells #[.slice a3 n3 cap3, .int .i64 x3] 79)).cell? ⟨B, 1, none⟩ = some (.int .i64 k) := by rw [cell_of_row _ _ 1 _ _ _ rB4]; rfl
  have m2 : (w3.alloc (.cells #[.slice a3 n3 cap3, .int .i64 x3] 79)).cell? ⟨B, 2, none⟩ = some (.bool f) := by rw [cell_of_row _ _ 2 _ _ _ rB4]; rfl
  clear hok2 hw2 hb3 hO
  go_wp2_with fail
  clear m0 m1 m2 rB4
  have rG := heap_alloc_new w3 (.cells #[.slice a3 n3 cap3, .int .i64 x3] 79)
  replace rB := (Below.heap_alloc w3 (.cells #[.slice a3 n3 cap3, .int .i64 x3] 79) B (by omega)).trans rB
  replace rP := (Below.heap_alloc w3 (.cells #[.slice a3 n3 cap3, .int .i64 x3] 79) w.heap.size (by omega)).trans rP
  replace rM := (Below.heap_alloc w3 (.cells #[.slice a3 n3 cap3, .int .i64 x3] 79) (w.heap.size + 1) (by omega)).trans rM
  have hok4 := hok3.alloc (.cells #[.slice a3 n3 cap3, .int .i64 x3] 79)
  have hw4 := grownBy_alloc hw3 (.cells #[.slice a3 n3 cap3, .int .i64 x3] 79)
  have hO4 := hO3.kept ((Below.refl w3.heap.size w3).alloc (Nat.le_refl _) (.cells #[.slice a3 n3 cap3, .int .i64 x3] 79))
  have z4 : w3.heap.size < (w3.alloc (.cells #[.slice a3 n3 cap3, .int .i64 x3] 79)).heap.size := by simp
  clear hok3 hw3 hO3
  generalize w3.alloc (.cells #[.slice a3 n3 cap3, .int .i64 x3] 79) = w4 at *
  generalize w3.heap.size = G at *
  refine (rd_text _ _ _ _ _ _ hok4 s k f hs).mono ?_
  rintro e w5 ⟨t, rfl, ht, hok5, hg5⟩
  replace rB := (hg5.block B (by omega) (by simp; omega)).trans rB
  replace rG := (hg5.block G (by omega) (by simp; omega)).trans rG
  replace rP := (hg5.block w.heap.size (by omega) (by simp; omega)).trans rP
  replace rM := (hg5.block (w.heap.size + 1) (by omega) (by simp; omega)).trans rM
  have hw5 := grownBy_trans hw4 hg5
  have hO5 := hO4.kept_hi hg5 (fun q e => by cases e; omega)
  have z5 := hg5.size
  clear hok4 hw4 hO4 hg5
  go_wp2_with fail
  refine (rd_below _ _ _ _ _ _ hok5 _).mono ?_
  rintro e w6 ⟨q, rfl, ⟨hq0, hq3, hq1, _⟩, hok6, hg6⟩
  have hqt : q ≤ (t.size : Int) := by
    by_cases h1 : (t.size : Int) + 1 ≤ 1
    · have := hq3 h1; omega
    · have := hq1 (by omega); omega
  replace rB := (hg6.block B (by omega) (by simp; omega)).trans rB
  replace rG := (hg6.block G (by omega) (by simp; omega)).trans rG
  replace rP := (hg6.block w.heap.size (by omega) (by simp; omega)).trans rP
  replace rM := (hg6.block (w.heap.size + 1) (by omega) (by simp; omega)).trans rM
  have hw6 := grownBy_trans hw5 hg6
  have hO6 := hO5.kept_hi hg6 (fun q e => by cases e; omega)
  have z6 := hg6.size
  clear hok5 hw5 hO5 hg6 hq1 hq3
  obtain ⟨q, rfl⟩ := Int.eq_ofNat_of_zero_le hq0
  have hGz : G < w6.heap.size := by omega
  have hBG : B < G := by omega
  have hWB : w.heap.size + 1 < B := by omega
  have hRw : R < w.heap.size := by omega
  clear z0 z1 z2 z3 z4 z5 z6 hq0
  have HF := Lib.hid hF; clear hF
  have HE := Lib.hid hlt; clear hlt
  go_wp2_with fail
  go_loopw [7] (fun i wr => ∃ (j : Nat) (a' : Option Addr) (n cap' : Nat) (L : List Int) (x : Int), i = .int .i64 j ∧ j ≤ t.size ∧ OwnN wr (w.heap.size + 2) a' n cap' L ∧ CutFine L x ∧ (∀ r, (Value.slice a' n cap').ownBlock = some r → B < r ∧ r ≠ G) ∧ RdOk wr R a len cap z ∧ w.grownBy wr (some R) ∧ wr.heap[B]? = some (.cells #[.string s, .int .i64 k, .bool f] 48 (0, 0)) ∧ wr.heap[G]? = some (.cells #[.slice a' n cap', .int .i64 x] 79 (0, 0)) ∧ wr.heap[w.heap.size]? = some (.cells #[.string ⟨#[]⟩, .int .i64 0, .bool false] 48 (0, 0)) ∧ wr.heap[w.heap.size + 1]? = some (.cells #[.slice none 0 0, .int .i64 0] 79 (0, 0)) ∧ G < wr.heap.size)
    (fun i _ => (intOf i).toNat)
  case atStart => exact ⟨q, _, _, _, _, _, rfl, by omega, hO6, HF.out, HE.out, hok6, hw6, rB, rG, rP, rM, hGz⟩
  case round =>
    obtain ⟨j, a', n, cap', L, x, rfl, hj, hO, hF, hE, hok, hgr, cB, cG, cP, cM, hz⟩ := hrel
    clear rB rG rP rM hO6 HF HE hok6 hw6 hGz
    have HF := Lib.hid hF; have HE := Lib.hid hE
    have hn5 : n ≤ 21 := by have := hF.1; have := hO.len; omega
    clear hF hE
    by_cases hj0 : j = 0
    · subst hj0
      go_wp2_with fail
      refine (rd_once _ _ _ _ _ _ hok _ (by omega) (by omega)).mono ?_
      rintro e w7 ⟨o, rfl, hok7, hg7⟩
      have rB := (hg7.block B (by omega) (by simp; omega)).trans cB
      have rG := (hg7.block G (by omega) (by simp; omega)).trans cG
      have rP := (hg7.block w.heap.size (by omega) (by simp; omega)).trans cP
      have rM := (hg7.block (w.heap.size + 1) (by omega) (by simp; omega)).trans cM
      have hw7 := grownBy_trans hgr hg7
      have hO7 := hO.kept_hi hg7 (fun q e => by cases e; omega)
      have z7 : G < w7.heap.size := Nat.lt_of_lt_of_le hz hg7.size
      clear cB cG cP cM hgr hO hok hg7 hz
      cases o
      · go_wp2_with fail
        have hokX := hok7; have hwX := hw7; have hOX := hO7
        clear hok7 hw7 hO7
        have b0 : w7.cell? ⟨B, 0, none⟩ = some (.string s) := by rw [cell_of_row _ _ 0 _ _ _ (show w7.heap[B]? = _ from rB)]; rfl
        have b1 : w7.cell? ⟨B, 1, none⟩ = some (.int .i64 k) := by rw [cell_of_row _ _ 1 _ _ _ (show w7.heap[B]? = _ from rB)]; rfl
        have b2 : w7.cell? ⟨B, 2, none⟩ = some (.bool f) := by rw [cell_of_row _ _ 2 _ _ _ (show w7.heap[B]? = _ from rB)]; rfl
        have e0 : w7.cell? ⟨G, 0, none⟩ = some (.slice a' n cap') := by rw [cell_of_row _ _ 0 _ _ _ (show w7.heap[G]? = _ from rG)]; rfl
        have e1 : w7.cell? ⟨G, 1, none⟩ = some (.int .i64 x) := by rw [cell_of_row _ _ 1 _ _ _ (show w7.heap[G]? = _ from rG)]; rfl
        have p0 : w7.cell? ⟨w.heap.size, 0, none⟩ = some (.string ⟨#[]⟩) := by rw [cell_of_row _ _ 0 _ _ _ (show w7.heap[w.heap.size]? = _ from rP)]; rfl
        have p1 : w7.cell? ⟨w.heap.size, 1, none⟩ = some (.int .i64 0) := by rw [cell_of_row _ _ 1 _ _ _ (show w7.heap[w.heap.size]? = _ from rP)]; rfl
        have p2 : w7.cell? ⟨w.heap.size, 2, none⟩ = some (.bool false) := by rw [cell_of_row _ _ 2 _ _ _ (show w7.heap[w.heap.size]? = _ from rP)]; rfl
        have q0 : w7.cell? ⟨w.heap.size + 1, 0, none⟩ = some (.slice none 0 0) := by rw [cell_of_row _ _ 0 _ _ _ (show w7.heap[w.heap.size + 1]? = _ from rM)]; rfl
        have q1 : w7.cell? ⟨w.heap.size + 1, 1, none⟩ = some (.int .i64 0) := by rw [cell_of_row _ _ 1 _ _ _ (show w7.heap[w.heap.size + 1]? = _ from rM)]; rfl
        have g0 := frozen_of_row _ _ 0 _ _ (show w7.heap[w.heap.size]? = _ from rP)
        have g1 := frozen_of_row _ _ 1 _ _ (show w7.heap[w.heap.size]? = _ from rP)
        have g2 := frozen_of_row _ _ 2 _ _ (show w7.heap[w.heap.size]? = _ from rP)
        have i0 := frozen_of_row _ _ 0 _ _ (show w7.heap[w.heap.size + 1]? = _ from rM)
        have i1 := frozen_of_row _ _ 1 _ _ (show w7.heap[w.heap.size + 1]? = _ from rM)
        have HF1 := Lib.hid (fun (x0 y0 v0 v1 v2 : Value) => set_cut_ok hokX hR x0 y0 v0 (w.heap.size + 1) (show R < w.heap.size + 1 by omega) v1 v2)
        have HF2 := Lib.hid (fun (x0 y0 v0 v1 v2 : Value) => set_cut_grown hwX (Nat.le_refl w.heap.size) x0 y0 v0 (w.heap.size + 1) (Nat.le_succ w.heap.size) v1 v2)
        have HF3 := Lib.hid (fun (x0 y0 v0 v1 v2 : Value) => ((hOX.kept_hi (set3_turn w7 w.heap.size x0 y0 v0) (fun q e => by cases e; omega)).kept_hi (grownBy_setCell _ (w.heap.size + 1) 0 v1) (fun q e => by cases e; omega)).kept_hi (grownBy_setCell _ (w.heap.size + 1) 1 v2) (fun q e => by cases e; omega))
        have HF4 := Lib.hid (show CutFine L x from HF.out)
        have hGP : ¬ G = w.heap.size := by omega
        have hGM : ¬ G = w.heap.size + 1 := by omega
        have hBP : ¬ B = w.heap.size := by omega
        have hBM : ¬ B = w.heap.size + 1 := by omega
        have hPG : ¬ w.heap.size = G := by omega
        have hMG : ¬ w.heap.size + 1 = G := by omega
        have hPB : ¬ w.heap.size = B := by omega
        have hMB : ¬ w.heap.size + 1 = B := by omega
        clear rB rG rP rM hokX hwX hOX
        go_region
        all_goals
          go_wp2_with fail
          exact bodyPost_ret (v := .tuple #[.agg #[.string s, .int .i64 k, .bool f], .agg #[.slice a' n cap', .int .i64 x]]) (by simp [results, Try.results109, go_sem, p0, p1, p2, q0, q1]) rfl ⟨_, _, _, _, _, _, _, rfl, hs, hk, ⟨_, (HF3.out _ _ _ _ _).kept ((Below.refl _ _).drew), HF4.out⟩, (HF1.out _ _ _ _ _).below ((Below.refl _ _).drew), grown_drew6 (HF2.out _ _ _ _ _)⟩
      · have g0 : w7.cell? ⟨G, 0, none⟩ = some (.slice a' n cap') := by rw [cell_of_row _ _ 0 _ _ _ rG]; rfl
        by_cases hn0 : n = 0
        · subst hn0
          go_wp2_with fail
          have hokX := hok7; have hwX := hw7; have hOX := hO7
          clear hok7 hw7 hO7 g0
          have b0 : w7.cell? ⟨B, 0, none⟩ = some (.string s) := by rw [cell_of_row _ _ 0 _ _ _ (show w7.heap[B]? = _ from rB)]; rfl
          have b1 : w7.cell? ⟨B, 1, none⟩ = some (.int .i64 k) := by rw [cell_of_row _ _ 1 _ _ _ (show w7.heap[B]? = _ from rB)]; rfl
          have b2 : w7.cell? ⟨B, 2, none⟩ = some (.bool f) := by rw [cell_of_row _ _ 2 _ _ _ (show w7.heap[B]? = _ from rB)]; rfl
          have e0 : w7.cell? ⟨G, 0, none⟩ = some (.slice a' 0 cap') := by rw [cell_of_row _ _ 0 _ _ _ (show w7.heap[G]? = _ from rG)]; rfl
          have e1 : w7.cell? ⟨G, 1, none⟩ = some (.int .i64 x) := by rw [cell_of_row _ _ 1 _ _ _ (show w7.heap[G]? = _ from rG)]; rfl
          have p0 : w7.cell? ⟨w.heap.size, 0, none⟩ = some (.string ⟨#[]⟩) := by rw [cell_of_row _ _ 0 _ _ _ (show w7.heap[w.heap.size]? = _ from rP)]; rfl
          have p1 : w7.cell? ⟨w.heap.size, 1, none⟩ = some (.int .i64 0) := by rw [cell_of_row _ _ 1 _ _ _ (show w7.heap[w.heap.size]? = _ from rP)]; rfl
          have p2 : w7.cell? ⟨w.heap.size, 2, none⟩ = some (.bool false) := by rw [cell_of_row _ _ 2 _ _ _ (show w7.heap[w.heap.size]? = _ from rP)]; rfl
          have q0 : w7.cell? ⟨w.heap.size + 1, 0, none⟩ = some (.slice none 0 0) := by rw [cell_of_row _ _ 0 _ _ _ (show w7.heap[w.heap.size + 1]? = _ from rM)]; rfl
          have q1 : w7.cell? ⟨w.heap.size + 1, 1, none⟩ = some (.int .i64 0) := by rw [cell_of_row _ _ 1 _ _ _ (show w7.heap[w.heap.size + 1]? = _ from rM)]; rfl
          have g0 := frozen_of_row _ _ 0 _ _ (show w7.heap[w.heap.size]? = _ from rP)
          have g1 := frozen_of_row _ _ 1 _ _ (show w7.heap[w.heap.size]? = _ from rP)
          have g2 := frozen_of_row _ _ 2 _ _ (show w7.heap[w.heap.size]? = _ from rP)
          have i0 := frozen_of_row _ _ 0 _ _ (show w7.heap[w.heap.size + 1]? = _ from rM)
          have i1 := frozen_of_row _ _ 1 _ _ (show w7.heap[w.heap.size + 1]? = _ from rM)
          have HF1 := Lib.hid (fun (x0 y0 v0 v1 v2 : Value) => set_cut_ok hokX hR x0 y0 v0 (w.heap.size + 1) (show R < w.heap.size + 1 by omega) v1 v2)
          have HF2 := Lib.hid (fun (x0 y0 v0 v1 v2 : Value) => set_cut_grown hwX (Nat.le_refl w.heap.size) x0 y0 v0 (w.heap.size + 1) (Nat.le_succ w.heap.size) v1 v2)
          have HF3 := Lib.hid (fun (x0 y0 v0 v1 v2 : Value) => ((hOX.kept_hi (set3_turn w7 w.heap.size x0 y0 v0) (fun q e => by cases e; omega)).kept_hi (grownBy_setCell _ (w.heap.size + 1) 0 v1) (fun q e => by cases e; omega)).kept_hi (grownBy_setCell _ (w.heap.size + 1) 1 v2) (fun q e => by cases e; omega))
          have HF4 := Lib.hid (show CutFine L x from HF.out)
          have hGP : ¬ G = w.heap.size := by omega
          have hGM : ¬ G = w.heap.size + 1 := by omega
          have hBP : ¬ B = w.heap.size := by omega
          have hBM : ¬ B = w.heap.size + 1 := by omega
          have hPG : ¬ w.heap.size = G := by omega
          have hMG : ¬ w.heap.size + 1 = G := by omega
          have hPB : ¬ w.heap.size = B := by omega
          have hMB : ¬ w.heap.size + 1 = B := by omega
          clear rB rG rP rM hokX hwX hOX
          go_region
          all_goals
            go_wp2_with fail
            exact bodyPost_ret (v := .tuple #[.agg #[.string s, .int .i64 k, .bool f], .agg #[.slice a' 0 cap', .int .i64 x]]) (by simp [results, Try.results109, go_sem, p0, p1, p2, q0, q1]) rfl ⟨_, _, _, _, _, _, _, rfl, hs, hk, ⟨_, (HF3.out _ _ _ _ _).kept ((Below.refl _ _).drew), HF4.out⟩, (HF1.out _ _ _ _ _).below ((Below.refl _ _).drew), grown_drew6 (HF2.out _ _ _ _ _)⟩
        · have hnp : (0 : Int) < (n : Int) := by omega
          have hS0 : w7.drew.cell? ⟨G, 0, none⟩ = some (.slice a' n cap') := g0
          have hokd : RdOk w7.drew R a len cap z := hok7.below ((Below.refl w7.heap.size w7).drew)
          have hOd : OwnN w7.drew (w.heap.size + 2) a' n cap' L := hO7.kept ((Below.refl w7.heap.size w7).drew)
          have rBd := (show w7.drew.heap[B]? = _ from rB)
          have rGd := (show w7.drew.heap[G]? = _ from rG)
          have rPd := (show w7.drew.heap[w.heap.size]? = _ from rP)
          have rMd := (show w7.drew.heap[w.heap.size + 1]? = _ from rM)
          have hwd : w.grownBy w7.drew (some R) := grown_drew6 hw7
          have zd : G < w7.drew.heap.size := z7
          clear hO7 hok7 rB rG rP rM hw7 z7
          go_wp2_with fail
          go_region_held3 (fun W => W.cell? ⟨G, 0, none⟩ = some (.slice a' n cap')) (first | with_reducible exact hS0 | with_reducible exact hS1 | with_reducible exact hS2 | with_reducible exact hS3 | go_keep)
            (first
              | (go_at_call 75; (with_reducible refine (rd_below _ _ _ _ _ _ hokd _).mono ?_); rintro e w8 ⟨q, rfl, ⟨hq0, hq3, hq1, _⟩, hok8, hg8⟩; have hqn := below_lt6 hq3 hq1 (Nat.pos_of_ne_zero hn0); obtain ⟨q, rfl⟩ := Int.eq_ofNat_of_zero_le hq0; have rB8 := (hg8.block B (by omega) (by simp; omega)).trans rBd; have rG8 := (hg8.block G (by omega) (by simp; omega)).trans rGd; have rP8 := (hg8.block w.heap.size (by omega) (by simp; omega)).trans rPd; have rM8 := (hg8.block (w.heap.size + 1) (by omega) (by simp; omega)).trans rMd; have hw8 := grownBy_trans hwd hg8; have hO8 := hOd.kept_hi hg8 (fun q e => by cases e; omega); have z8 : G < w8.heap.size := Nat.lt_of_lt_of_le zd hg8.size; have hS1 : w8.cell? ⟨G, 0, none⟩ = some (.slice a' n cap') := (by rw [cell_of_row _ _ 0 _ _ _ rG8]; rfl); have hqn2 : q < n := (by omega))
              | (go_at_call 80; (with_reducible refine (rd_off _ _ _ _ _ _ hok8 _ _ (by omega) (by omega) (by omega) (by omega)).mono ?_); rintro e w9 ⟨y, rfl, hy, hok9, hg9⟩; have rB9 := (hg9.block B (by omega) (by simp; omega)).trans rB8; have rG9 := (hg9.block G (by omega) (by simp; omega)).trans rG8; have rP9 := (hg9.block w.heap.size (by omega) (by simp; omega)).trans rP8; have rM9 := (hg9.block (w.heap.size + 1) (by omega) (by simp; omega)).trans rM8; have hw9 := grownBy_trans hw8 hg9; have hO9 := hO8.kept_hi hg9 (fun q e => by cases e; omega); have z9 : G < w9.heap.size := Nat.lt_of_lt_of_le z8 hg9.size; have hS2 : w9.cell? ⟨G, 0, none⟩ = some (.slice a' n cap') := (by rw [cell_of_row _ _ 0 _ _ _ rG9]; rfl); obtain ⟨g, rfl, hg0, hg1⟩ := hO9.head q hqn2; have hcc := hO9.cell q hqn2; have hff := hO9.frozen q; have hqi : (q : Int) < (n : Int) := (by omega); have hGg : G ≠ g := (fun e => (HE.out g rfl).2 e.symm); have hBg : B ≠ g := (by have := (HE.out g rfl).1; omega); have rG10 := (Below.heap_setCell w9 ⟨g, q, none⟩ (.int .i64 y) G hGg).trans rG9; have hS3 : (w9.setCell ⟨g, q, none⟩ (.int .i64 y)).cell? ⟨G, 0, none⟩ = some (.slice (some ⟨g, 0, none⟩) n cap') := (by rw [cell_of_row _ _ 0 _ _ _ rG10]; rfl)))
          have rB := (Below.heap_setCell w9 ⟨g, q, none⟩ (.int .i64 y) B hBg).trans rB9
          have rG := rG10
          have rP := (Below.heap_setCell w9 ⟨g, q, none⟩ (.int .i64 y) w.heap.size (by show w.heap.size ≠ g; omega)).trans rP9
          have rM := (Below.heap_setCell w9 ⟨g, q, none⟩ (.int .i64 y) (w.heap.size + 1) (by show w.heap.size + 1 ≠ g; omega)).trans rM9
          have hOX := hO9.set q y
          have hokX := hok9.grown (grownBy_setCell w9 g q (.int .i64 y)) (fun q e => by cases e; omega)
          have hwX := grownBy_own hw9 (grownBy_setCell w9 g q (.int .i64 y)) (fun q e => by cases e; omega)
          have HFS := Lib.hid (cutFine_set HF.out q y hy)
          clear rB8 rB9 rBd rG8 rG9 rGd rG10 rP8 rP9 rPd rM8 rM9 rMd hO8 hO9 hOd hS0 hS1 hS2 hS3 g0 hcc hff hw8 hw9 hwd hok8 hok9 hokd
          generalize w9.setCell ⟨g, q, none⟩ (.int .i64 y) = w10 at *
          go_wp2_with fail
          have b0 : w10.cell? ⟨B, 0, none⟩ = some (.string s) := by rw [cell_of_row _ _ 0 _ _ _ (show w10.heap[B]? = _ from rB)]; rfl
          have b1 : w10.cell? ⟨B, 1, none⟩ = some (.int .i64 k) := by rw [cell_of_row _ _ 1 _ _ _ (show w10.heap[B]? = _ from rB)]; rfl
          have b2 : w10.cell? ⟨B, 2, none⟩ = some (.bool f) := by rw [cell_of_row _ _ 2 _ _ _ (show w10.heap[B]? = _ from rB)]; rfl
          have e0 : w10.cell? ⟨G, 0, none⟩ = some (.slice (some ⟨g, 0, none⟩) n cap') := by rw [cell_of_row _ _ 0 _ _ _ (show w10.heap[G]? = _ from rG)]; rfl
          have e1 : w10.cell? ⟨G, 1, none⟩ = some (.int .i64 x) := by rw [cell_of_row _ _ 1 _ _ _ (show w10.heap[G]? = _ from rG)]; rfl
          have p0 : w10.cell? ⟨w.heap.size, 0, none⟩ = some (.string ⟨#[]⟩) := by rw [cell_of_row _ _ 0 _ _ _ (show w10.heap[w.heap.size]? = _ from rP)]; rfl
          have p1 : w10.cell? ⟨w.heap.size, 1, none⟩ = some (.int .i64 0) := by rw [cell_of_row _ _ 1 _ _ _ (show w10.heap[w.heap.size]? = _ from rP)]; rfl
          have p2 : w10.cell? ⟨w.heap.size, 2, none⟩ = some (.bool false) := by rw [cell_of_row _ _ 2 _ _ _ (show w10.heap[w.heap.size]? = _ from rP)]; rfl
          have q0 : w10.cell? ⟨w.heap.size + 1, 0, none⟩ = some (.slice none 0 0) := by rw [cell_of_row _ _ 0 _ _ _ (show w10.heap[w.heap.size + 1]? = _ from rM)]; rfl
          have q1 : w10.cell? ⟨w.heap.size + 1, 1, none⟩ = some (.int .i64 0) := by rw [cell_of_row _ _ 1 _ _ _ (show w10.heap[w.heap.size + 1]? = _ from rM)]; rfl
          have g0 := frozen_of_row _ _ 0 _ _ (show w10.heap[w.heap.size]? = _ from rP)
          have g1 := frozen_of_row _ _ 1 _ _ (show w10.heap[w.heap.size]? = _ from rP)
          have g2 := frozen_of_row _ _ 2 _ _ (show w10.heap[w.heap.size]? = _ from rP)
          have i0 := frozen_of_row _ _ 0 _ _ (show w10.heap[w.heap.size + 1]? = _ from rM)
          have i1 := frozen_of_row _ _ 1 _ _ (show w10.heap[w.heap.size + 1]? = _ from rM)
          have HF1 := Lib.hid (fun (x0 y0 v0 v1 v2 : Value) => set_cut_ok hokX hR x0 y0 v0 (w.heap.size + 1) (show R < w.heap.size + 1 by omega) v1 v2)
          have HF2 := Lib.hid (fun (x0 y0 v0 v1 v2 : Value) => set_cut_grown hwX (Nat.le_refl w.heap.size) x0 y0 v0 (w.heap.size + 1) (Nat.le_succ w.heap.size) v1 v2)
          have HF3 := Lib.hid (fun (x0 y0 v0 v1 v2 : Value) => ((hOX.kept_hi (set3_turn w10 w.heap.size x0 y0 v0) (fun q e => by cases e; omega)).kept_hi (grownBy_setCell _ (w.heap.size + 1) 0 v1) (fun q e => by cases e; omega)).kept_hi (grownBy_setCell _ (w.heap.size + 1) 1 v2) (fun q e => by cases e; omega))
          have HF4 := Lib.hid (show CutFine (L.set q y) x from HFS.out)
          have hGP : ¬ G = w.heap.size := by omega
          have hGM : ¬ G = w.heap.size + 1 := by omega
          have hBP : ¬ B = w.heap.size := by omega
          have hBM : ¬ B = w.heap.size + 1 := by omega
          have hPG : ¬ w.heap.size = G := by omega
          have hMG : ¬ w.heap.size + 1 = G := by omega
          have hPB : ¬ w.heap.size = B := by omega
          have hMB : ¬ w.heap.size + 1 = B := by omega
          clear rB rG rP rM hokX hwX hOX
          go_region
          all_goals
            go_wp2_with fail
            exact bodyPost_ret (v := .tuple #[.agg #[.string s, .int .i64 k, .bool f], .agg #[.slice (some ⟨g, 0, none⟩) n cap', .int .i64 x]]) (by simp [results, Try.results109, go_sem, p0, p1, p2, q0, q1]) rfl ⟨_, _, _, _, _, _, _, rfl, hs, hk, ⟨_, (HF3.out _ _ _ _ _).kept ((Below.refl _ _).drew), HF4.out⟩, (HF1.out _ _ _ _ _).below ((Below.refl _ _).drew), grown_drew6 (HF2.out _ _ _ _ _)⟩
    · have hN5 := hO.len
      have HN := Lib.hid hO.len
      have HX := Lib.hid HF.out.2.2
      obtain ⟨m, hm⟩ : ∃ m, t.size = m + j := ⟨t.size - j, by omega⟩
      have hmt : m < t.size := by omega
      have hch := t[m].toNat_lt
      have i0 : (0 : Int) ≤ (m : Int) := by omega
      have i1 : (m : Int) < (t.size : Int) := by omega
      have i2 : ((m : Int)).toNat = m := by omega
      have iw : IntKind.i64.wrap ((t.size : Int) - (j : Int)) = (m : Int) := by rw [IntKind.wrap_i64]; omega
      have bw : IntKind.i64.wrap (t[m].toNat : Int) = (t[m].toNat : Int) := by rw [IntKind.wrap_i64]; omega
      have j3 : (0 : Int) < (j : Int) := by omega
      have hs1 : s.size ≤ 1048576 := by omega
      have hn1 : n ≤ 1048577 := by omega
      have hS0 : wr.drew.cell? ⟨B, 0, none⟩ = some (.string s) ∧ wr.drew.cell? ⟨B, 1, none⟩ = some (.int .i64 k) ∧ wr.drew.cell? ⟨B, 2, none⟩ = some (.bool f) ∧ wr.drew.cell? ⟨G, 0, none⟩ = some (.slice a' n cap') ∧ wr.drew.cell? ⟨G, 1, none⟩ = some (.int .i64 x) := ⟨by rw [cell_of_row _ _ 0 _ _ _ (show wr.drew.heap[B]? = _ from cB)]; rfl, by rw [cell_of_row _ _ 1 _ _ _ (show wr.drew.heap[B]? = _ from cB)]; rfl, by rw [cell_of_row _ _ 2 _ _ _ (show wr.drew.heap[B]? = _ from cB)]; rfl, by rw [cell_of_row _ _ 0 _ _ _ (show wr.drew.heap[G]? = _ from cG)]; rfl, by rw [cell_of_row _ _ 1 _ _ _ (show wr.drew.heap[G]? = _ from cG)]; rfl⟩
      have hOd : OwnN wr.drew (w.heap.size + 2) a' n cap' L := hO.kept ((Below.refl wr.heap.size wr).drew)
      have hId := hOd.ints
      have hokd : RdOk wr.drew R a len cap z := hok.below ((Below.refl wr.heap.size wr).drew)
      have hwd : w.grownBy wr.drew (some R) := grown_drew6 hgr
      have rBd : wr.drew.heap[B]? = _ := cB
      have rGd : wr.drew.heap[G]? = _ := cG
      have rPd : wr.drew.heap[w.heap.size]? = _ := cP
      have rMd : wr.drew.heap[w.heap.size + 1]? = _ := cM
      have zd : G < wr.drew.heap.size := hz
      clear hN5 hO hok hgr cB cG cP cM hz hm
      go_wp2_with fail
      obtain ⟨n0, n1, n2, e0, e1⟩ := hS0
      refine wp_region_still_tail 9 (by kernel_rfl) (by kernel_rfl) ?_
      change wpStill _ _ wr.drew (fun a' => wpList _ _ _ _ a' wr.drew) _ _
      generalize wr.drew = wd at *
      simp only [List.take_succ_cons, List.take_zero, List.drop_succ_cons, List.drop_zero]
      repeat still_step
      refine wpStill_nil ?_
      clear bw iw
      go_wp2_with fail
      refine (spec_cutStep s k f L x a' n cap' (t[m].toNat : Int) _ hs1 HN.out hId hn1 HX.out).mono ?_
      rintro e w9 ⟨a9, n9, cap9, rfl, hO9, hb9⟩
      have rB := (hb9.block B (by omega)).trans rBd
      have rG := (hb9.block G (by omega)).trans rGd
      have rP := (hb9.block w.heap.size (by omega)).trans rPd
      have rM := (hb9.block (w.heap.size + 1) (by omega)).trans rMd
      have p0 : w9.cell? ⟨G, 0, none⟩ = some (.slice a' n cap') := by rw [cell_of_row _ _ 0 _ _ _ rG]; rfl
      have p1 : w9.cell? ⟨G, 1, none⟩ = some (.int .i64 x) := by rw [cell_of_row _ _ 1 _ _ _ rG]; rfl
      have g0 := frozen_of_row _ _ 0 _ _ rG
      have g1 := frozen_of_row _ _ 1 _ _ rG
      have hl9 := fun r hr => hO9.2.lt r hr
      have HR9 := Lib.hid (heap_setCell_mark _ G 1 _ _ _ (.int .i64 (cutStepI s k f (t[m].toNat : Int) L x)) (heap_setCell_mark w9 G 0 _ _ _ (.slice a9 n9 cap9) rG))
      have HB9 := Lib.hid ((Below.heap_setCell _ ⟨G, 1, none⟩ (.int .i64 (cutStepI s k f (t[m].toNat : Int) L x)) B (by show B ≠ G; omega)).trans ((Below.heap_setCell w9 ⟨G, 0, none⟩ (.slice a9 n9 cap9) B (by show B ≠ G; omega)).trans rB))
      have HP9 := Lib.hid ((Below.heap_setCell _ ⟨G, 1, none⟩ (.int .i64 (cutStepI s k f (t[m].toNat : Int) L x)) w.heap.size (by show w.heap.size ≠ G; omega)).trans ((Below.heap_setCell w9 ⟨G, 0, none⟩ (.slice a9 n9 cap9) w.heap.size (by show w.heap.size ≠ G; omega)).trans rP))
      have HM9 := Lib.hid ((Below.heap_setCell _ ⟨G, 1, none⟩ (.int .i64 (cutStepI s k f (t[m].toNat : Int) L x)) (w.heap.size + 1) (by show w.heap.size + 1 ≠ G; omega)).trans ((Below.heap_setCell w9 ⟨G, 0, none⟩ (.slice a9 n9 cap9) (w.heap.size + 1) (by show w.heap.size + 1 ≠ G; omega)).trans rM))
      have HE9 := Lib.hid (show ∀ r, (Value.slice a9 n9 cap9).ownBlock = some r → B < r ∧ r ≠ G from fun r hr => by have := (hl9 r hr).1; omega)
      have HO9 := Lib.hid (((hO9.kept_hi (grownBy_setCell w9 G 0 (.slice a9 n9 cap9)) (fun q e => by cases e; omega)).kept_hi (grownBy_setCell _ G 1 (.int .i64 (cutStepI s k f (t[m].toNat : Int) L x))) (fun q e => by cases e; omega)).mono (C := w.heap.size + 2) (by omega))
      have HK9 := Lib.hid (((hokd.below hb9).grown (grownBy_setCell w9 G 0 (.slice a9 n9 cap9)) (fun q e => by cases e; omega)).grown (grownBy_setCell _ G 1 (.int .i64 (cutStepI s k f (t[m].toNat : Int) L x))) (fun q e => by cases e; omega))
      have HG9 := Lib.hid (grownBy_own (grownBy_own (grownBy_trans hwd (grown_of_below hb9 (some R))) (grownBy_setCell w9 G 0 (.slice a9 n9 cap9)) (fun q e => by cases e; omega)) (grownBy_setCell _ G 1 (.int .i64 (cutStepI s k f (t[m].toNat : Int) L x))) (fun q e => by cases e; omega))
      have hs9 := hb9.size
      have HF9 := Lib.hid (fine_cutStep (s := s) (k := k) f (t[m].toNat : Int) hs HF.out)
      clear rB rG rP rM rBd rGd rPd rMd n0 n1 n2 e0 e1 hO9 hl9 hokd hwd hOd hId hb9
      go_wp2_with fail
      go_roundw
      case rel => exact ⟨j - 1, _, _, _, _, _, by go_num, by omega, HO9.out, HF9.out, HE9.out, HK9.out, HG9.out, HB9.out, HR9.out, HP9.out, HM9.out, by simp [World.setCell]; omega⟩
      case measure => simp [intOf]; omega
end Go.Proofs.Ytglldmfhjipacaa

/-
  Chapter 6: what the drawers of cut-off columns hand over.
-/
import Derived.Test.YtglldmfhjipacaaL6Draw
import Derived.Deep.RegionHeld3
namespace Go.Proofs.Ytglldmfhjipacaa
open Go.RowKit
set_option linter.unusedVariables false
set_option maxRecDepth 100000
theorem drawCutNew (a : Option Addr) (len cap : Nat) (z : List Int) (w : World) (hr : IsRow .u8 w a len cap z) (hl : len ≤ 1048576) :
    Calls Try.prog 61 #[.slice a len cap] w fun e w' => ∃ (s : ByteArray) (k : Int) (f : Bool), e = .returned (.agg #[.string s, .int .i64 k, .bool f]) ∧ s.size ≤ 8 ∧ i64B k ∧ Below w.heap.size w w' := by
  go_enter Try.func61, Try.ntmps61
  go_wp2_with fail
  refine (drawPatternOk _ _ _ _ _ (isRow_below hr (by repeat (first | exact Below.refl _ _ | assumption | (refine Below.drew ?_) | (refine below_drewN ?_ _) | (refine Below.alloc ?_ (by first | omega | (simp; done) | (simp; omega)) _) | (refine Below.setCell ?_ (by first | omega | (simp; done) | (simp; omega)) _)))) hl).mono ?_
  rintro e w1 ⟨s, k, f, rfl, hs, hk, hb1⟩
  obtain ⟨hc_w1, hf_w1⟩ := bcell hb1; have HT_w1 : Below w.heap.size w w1 := below_step (by repeat (first | exact Below.refl _ _ | assumption | (refine Below.drew ?_) | (refine below_drewN ?_ _) | (refine Below.alloc ?_ (by first | omega | (simp; done) | (simp; omega)) _) | (refine Below.setCell ?_ (by first | omega | (simp; done) | (simp; omega)) _))) hb1; have hz_w_w1 : w.heap.size < w1.heap.size := (by have h1 := hb1.size; (try simp at h1); omega)
  go_wp2_with fail
  exact bodyPost_ret (v := .agg #[.string s, .int .i64 k, .bool f]) (by simp [results, Try.results61, go_sem, hc_w1]) rfl ⟨_, _, _, rfl, hs, hk, (by repeat (first | exact Below.refl _ _ | assumption | (refine Below.drew ?_) | (refine below_drewN ?_ _) | (refine Below.alloc ?_ (by first | omega | (simp; done) | (simp; omega)) _) | (refine Below.setCell ?_ (by first | omega | (simp; done) | (simp; omega)) _)))⟩
set_option maxHeartbeats 4000000 in
theorem drawCutOk (a : Option Addr) (len cap : Nat) (z : List Int) (w : World) (hr : IsRow .u8 w a len cap z) (hl : len ≤ 1048576) :
    Calls Try.prog 62 #[.slice a len cap] w fun e w' => ∃ (s : ByteArray) (k : Int) (f : Bool) (a' : Option Addr) (n cap' : Nat) (x : Int), e = .returned (.tuple #[.agg #[.string s, .int .i64 k, .bool f], .agg #[.slice a' n cap', .int .i64 x]]) ∧ s.size ≤ 8 ∧ i64B k ∧ (∃ L : List Int, OwnN w' w.heap.size a' n cap' L ∧ CutFine L x) ∧ Below w.heap.size w w' := by
  go_enter Try.func62, Try.ntmps62
  go_wp2_with fail
  have rP := heap_alloc2_old w (.cells #[.string ⟨#[]⟩, .int .i64 0, .bool false] 48) (.cells #[.slice none 0 0, .int .i64 0] 79)
  have rM := heap_alloc2_new w (.cells #[.string ⟨#[]⟩, .int .i64 0, .bool false] 48) (.cells #[.slice none 0 0, .int .i64 0] 79)
  have hb0 : Below w.heap.size w ((w.alloc (.cells #[.string ⟨#[]⟩, .int .i64 0, .bool false] 48)).alloc (.cells #[.slice none 0 0, .int .i64 0] 79)) := (by repeat (first | exact Below.refl _ _ | assumption | (refine Below.drew ?_) | (refine below_drewN ?_ _) | (refine Below.alloc ?_ (by first | omega | (simp; done) | (simp; omega)) _) | (refine Below.setCell ?_ (by first | omega | (simp; done) | (simp; omega)) _)))
  have z0 : w.heap.size + 1 < ((w.alloc (.cells #[.string ⟨#[]⟩, .int .i64 0, .bool false] 48)).alloc (.cells #[.slice none 0 0, .int .i64 0] 79)).heap.size := by simp
  have hr2 := isRow_below hr hb0
  generalize ((w.alloc (.cells #[.string ⟨#[]⟩, .int .i64 0, .bool false] 48)).alloc (.cells #[.slice none 0 0, .int .i64 0] 79)) = w0 at *
  refine (l1Open_any _ _ _ _ _ hr2 hl).mono ?_
  rintro e w1 ⟨rfl, hok1, hb1⟩
  have rP := (hb1.block w.heap.size (by omega)).trans rP
  have rM := (hb1.block (w.heap.size + 1) (by omega)).trans rM
  have HB := hb0.trans (hb1.mono hb0.size)
  have z1 := hok1.lt
  clear hb0 hb1 hr2 hr
  generalize w0.heap.size = R at *
  go_wp2_with fail
  refine (rd_cut _ _ _ _ _ _ hok1).mono ?_
  rintro e w2 ⟨s, k, f, a', n, cap', x, rfl, hs, hk, ⟨L, hO2, hF⟩, hok2, hg2⟩
  have rP := (hg2.block w.heap.size (by omega) (by simp; omega)).trans rP
  have rM := (hg2.block (w.heap.size + 1) (by omega) (by simp; omega)).trans rM
  have HB := HB.grown hg2 HB.size (fun q e => by cases e; omega)
  have z2 := hg2.size
  have hlt : ∀ r, (Value.slice a' n cap').ownBlock = some r → R < r ∧ r < w2.heap.size := fun r hr => by have := hO2.2.lt r hr; omega
  clear hok1 hg2
  go_wp2_with fail
  have rB := heap_alloc2_old w2 (.cells #[.string s, .int .i64 k, .bool f] 48) (.cells #[.slice a' n cap', .int .i64 x] 79)
  have rG := heap_alloc2_new w2 (.cells #[.string s, .int .i64 k, .bool f] 48) (.cells #[.slice a' n cap', .int .i64 x] 79)
  have hb3 := ((Below.refl w2.heap.size w2).alloc (Nat.le_refl _) (.cells #[.string s, .int .i64 k, .bool f] 48)).alloc (by simp) (.cells #[.slice a' n cap', .int .i64 x] 79)
  have z3 : w2.heap.size + 1 < ((w2.alloc (.cells #[.string s, .int .i64 k, .bool f] 48)).alloc (.cells #[.slice a' n cap', .int .i64 x] 79)).heap.size := by simp
  have hok3 := hok2.below hb3
  have hO3 := (hO2.kept hb3).mono (C := w.heap.size + 2) (by omega)
  have rP := (hb3.block w.heap.size (by omega)).trans rP
  have rM := (hb3.block (w.heap.size + 1) (by omega)).trans rM
  have HB := HB.trans (hb3.mono HB.size)
  clear hb3 hok2 hO2
  generalize ((w2.alloc (.cells #[.string s, .int .i64 k, .bool f] 48)).alloc (.cells #[.slice a' n cap', .int .i64 x] 79)) = w3 at *
  obtain ⟨G, hG⟩ : ∃ G, w2.heap.size + 1 = G := ⟨_, rfl⟩
  rw [hG] at rG z3 ⊢
  generalize w2.heap.size = B at *
  have hBG : B < G := by omega
  clear hG
  have HF := Lib.hid hF; clear hF
  have HE := Lib.hid hlt; clear hlt
  refine (rd_once _ _ _ _ _ _ hok3 _ (by omega) (by omega)).mono ?_
  rintro e w4 ⟨o, rfl, hok4, hg4⟩
  have rB := (hg4.block B (by omega) (by simp; omega)).trans rB
  have rG := (hg4.block G (by omega) (by simp; omega)).trans rG
  have rP := (hg4.block w.heap.size (by omega) (by simp; omega)).trans rP
  have rM := (hg4.block (w.heap.size + 1) (by omega) (by simp; omega)).trans rM
  have HB := HB.grown hg4 HB.size (fun q e => by cases e; omega)
  have hO4 : OwnN w4 (w.heap.size + 2) a' n cap' L := hO3.on (fun g hg => hg4.block g (by have := HE.out g hg; omega) (by have := HE.out g hg; simp; omega))
  have z4 := hg4.size
  have hRB : R < B := by omega
  have hWR : w.heap.size + 1 < R := by omega
  have z5 : G < w4.heap.size := by omega
  have hn5 : n ≤ 21 := by have := HF.out.1; have := hO3.len; omega
  clear hok3 hg4 hO3 z0 z1 z2 z3 z4
  cases o
  · have HBX := HB; have hOX := hO4
    clear HB hO4
    go_wp2_with fail
    have b0 : w4.cell? ⟨B, 0, none⟩ = some (.string s) := by rw [cell_of_row _ _ 0 _ _ _ (show w4.heap[B]? = _ from rB)]; rfl
    have b1 : w4.cell? ⟨B, 1, none⟩ = some (.int .i64 k) := by rw [cell_of_row _ _ 1 _ _ _ (show w4.heap[B]? = _ from rB)]; rfl
    have b2 : w4.cell? ⟨B, 2, none⟩ = some (.bool f) := by rw [cell_of_row _ _ 2 _ _ _ (show w4.heap[B]? = _ from rB)]; rfl
    have e0 : w4.cell? ⟨G, 0, none⟩ = some (.slice a' n cap') := by rw [cell_of_row _ _ 0 _ _ _ (show w4.heap[G]? = _ from rG)]; rfl
    have e1 : w4.cell? ⟨G, 1, none⟩ = some (.int .i64 x) := by rw [cell_of_row _ _ 1 _ _ _ (show w4.heap[G]? = _ from rG)]; rfl
    have p0 : w4.cell? ⟨w.heap.size, 0, none⟩ = some (.string ⟨#[]⟩) := by rw [cell_of_row _ _ 0 _ _ _ (show w4.heap[w.heap.size]? = _ from rP)]; rfl
    have p1 : w4.cell? ⟨w.heap.size, 1, none⟩ = some (.int .i64 0) := by rw [cell_of_row _ _ 1 _ _ _ (show w4.heap[w.heap.size]? = _ from rP)]; rfl
    have p2 : w4.cell? ⟨w.heap.size, 2, none⟩ = some (.bool false) := by rw [cell_of_row _ _ 2 _ _ _ (show w4.heap[w.heap.size]? = _ from rP)]; rfl
    have q0 : w4.cell? ⟨w.heap.size + 1, 0, none⟩ = some (.slice none 0 0) := by rw [cell_of_row _ _ 0 _ _ _ (show w4.heap[w.heap.size + 1]? = _ from rM)]; rfl
    have q1 : w4.cell? ⟨w.heap.size + 1, 1, none⟩ = some (.int .i64 0) := by rw [cell_of_row _ _ 1 _ _ _ (show w4.heap[w.heap.size + 1]? = _ from rM)]; rfl
    have g0 := frozen_of_row _ _ 0 _ _ (show w4.heap[w.heap.size]? = _ from rP)
    have g1 := frozen_of_row _ _ 1 _ _ (show w4.heap[w.heap.size]? = _ from rP)
    have g2 := frozen_of_row _ _ 2 _ _ (show w4.heap[w.heap.size]? = _ from rP)
    have i0 := frozen_of_row _ _ 0 _ _ (show w4.heap[w.heap.size + 1]? = _ from rM)
    have i1 := frozen_of_row _ _ 1 _ _ (show w4.heap[w.heap.size + 1]? = _ from rM)
    have HF1 := Lib.hid (fun (x0 y0 v0 v1 v2 : Value) => ((below_set3 HBX (Nat.le_refl w.heap.size) x0 y0 v0).setCell (p := ⟨w.heap.size + 1, 0, none⟩) (Nat.le_succ w.heap.size) v1).setCell (p := ⟨w.heap.size + 1, 1, none⟩) (Nat.le_succ w.heap.size) v2)
    have HF3 := Lib.hid (fun (x0 y0 v0 v1 v2 : Value) => ((hOX.kept_hi (set3_turn w4 w.heap.size x0 y0 v0) (fun q e => by cases e; omega)).kept_hi (grownBy_setCell _ (w.heap.size + 1) 0 v1) (fun q e => by cases e; omega)).kept_hi (grownBy_setCell _ (w.heap.size + 1) 1 v2) (fun q e => by cases e; omega))
    have HF4 := Lib.hid (show CutFine L x from HF.out)
    have hGP : ¬ G = w.heap.size := by omega
    have hGM : ¬ G = w.heap.size + 1 := by omega
    have hBP : ¬ B = w.heap.size := by omega
    have hBM : ¬ B = w.heap.size + 1 := by omega
    have hPG : ¬ w.heap.size = G := by omega
    have hMG : ¬ w.heap.size + 1 = G := by omega
    have hPB : ¬ w.heap.size = B := by omega
    have hMB : ¬ w.heap.size + 1 = B := by omega
    clear rB rG rP rM HBX hOX
    go_region
    all_goals
      go_wp2_with fail
      exact bodyPost_ret (v := .tuple #[.agg #[.string s, .int .i64 k, .bool f], .agg #[.slice a' n cap', .int .i64 x]]) (by simp [results, Try.results62, go_sem, p0, p1, p2, q0, q1]) rfl ⟨_, _, _, _, _, _, _, rfl, hs, hk, ⟨_, ((HF3.out _ _ _ _ _).kept ((Below.refl _ _).drew)).mono (by omega), HF4.out⟩, (HF1.out _ _ _ _ _).drew⟩
  · have g0 : w4.cell? ⟨G, 0, none⟩ = some (.slice a' n cap') := by rw [cell_of_row _ _ 0 _ _ _ rG]; rfl
    by_cases hn0 : n = 0
    · subst hn0
      go_wp2_with fail
      have HBX := HB; have hOX := hO4
      clear HB hO4 g0
      have b0 : w4.cell? ⟨B, 0, none⟩ = some (.string s) := by rw [cell_of_row _ _ 0 _ _ _ (show w4.heap[B]? = _ from rB)]; rfl
      have b1 : w4.cell? ⟨B, 1, none⟩ = some (.int .i64 k) := by rw [cell_of_row _ _ 1 _ _ _ (show w4.heap[B]? = _ from rB)]; rfl
      have b2 : w4.cell? ⟨B, 2, none⟩ = some (.bool f) := by rw [cell_of_row _ _ 2 _ _ _ (show w4.heap[B]? = _ from rB)]; rfl
      have e0 : w4.cell? ⟨G, 0, none⟩ = some (.slice a' 0 cap') := by rw [cell_of_row _ _ 0 _ _ _ (show w4.heap[G]? = _ from rG)]; rfl
      have e1 : w4.cell? ⟨G, 1, none⟩ = some (.int .i64 x) := by rw [cell_of_row _ _ 1 _ _ _ (show w4.heap[G]? = _ from rG)]; rfl
      have p0 : w4.cell? ⟨w.heap.size, 0, none⟩ = some (.string ⟨#[]⟩) := by rw [cell_of_row _ _ 0 _ _ _ (show w4.heap[w.heap.size]? = _ from rP)]; rfl
      have p1 : w4.cell? ⟨w.heap.size, 1, none⟩ = some (.int .i64 0) := by rw [cell_of_row _ _ 1 _ _ _ (show w4.heap[w.heap.size]? = _ from rP)]; rfl
      have p2 : w4.cell? ⟨w.heap.size, 2, none⟩ = some (.bool false) := by rw [cell_of_row _ _ 2 _ _ _ (show w4.heap[w.heap.size]? = _ from rP)]; rfl
      have q0 : w4.cell? ⟨w.heap.size + 1, 0, none⟩ = some (.slice none 0 0) := by rw [cell_of_row _ _ 0 _ _ _ (show w4.heap[w.heap.size + 1]? = _ from rM)]; rfl
      have q1 : w4.cell? ⟨w.heap.size + 1, 1, none⟩ = some (.int .i64 0) := by rw [cell_of_row _ _ 1 _ _ _ (show w4.heap[w.heap.size + 1]? = _ from rM)]; rfl
      have g0 := frozen_of_row _ _ 0 _ _ (show w4.heap[w.heap.size]? = _ from rP)
      have g1 := frozen_of_row _ _ 1 _ _ (show w4.heap[w.heap.size]? = _ from rP)
      have g2 := frozen_of_row _ _ 2 _ _ (show w4.heap[w.heap.size]? = _ from rP)
      have i0 := frozen_of_row _ _ 0 _ _ (show w4.heap[w.heap.size + 1]? = _ from rM)
      have i1 := frozen_of_row _ _ 1 _ _ (show w4.heap[w.heap.size + 1]? = _ from rM)
      have HF1 := Lib.hid (fun (x0 y0 v0 v1 v2 : Value) => ((below_set3 HBX (Nat.le_refl w.heap.size) x0 y0 v0).setCell (p := ⟨w.heap.size + 1, 0, none⟩) (Nat.le_succ w.heap.size) v1).setCell (p := ⟨w.heap.size + 1, 1, none⟩) (Nat.le_succ w.heap.size) v2)
      have HF3 := Lib.hid (fun (x0 y0 v0 v1 v2 : Value) => ((hOX.kept_hi (set3_turn w4 w.heap.size x0 y0 v0) (fun q e => by cases e; omega)).kept_hi (grownBy_setCell _ (w.heap.size + 1) 0 v1) (fun q e => by cases e; omega)).kept_hi (grownBy_setCell _ (w.heap.size + 1) 1 v2) (fun q e => by cases e; omega))
      have HF4 := Lib.hid (show CutFine L x from HF.out)
      have hGP : ¬ G = w.heap.size := by omega
      have hGM : ¬ G = w.heap.size + 1 := by omega
      have hBP : ¬ B = w.heap.size := by omega
      have hBM : ¬ B = w.heap.size + 1 := by omega
      have hPG : ¬ w.heap.size = G := by omega
      have hMG : ¬ w.heap.size + 1 = G := by omega
      have hPB : ¬ w.heap.size = B := by omega
      have hMB : ¬ w.heap.size + 1 = B := by omega
      clear rB rG rP rM HBX hOX
      go_region
      all_goals
        go_wp2_with fail
        exact bodyPost_ret (v := .tuple #[.agg #[.string s, .int .i64 k, .bool f], .agg #[.slice a' 0 cap', .int .i64 x]]) (by simp [results, Try.results62, go_sem, p0, p1, p2, q0, q1]) rfl ⟨_, _, _, _, _, _, _, rfl, hs, hk, ⟨_, ((HF3.out _ _ _ _ _).kept ((Below.refl _ _).drew)).mono (by omega), HF4.out⟩, (HF1.out _ _ _ _ _).drew⟩
    · have hnp : (0 : Int) < (n : Int) := by omega
      have hS0 : w4.drew.cell? ⟨G, 0, none⟩ = some (.slice a' n cap') := g0
      have hokd : RdOk w4.drew R a len cap z := hok4.below ((Below.refl w4.heap.size w4).drew)
      have hOd : OwnN w4.drew (w.heap.size + 2) a' n cap' L := hO4.kept ((Below.refl w4.heap.size w4).drew)
      have rBd := (show w4.drew.heap[B]? = _ from rB)
      have rGd := (show w4.drew.heap[G]? = _ from rG)
      have rPd := (show w4.drew.heap[w.heap.size]? = _ from rP)
      have rMd := (show w4.drew.heap[w.heap.size + 1]? = _ from rM)
      have HBd := HB.drew
      have zd : G < w4.drew.heap.size := z5
      clear hO4 hok4 rB rG rP rM HB z5
      go_wp2_with fail
      go_region_held3 (fun W => W.cell? ⟨G, 0, none⟩ = some (.slice a' n cap')) (first | with_reducible exact hS0 | with_reducible exact hS1 | with_reducible exact hS2 | with_reducible exact hS3 | go_keep)
        (first
          | (go_at_call 75; (with_reducible refine (rd_below _ _ _ _ _ _ hokd _).mono ?_); rintro e w8 ⟨q, rfl, ⟨hq0, hq3, hq1, _⟩, hok8, hg8⟩; have hqn := below_lt6 hq3 hq1 (Nat.pos_of_ne_zero hn0); obtain ⟨q, rfl⟩ := Int.eq_ofNat_of_zero_le hq0; have rB8 := (hg8.block B (by omega) (by simp; omega)).trans rBd; have rG8 := (hg8.block G (by omega) (by simp; omega)).trans rGd; have rP8 := (hg8.block w.heap.size (by omega) (by simp; omega)).trans rPd; have rM8 := (hg8.block (w.heap.size + 1) (by omega) (by simp; omega)).trans rMd; have HB8 := HBd.grown hg8 HBd.size (fun q e => by cases e; omega); have hO8 : OwnN w8 (w.heap.size + 2) a' n cap' L := hOd.on (fun g hg => hg8.block g (by have := HE.out g hg; omega) (by have := HE.out g hg; simp; omega)); have z8 : G < w8.heap.size := Nat.lt_of_lt_of_le zd hg8.size; have hS1 : w8.cell? ⟨G, 0, none⟩ = some (.slice a' n cap') := (by rw [cell_of_row _ _ 0 _ _ _ rG8]; rfl); have hqn2 : q < n := (by omega))
          | (go_at_call 80; (with_reducible refine (rd_off _ _ _ _ _ _ hok8 _ _ (by omega) (by omega) (by omega) (by omega)).mono ?_); rintro e w9 ⟨y, rfl, hy, hok9, hg9⟩; have rB9 := (hg9.block B (by omega) (by simp; omega)).trans rB8; have rG9 := (hg9.block G (by omega) (by simp; omega)).trans rG8; have rP9 := (hg9.block w.heap.size (by omega) (by simp; omega)).trans rP8; have rM9 := (hg9.block (w.heap.size + 1) (by omega) (by simp; omega)).trans rM8; have HB9 := HB8.grown hg9 HB8.size (fun q e => by cases e; omega); have hO9 : OwnN w9 (w.heap.size + 2) a' n cap' L := hO8.on (fun g hg => hg9.block g (by have := HE.out g hg; omega) (by have := HE.out g hg; simp; omega)); have z9 : G < w9.heap.size := Nat.lt_of_lt_of_le z8 hg9.size; have hS2 : w9.cell? ⟨G, 0, none⟩ = some (.slice a' n cap') := (by rw [cell_of_row _ _ 0 _ _ _ rG9]; rfl); obtain ⟨g, rfl, hg0, hg1⟩ := hO9.head q hqn2; have hcc := hO9.cell q hqn2; have hff := hO9.frozen q; have hqi : (q : Int) < (n : Int) := (by omega); have hgB := (HE.out g rfl).2; have hGg : G ≠ g := (by omega); have hBg : B ≠ g := (by omega); have rG10 := (Below.heap_setCell w9 ⟨g, q, none⟩ (.int .i64 y) G hGg).trans rG9; have hS3 : (w9.setCell ⟨g, q, none⟩ (.int .i64 y)).cell? ⟨G, 0, none⟩ = some (.slice (some ⟨g, 0, none⟩) n cap') := (by rw [cell_of_row _ _ 0 _ _ _ rG10]; rfl)))
      have rB := (Below.heap_setCell w9 ⟨g, q, none⟩ (.int .i64 y) B hBg).trans rB9
      have rG := rG10
      have rP := (Below.heap_setCell w9 ⟨g, q, none⟩ (.int .i64 y) w.heap.size (by show w.heap.size ≠ g; omega)).trans rP9
      have rM := (Below.heap_setCell w9 ⟨g, q, none⟩ (.int .i64 y) (w.heap.size + 1) (by show w.heap.size + 1 ≠ g; omega)).trans rM9
      have hOX := hO9.set q y
      have HBX := HB9.setCell (p := ⟨g, q, none⟩) (by show w.heap.size ≤ g; omega) (.int .i64 y)
      have HFS := Lib.hid (cutFine_set HF.out q y hy)
      clear rB8 rB9 rBd rG8 rG9 rGd rG10 rP8 rP9 rPd rM8 rM9 rMd hO8 hO9 hOd hS0 hS1 hS2 hS3 g0 hcc hff HB8 HB9 HBd hok8 hok9 hokd
      generalize w9.setCell ⟨g, q, none⟩ (.int .i64 y) = w10 at *
      go_wp2_with fail
      have b0 : w10.cell? ⟨B, 0, none⟩ = some (.string s) := by rw [cell_of_row _ _ 0 _ _ _ (show w10.heap[B]? = _ from rB)]; rfl
      have b1 : w10.cell? ⟨B, 1, none⟩ = some (.int .i64 k) := by rw [cell_of_row _ _ 1 _ _ _ (show w10.heap[B]? = _ from rB)]; rfl
      have b2 : w10.cell? ⟨B, 2, none⟩ = some (.bool f) := by rw [cell_of_row _ _ 2 _ _ _ (show w10.heap[B]? = _ from rB)]; rfl
      have e0 : w10.cell? ⟨G, 0, none⟩ = some (.slice (some ⟨g, 0, none⟩) n cap') := by rw [cell_of_row _ _ 0 _ _ _ (show w10.heap[G]? = _ from rG)]; rfl
      have e1 : w10.cell? ⟨G, 1, none⟩ = some (.int .i64 x) := by rw [cell_of_row _ _ 1 _ _ _ (show w10.heap[G]? = _ from rG)]; rfl
      have p0 : w10.cell? ⟨w.heap.size, 0, none⟩ = some (.string ⟨#[]⟩) := by rw [cell_of_row _ _ 0 _ _ _ (show w10.heap[w.heap.size]? = _ from rP)]; rfl
      have p1 : w10.cell? ⟨w.heap.size, 1, none⟩ = some (.int .i64 0) := by rw [cell_of_row _ _ 1 _ _ _ (show w10.heap[w.heap.size]? = _ from rP)]; rfl
      have p2 : w10.cell? ⟨w.heap.size, 2, none⟩ = some (.bool false) := by rw [cell_of_row _ _ 2 _ _ _ (show w10.heap[w.heap.size]? = _ from rP)]; rfl
      have q0 : w10.cell? ⟨w.heap.size + 1, 0, none⟩ = some (.slice none 0 0) := by rw [cell_of_row _ _ 0 _ _ _ (show w10.heap[w.heap.size + 1]? = _ from rM)]; rfl
      have q1 : w10.cell? ⟨w.heap.size + 1, 1, none⟩ = some (.int .i64 0) := by rw [cell_of_row _ _ 1 _ _ _ (show w10.heap[w.heap.size + 1]? = _ from rM)]; rfl
      have g0 := frozen_of_row _ _ 0 _ _ (show w10.heap[w.heap.size]? = _ from rP)
      have g1 := frozen_of_row _ _ 1 _ _ (show w10.heap[w.heap.size]? = _ from rP)
      have g2 := frozen_of_row _ _ 2 _ _ (show w10.heap[w.heap.size]? = _ from rP)
      have i0 := frozen_of_row _ _ 0 _ _ (show w10.heap[w.heap.size + 1]? = _ from rM)
      have i1 := frozen_of_row _ _ 1 _ _ (show w10.heap[w.heap.size + 1]? = _ from rM)
      have HF1 := Lib.hid (fun (x0 y0 v0 v1 v2 : Value) => ((below_set3 HBX (Nat.le_refl w.heap.size) x0 y0 v0).setCell (p := ⟨w.heap.size + 1, 0, none⟩) (Nat.le_succ w.heap.size) v1).setCell (p := ⟨w.heap.size + 1, 1, none⟩) (Nat.le_succ w.heap.size) v2)
      have HF3 := Lib.hid (fun (x0 y0 v0 v1 v2 : Value) => ((hOX.kept_hi (set3_turn w10 w.heap.size x0 y0 v0) (fun q e => by cases e; omega)).kept_hi (grownBy_setCell _ (w.heap.size + 1) 0 v1) (fun q e => by cases e; omega)).kept_hi (grownBy_setCell _ (w.heap.size + 1) 1 v2) (fun q e => by cases e; omega))
      have HF4 := Lib.hid (show CutFine (L.set q y) x from HFS.out)
      have hGP : ¬ G = w.heap.size := by omega
      have hGM : ¬ G = w.heap.size + 1 := by omega
      have hBP : ¬ B = w.heap.size := by omega
      have hBM : ¬ B = w.heap.size + 1 := by omega
      have hPG : ¬ w.heap.size = G := by omega
      have hMG : ¬ w.heap.size + 1 = G := by omega
      have hPB : ¬ w.heap.size = B := by omega
      have hMB : ¬ w.heap.size + 1 = B := by omega
      clear rB rG rP rM HBX hOX
      go_region
      all_goals
        go_wp2_with fail
        exact bodyPost_ret (v := .tuple #[.agg #[.string s, .int .i64 k, .bool f], .agg #[.slice (some ⟨g, 0, none⟩) n cap', .int .i64 x]]) (by simp [results, Try.results62, go_sem, p0, p1, p2, q0, q1]) rfl ⟨_, _, _, _, _, _, _, rfl, hs, hk, ⟨_, ((HF3.out _ _ _ _ _).kept ((Below.refl _ _).drew)).mono (by omega), HF4.out⟩, (HF1.out _ _ _ _ _).drew⟩
set_option maxHeartbeats 4000000 in
theorem drawCutDist (a : Option Addr) (len cap : Nat) (z : List Int) (w : World) (hr : IsRow .u8 w a len cap z) (hl : len ≤ 1048576) :
    Calls Try.prog 69 #[.slice a len cap] w fun e w' => ∃ (s : ByteArray) (k : Int) (f : Bool) (a' : Option Addr) (n cap' : Nat) (x : Int), e = .returned (.tuple #[.agg #[.string s, .int .i64 k, .bool f], .agg #[.slice a' n cap', .int .i64 x]]) ∧ s.size ≤ 8 ∧ i64B k ∧ (∃ L : List Int, OwnN w' w.heap.size a' n cap' L ∧ CutFine L x) ∧ Below w.heap.size w w' := by
  go_enter Try.func69, Try.ntmps69
  go_wp2_with fail
  have rP := heap_alloc2_old w (.cells #[.string ⟨#[]⟩, .int .i64 0, .bool false] 48) (.cells #[.slice none 0 0, .int .i64 0] 79)
  have rM := heap_alloc2_new w (.cells #[.string ⟨#[]⟩, .int .i64 0, .bool false] 48) (.cells #[.slice none 0 0, .int .i64 0] 79)
  have hb0 : Below w.heap.size w ((w.alloc (.cells #[.string ⟨#[]⟩, .int .i64 0, .bool false] 48)).alloc (.cells #[.slice none 0 0, .int .i64 0] 79)) := (by repeat (first | exact Below.refl _ _ | assumption | (refine Below.drew ?_) | (refine below_drewN ?_ _) | (refine Below.alloc ?_ (by first | omega | (simp; done) | (simp; omega)) _) | (refine Below.setCell ?_ (by first | omega | (simp; done) | (simp; omega)) _)))
  have z0 : w.heap.size + 1 < ((w.alloc (.cells #[.string ⟨#[]⟩, .int .i64 0, .bool false] 48)).alloc (.cells #[.slice none 0 0, .int .i64 0] 79)).heap.size := by simp
  have hr2 := isRow_below hr hb0
  generalize ((w.alloc (.cells #[.string ⟨#[]⟩, .int .i64 0, .bool false] 48)).alloc (.cells #[.slice none 0 0, .int .i64 0] 79)) = w0 at *
  refine (drawCutOk _ _ _ _ _ hr2 hl).mono ?_
  rintro e w1 ⟨s, k, f, a', n, cap', x, rfl, hs, hk, ⟨L, hO1, hF⟩, hb1⟩
  have rP := (hb1.block w.heap.size (by omega)).trans rP
  have rM := (hb1.block (w.heap.size + 1) (by omega)).trans rM
  have HBX := hb0.trans (hb1.mono hb0.size)
  have hOX := hO1.mono (C := w.heap.size + 2) (by omega)
  have HF := Lib.hid hF
  clear hF hO1
  have p0 : w1.cell? ⟨w.heap.size, 0, none⟩ = some (.string ⟨#[]⟩) := by rw [cell_of_row _ _ 0 _ _ _ rP]; rfl
  have p1 : w1.cell? ⟨w.heap.size, 1, none⟩ = some (.int .i64 0) := by rw [cell_of_row _ _ 1 _ _ _ rP]; rfl
  have p2 : w1.cell? ⟨w.heap.size, 2, none⟩ = some (.bool false) := by rw [cell_of_row _ _ 2 _ _ _ rP]; rfl
  have q0 : w1.cell? ⟨w.heap.size + 1, 0, none⟩ = some (.slice none 0 0) := by rw [cell_of_row _ _ 0 _ _ _ rM]; rfl
  have q1 : w1.cell? ⟨w.heap.size + 1, 1, none⟩ = some (.int .i64 0) := by rw [cell_of_row _ _ 1 _ _ _ rM]; rfl
  have g0 := frozen_of_row _ _ 0 _ _ rP
  have g1 := frozen_of_row _ _ 1 _ _ rP
  have g2 := frozen_of_row _ _ 2 _ _ rP
  have i0 := frozen_of_row _ _ 0 _ _ rM
  have i1 := frozen_of_row _ _ 1 _ _ rM
  have HF1 := Lib.hid (fun (x0 y0 v0 v1 v2 : Value) => ((below_set3 HBX (Nat.le_refl w.heap.size) x0 y0 v0).setCell (p := ⟨w.heap.size + 1, 0, none⟩) (Nat.le_succ w.heap.size) v1).setCell (p := ⟨w.heap.size + 1, 1, none⟩) (Nat.le_succ w.heap.size) v2)
  have HF3 := Lib.hid (fun (x0 y0 v0 v1 v2 : Value) => ((hOX.kept_hi (set3_turn w1 w.heap.size x0 y0 v0) (fun q e => by cases e; omega)).kept_hi (grownBy_setCell _ (w.heap.size + 1) 0 v1) (fun q e => by cases e; omega)).kept_hi (grownBy_setCell _ (w.heap.size + 1) 1 v2) (fun q e => by cases e; omega))
  clear rP rM hb0 hb1 hr2 HBX hOX
  go_wp2_with fail
  exact bodyPost_ret (v := .tuple #[.agg #[.string s, .int .i64 k, .bool f], .agg #[.slice a' n cap', .int .i64 x]]) (by simp [results, Try.results69, go_sem, p0, p1, p2, q0, q1]) rfl ⟨_, _, _, _, _, _, _, rfl, hs, hk, ⟨_, (HF3.out _ _ _ _ _).mono (by omega), HF.out⟩, HF1.out _ _ _ _ _⟩
theorem keep_cut {X : World} {B G r : Nat} {s : ByteArray} {k x : Int} {f : Bool} {a' : Option Addr} {n cap' : Nat} (hB : B ≠ r) (hG : G ≠ r) (x0 y v : Value)
    (h : X.cell? ⟨B, 0, none⟩ = some (.string s) ∧ X.cell? ⟨B, 1, none⟩ = some (.int .i64 k) ∧ X.cell? ⟨B, 2, none⟩ = some (.bool f) ∧ X.cell? ⟨G, 0, none⟩ = some (.slice a' n cap') ∧ X.cell? ⟨G, 1, none⟩ = some (.int .i64 x)) : (((X.setCell ⟨r, 0, none⟩ x0).setCell ⟨r, 1, none⟩ y).setCell ⟨r, 2, none⟩ v).cell? ⟨B, 0, none⟩ = some (.string s) ∧ (((X.setCell ⟨r, 0, none⟩ x0).setCell ⟨r, 1, none⟩ y).setCell ⟨r, 2, none⟩ v).cell? ⟨B, 1, none⟩ = some (.int .i64 k) ∧ (((X.setCell ⟨r, 0, none⟩ x0).setCell ⟨r, 1, none⟩ y).setCell ⟨r, 2, none⟩ v).cell? ⟨B, 2, none⟩ = some (.bool f) ∧ (((X.setCell ⟨r, 0, none⟩ x0).setCell ⟨r, 1, none⟩ y).setCell ⟨r, 2, none⟩ v).cell? ⟨G, 0, none⟩ = some (.slice a' n cap') ∧ (((X.setCell ⟨r, 0, none⟩ x0).setCell ⟨r, 1, none⟩ y).setCell ⟨r, 2, none⟩ v).cell? ⟨G, 1, none⟩ = some (.int .i64 x) := by
  obtain ⟨a0, a1, a2, b0, b1⟩ := h
  exact ⟨(set3_cell hB _ _ _).trans a0, (set3_cell hB _ _ _).trans a1, (set3_cell hB _ _ _).trans a2, (set3_cell hG _ _ _).trans b0, (set3_cell hG _ _ _).trans b1⟩
theorem keep1_cut {X : World} {B G r i : Nat} {s : ByteArray} {k x : Int} {f : Bool} {a' : Option Addr} {n cap' : Nat} (hB : B ≠ r) (hG : G ≠ r) (v : Value)
    (h : X.cell? ⟨B, 0, none⟩ = some (.string s) ∧ X.cell? ⟨B, 1, none⟩ = some (.int .i64 k) ∧ X.cell? ⟨B, 2, none⟩ = some (.bool f) ∧ X.cell? ⟨G, 0, none⟩ = some (.slice a' n cap') ∧ X.cell? ⟨G, 1, none⟩ = some (.int .i64 x)) : (X.setCell ⟨r, i, none⟩ v).cell? ⟨B, 0, none⟩ = some (.string s) ∧ (X.setCell ⟨r, i, none⟩ v).cell? ⟨B, 1, none⟩ = some (.int .i64 k) ∧ (X.setCell ⟨r, i, none⟩ v).cell? ⟨B, 2, none⟩ = some (.bool f) ∧ (X.setCell ⟨r, i, none⟩ v).cell? ⟨G, 0, none⟩ = some (.slice a' n cap') ∧ (X.setCell ⟨r, i, none⟩ v).cell? ⟨G, 1, none⟩ = some (.int .i64 x) := by
  obtain ⟨a0, a1, a2, b0, b1⟩ := h
  exact ⟨((grownBy_setCell X r i v).cell a0 (by simp; exact hB)), ((grownBy_setCell X r i v).cell a1 (by simp; exact hB)), ((grownBy_setCell X r i v).cell a2 (by simp; exact hB)), ((grownBy_setCell X r i v).cell b0 (by simp; exact hG)), ((grownBy_setCell X r i v).cell b1 (by simp; exact hG))⟩
set_option maxHeartbeats 4000000 in
theorem drawCutStep (a : Option Addr) (len cap : Nat) (z : List Int) (w : World) (hr : IsRow .u8 w a len cap z) (hl : len ≤ 1048576) :
    Calls Try.prog 59 #[.slice a len cap] w fun e w' => ∃ (s : ByteArray) (k : Int) (f : Bool) (a' : Option Addr) (n cap' : Nat) (x : Int) (b : Int), e = .returned (.tuple #[.agg #[.string s, .int .i64 k, .bool f], .agg #[.slice a' n cap', .int .i64 x], .int .i64 b]) ∧ s.size ≤ 8 ∧ i64B k ∧ (∃ L : List Int, OwnN w' w.heap.size a' n cap' L ∧ CutFine L x) ∧ i64B b ∧ Below w.heap.size w w' := by
  go_enter Try.func59, Try.ntmps59
  go_wp2_with fail
  have rP := heap_alloc2_old w (.cells #[.string ⟨#[]⟩, .int .i64 0, .bool false] 48) (.cells #[.slice none 0 0, .int .i64 0] 79)
  have rM := heap_alloc2_new w (.cells #[.string ⟨#[]⟩, .int .i64 0, .bool false] 48) (.cells #[.slice none 0 0, .int .i64 0] 79)
  have hb0 : Below w.heap.size w ((w.alloc (.cells #[.string ⟨#[]⟩, .int .i64 0, .bool false] 48)).alloc (.cells #[.slice none 0 0, .int .i64 0] 79)) := (by repeat (first | exact Below.refl _ _ | assumption | (refine Below.drew ?_) | (refine below_drewN ?_ _) | (refine Below.alloc ?_ (by first | omega | (simp; done) | (simp; omega)) _) | (refine Below.setCell ?_ (by first | omega | (simp; done) | (simp; omega)) _)))
  have z0 : w.heap.size + 1 < ((w.alloc (.cells #[.string ⟨#[]⟩, .int .i64 0, .bool false] 48)).alloc (.cells #[.slice none 0 0, .int .i64 0] 79)).heap.size := by simp
  have hr2 := isRow_below hr hb0
  generalize ((w.alloc (.cells #[.string ⟨#[]⟩, .int .i64 0, .bool false] 48)).alloc (.cells #[.slice none 0 0, .int .i64 0] 79)) = w0 at *
  refine (l1Open_any _ _ _ _ _ hr2 hl).mono ?_
  rintro e w1 ⟨rfl, hok1, hb1⟩
  have rP := (hb1.block w.heap.size (by omega)).trans rP
  have rM := (hb1.block (w.heap.size + 1) (by omega)).trans rM
  have HB := hb0.trans (hb1.mono hb0.size)
  have z1 := hok1.lt
  clear hb0 hb1 hr2 hr
  generalize w0.heap.size = R at *
  go_wp2_with fail
  refine (rd_cut _ _ _ _ _ _ hok1).mono ?_
  rintro e w2 ⟨s, k, f, a', n, cap', x, rfl, hs, hk, ⟨L, hO2, hF⟩, hok2, hg2⟩
  have rP := (hg2.block w.heap.size (by omega) (by simp; omega)).trans rP
  have rM := (hg2.block (w.heap.size + 1) (by omega) (by simp; omega)).trans rM
  have HB := HB.grown hg2 HB.size (fun q e => by cases e; omega)
  have z2 := hg2.size
  have hlt : ∀ r, (Value.slice a' n cap').ownBlock = some r → R < r ∧ r < w2.heap.size := fun r hr => by have := hO2.2.lt r hr; omega
  clear hok1 hg2
  go_wp2_with fail
  have rB := heap_alloc2_old w2 (.cells #[.string s, .int .i64 k, .bool f] 48) (.cells #[.slice a' n cap', .int .i64 x] 79)
  have rG := heap_alloc2_new w2 (.cells #[.string s, .int .i64 k, .bool f] 48) (.cells #[.slice a' n cap', .int .i64 x] 79)
  have hb3 := ((Below.refl w2.heap.size w2).alloc (Nat.le_refl _) (.cells #[.string s, .int .i64 k, .bool f] 48)).alloc (by simp) (.cells #[.slice a' n cap', .int .i64 x] 79)
  have z3 : w2.heap.size + 1 < ((w2.alloc (.cells #[.string s, .int .i64 k, .bool f] 48)).alloc (.cells #[.slice a' n cap', .int .i64 x] 79)).heap.size := by simp
  have hok3 := hok2.below hb3
  have hO3 := (hO2.kept hb3).mono (C := w.heap.size + 2) (by omega)
  have rP := (hb3.block w.heap.size (by omega)).trans rP
  have rM := (hb3.block (w.heap.size + 1) (by omega)).trans rM
  have HB := HB.trans (hb3.mono HB.size)
  clear hb3 hok2 hO2
  generalize ((w2.alloc (.cells #[.string s, .int .i64 k, .bool f] 48)).alloc (.cells #[.slice a' n cap', .int .i64 x] 79)) = w3 at *
  obtain ⟨G, hG⟩ : ∃ G, w2.heap.size + 1 = G := ⟨_, rfl⟩
  rw [hG] at rG z3 ⊢
  generalize w2.heap.size = B at *
  have hBG : B < G := by omega
  clear hG
  have HF := Lib.hid hF; clear hF
  have HE := Lib.hid hlt; clear hlt
  have hBP : B ≠ w.heap.size := by omega
  have hBM : B ≠ w.heap.size + 1 := by omega
  have hGP : G ≠ w.heap.size := by omega
  have hGM : G ≠ w.heap.size + 1 := by omega
  have hRB : R < B := by omega
  have hWR : w.heap.size + 1 < R := by omega
  go_wp2_with fail
  have hokd := hok3.below ((Below.refl w3.heap.size w3).drew)
  have hOd : OwnN w3.drew (w.heap.size + 2) a' n cap' L := hO3.kept ((Below.refl w3.heap.size w3).drew)
  have hS4 : w3.drew.cell? ⟨B, 0, none⟩ = some (.string s) ∧ w3.drew.cell? ⟨B, 1, none⟩ = some (.int .i64 k) ∧ w3.drew.cell? ⟨B, 2, none⟩ = some (.bool f) ∧ w3.drew.cell? ⟨G, 0, none⟩ = some (.slice a' n cap') ∧ w3.drew.cell? ⟨G, 1, none⟩ = some (.int .i64 x) := ⟨by rw [cell_of_row _ _ 0 _ _ _ (show w3.drew.heap[B]? = _ from rB)]; rfl, by rw [cell_of_row _ _ 1 _ _ _ (show w3.drew.heap[B]? = _ from rB)]; rfl, by rw [cell_of_row _ _ 2 _ _ _ (show w3.drew.heap[B]? = _ from rB)]; rfl, by rw [cell_of_row _ _ 0 _ _ _ (show w3.drew.heap[G]? = _ from rG)]; rfl, by rw [cell_of_row _ _ 1 _ _ _ (show w3.drew.heap[G]? = _ from rG)]; rfl⟩
  have rPd : w3.drew.heap[w.heap.size]? = some (.cells #[.string ⟨#[]⟩, .int .i64 0, .bool false] 48 (0, 0)) := rP
  have rMd : w3.drew.heap[w.heap.size + 1]? = some (.cells #[.slice none 0 0, .int .i64 0] 79 (0, 0)) := rM
  have rBd : w3.drew.heap[B]? = some (.cells #[.string s, .int .i64 k, .bool f] 48 (0, 0)) := rB
  have rGd : w3.drew.heap[G]? = some (.cells #[.slice a' n cap', .int .i64 x] 79 (0, 0)) := rG
  have HBd := HB.drew
  have zd : G < w3.drew.heap.size := by show G < w3.heap.size; omega
  clear rB rG rP rM hok3 hO3
  go_region_held3 (fun W => W.cell? ⟨B, 0, none⟩ = some (.string s) ∧ W.cell? ⟨B, 1, none⟩ = some (.int .i64 k) ∧ W.cell? ⟨B, 2, none⟩ = some (.bool f) ∧ W.cell? ⟨G, 0, none⟩ = some (.slice a' n cap') ∧ W.cell? ⟨G, 1, none⟩ = some (.int .i64 x)) (first | with_reducible exact hS4 | with_reducible exact hS5 | with_reducible exact hS6 | with_reducible exact hS7 | with_reducible exact hS8 | go_keep)
    (first | (go_at_call 91; (with_reducible refine (rd_any _ _ _ _ _ _ hokd).mono ?_); rintro e w5 ⟨b, rfl, hbb, hok5, hg5⟩; have rB := (hg5.block B (by omega) (by simp; omega)).trans rBd; have rG := (hg5.block G (by omega) (by simp; omega)).trans rGd; have rP := (hg5.block w.heap.size (by omega) (by simp; omega)).trans rPd; have rM := (hg5.block (w.heap.size + 1) (by omega) (by simp; omega)).trans rMd; have hO5 : OwnN w5 (w.heap.size + 2) a' n cap' L := hOd.on (fun g hg => hg5.block g (by have := HE.out g hg; omega) (by have := HE.out g hg; simp; omega)); have hS5 : w5.cell? ⟨B, 0, none⟩ = some (.string s) ∧ w5.cell? ⟨B, 1, none⟩ = some (.int .i64 k) ∧ w5.cell? ⟨B, 2, none⟩ = some (.bool f) ∧ w5.cell? ⟨G, 0, none⟩ = some (.slice a' n cap') ∧ w5.cell? ⟨G, 1, none⟩ = some (.int .i64 x) := ⟨by rw [cell_of_row _ _ 0 _ _ _ (show w5.heap[B]? = _ from rB)]; rfl, by rw [cell_of_row _ _ 1 _ _ _ (show w5.heap[B]? = _ from rB)]; rfl, by rw [cell_of_row _ _ 2 _ _ _ (show w5.heap[B]? = _ from rB)]; rfl, by rw [cell_of_row _ _ 0 _ _ _ (show w5.heap[G]? = _ from rG)]; rfl, by rw [cell_of_row _ _ 1 _ _ _ (show w5.heap[G]? = _ from rG)]; rfl⟩; have hS6 : (((w5.setCell ⟨w.heap.size, 0, none⟩ (.string s)).setCell ⟨w.heap.size, 1, none⟩ (.int .i64 k)).setCell ⟨w.heap.size, 2, none⟩ (.bool f)).cell? ⟨B, 0, none⟩ = some (.string s) ∧ (((w5.setCell ⟨w.heap.size, 0, none⟩ (.string s)).setCell ⟨w.heap.size, 1, none⟩ (.int .i64 k)).setCell ⟨w.heap.size, 2, none⟩ (.bool f)).cell? ⟨B, 1, none⟩ = some (.int .i64 k) ∧ (((w5.setCell ⟨w.heap.size, 0, none⟩ (.string s)).setCell ⟨w.heap.size, 1, none⟩ (.int .i64 k)).setCell ⟨w.heap.size, 2, none⟩ (.bool f)).cell? ⟨B, 2, none⟩ = some (.bool f) ∧ (((w5.setCell ⟨w.heap.size, 0, none⟩ (.string s)).setCell ⟨w.heap.size, 1, none⟩ (.int .i64 k)).setCell ⟨w.heap.size, 2, none⟩ (.bool f)).cell? ⟨G, 0, none⟩ = some (.slice a' n cap') ∧ (((w5.setCell ⟨w.heap.size, 0, none⟩ (.string s)).setCell ⟨w.heap.size, 1, none⟩ (.int .i64 k)).setCell ⟨w.heap.size, 2, none⟩ (.bool f)).cell? ⟨G, 1, none⟩ = some (.int .i64 x) := keep_cut hBP hGP _ _ _ hS5; have hS7 : ((((w5.setCell ⟨w.heap.size, 0, none⟩ (.string s)).setCell ⟨w.heap.size, 1, none⟩ (.int .i64 k)).setCell ⟨w.heap.size, 2, none⟩ (.bool f)).setCell ⟨w.heap.size + 1, 0, none⟩ (.slice a' n cap')).cell? ⟨B, 0, none⟩ = some (.string s) ∧ ((((w5.setCell ⟨w.heap.size, 0, none⟩ (.string s)).setCell ⟨w.heap.size, 1, none⟩ (.int .i64 k)).setCell ⟨w.heap.size, 2, none⟩ (.bool f)).setCell ⟨w.heap.size + 1, 0, none⟩ (.slice a' n cap')).cell? ⟨B, 1, none⟩ = some (.int .i64 k) ∧ ((((w5.setCell ⟨w.heap.size, 0, none⟩ (.string s)).setCell ⟨w.heap.size, 1, none⟩ (.int .i64 k)).setCell ⟨w.heap.size, 2, none⟩ (.bool f)).setCell ⟨w.heap.size + 1, 0, none⟩ (.slice a' n cap')).cell? ⟨B, 2, none⟩ = some (.bool f) ∧ ((((w5.setCell ⟨w.heap.size, 0, none⟩ (.string s)).setCell ⟨w.heap.size, 1, none⟩ (.int .i64 k)).setCell ⟨w.heap.size, 2, none⟩ (.bool f)).setCell ⟨w.heap.size + 1, 0, none⟩ (.slice a' n cap')).cell? ⟨G, 0, none⟩ = some (.slice a' n cap') ∧ ((((w5.setCell ⟨w.heap.size, 0, none⟩ (.string s)).setCell ⟨w.heap.size, 1, none⟩ (.int .i64 k)).setCell ⟨w.heap.size, 2, none⟩ (.bool f)).setCell ⟨w.heap.size + 1, 0, none⟩ (.slice a' n cap')).cell? ⟨G, 1, none⟩ = some (.int .i64 x) := keep1_cut hBM hGM _ hS6; have hS8 : (((((w5.setCell ⟨w.heap.size, 0, none⟩ (.string s)).setCell ⟨w.heap.size, 1, none⟩ (.int .i64 k)).setCell ⟨w.heap.size, 2, none⟩ (.bool f)).setCell ⟨w.heap.size + 1, 0, none⟩ (.slice a' n cap')).setCell ⟨w.heap.size + 1, 1, none⟩ (.int .i64 x)).cell? ⟨B, 0, none⟩ = some (.string s) ∧ (((((w5.setCell ⟨w.heap.size, 0, none⟩ (.string s)).setCell ⟨w.heap.size, 1, none⟩ (.int .i64 k)).setCell ⟨w.heap.size, 2, none⟩ (.bool f)).setCell ⟨w.heap.size + 1, 0, none⟩ (.slice a' n cap')).setCell ⟨w.heap.size + 1, 1, none⟩ (.int .i64 x)).cell? ⟨B, 1, none⟩ = some (.int .i64 k) ∧ (((((w5.setCell ⟨w.heap.size, 0, none⟩ (.string s)).setCell ⟨w.heap.size, 1, none⟩ (.int .i64 k)).setCell ⟨w.heap.size, 2, none⟩ (.bool f)).setCell ⟨w.heap.size + 1, 0, none⟩ (.slice a' n cap')).setCell ⟨w.heap.size + 1, 1, none⟩ (.int .i64 x)).cell? ⟨B, 2, none⟩ = some (.bool f) ∧ (((((w5.setCell ⟨w.heap.size, 0, none⟩ (.string s)).setCell ⟨w.heap.size, 1, none⟩ (.int .i64 k)).setCell ⟨w.heap.size, 2, none⟩ (.bool f)).setCell ⟨w.heap.size + 1, 0, none⟩ (.slice a' n cap')).setCell ⟨w.heap.size + 1, 1, none⟩ (.int .i64 x)).cell? ⟨G, 0, none⟩ = some (.slice a' n cap') ∧ (((((w5.setCell ⟨w.heap.size, 0, none⟩ (.string s)).setCell ⟨w.heap.size, 1, none⟩ (.int .i64 k)).setCell ⟨w.heap.size, 2, none⟩ (.bool f)).setCell ⟨w.heap.size + 1, 0, none⟩ (.slice a' n cap')).setCell ⟨w.heap.size + 1, 1, none⟩ (.int .i64 x)).cell? ⟨G, 1, none⟩ = some (.int .i64 x) := keep1_cut hBM hGM _ hS7; have p0 : w5.cell? ⟨w.heap.size, 0, none⟩ = some (.string ⟨#[]⟩) := (by rw [cell_of_row _ _ 0 _ _ _ rP]; rfl); have p1 : w5.cell? ⟨w.heap.size, 1, none⟩ = some (.int .i64 0) := (by rw [cell_of_row _ _ 1 _ _ _ rP]; rfl); have p2 : w5.cell? ⟨w.heap.size, 2, none⟩ = some (.bool false) := (by rw [cell_of_row _ _ 2 _ _ _ rP]; rfl); have q0 : w5.cell? ⟨w.heap.size + 1, 0, none⟩ = some (.slice none 0 0) := (by rw [cell_of_row _ _ 0 _ _ _ rM]; rfl); have q1 : w5.cell? ⟨w.heap.size + 1, 1, none⟩ = some (.int .i64 0) := (by rw [cell_of_row _ _ 1 _ _ _ rM]; rfl); have g0 := frozen_of_row _ _ 0 _ _ rP; have g1 := frozen_of_row _ _ 1 _ _ rP; have g2 := frozen_of_row _ _ 2 _ _ rP; have i0 := frozen_of_row _ _ 0 _ _ rM; have i1 := frozen_of_row _ _ 1 _ _ rM))
  have HBX := HBd.grown hg5 HBd.size (fun q e => by cases e; omega)
  have hOX := hO5
  have HF1 := Lib.hid (fun (x0 y0 v0 v1 v2 : Value) => ((below_set3 HBX (Nat.le_refl w.heap.size) x0 y0 v0).setCell (p := ⟨w.heap.size + 1, 0, none⟩) (Nat.le_succ w.heap.size) v1).setCell (p := ⟨w.heap.size + 1, 1, none⟩) (Nat.le_succ w.heap.size) v2)
  have HF3 := Lib.hid (fun (x0 y0 v0 v1 v2 : Value) => ((hOX.kept_hi (set3_turn w5 w.heap.size x0 y0 v0) (fun q e => by cases e; omega)).kept_hi (grownBy_setCell _ (w.heap.size + 1) 0 v1) (fun q e => by cases e; omega)).kept_hi (grownBy_setCell _ (w.heap.size + 1) 1 v2) (fun q e => by cases e; omega))
  clear hS4 hS5 hS6 hS7 rB rG rP rM rPd rMd rBd rGd HBX hOX hO5 hOd hS8
  go_wp2_with fail
  exact bodyPost_ret (v := .tuple #[.agg #[.string s, .int .i64 k, .bool f], .agg #[.slice a' n cap', .int .i64 x], .int .i64 b]) (by simp [results, Try.results59, go_sem, p0, p1, p2, q0, q1]) rfl ⟨_, _, _, _, _, _, _, _, rfl, hs, hk, ⟨_, (HF3.out _ _ _ _ _).mono (by omega), HF.out⟩, hbb, HF1.out _ _ _ _ _⟩
end Go.Proofs.Ytglldmfhjipacaa

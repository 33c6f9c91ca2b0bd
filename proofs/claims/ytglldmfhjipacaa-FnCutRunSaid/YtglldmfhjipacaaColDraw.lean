/-
  Chapter 3: what is drawn: a column, with its pattern; and lists of numbers held against each other.
-/
import Derived.Test.YtglldmfhjipacaaL3Draw
import Derived.Test.YtglldmfhjipacaaL1Draw
import Derived.Test.YtglldmfhjipacaaL3NextL
import Derived.Test.YtglldmfhjipacaaColNear
import Derived.Deep.RegionHeld3
namespace Go.Proofs.Ytglldmfhjipacaa
open Go.RowKit
set_option linter.unusedVariables false
set_option maxRecDepth 100000
/-- a column that is right, or none -/
def ColFine (s : ByteArray) (k : Int) (L : List Int) : Prop := L = [] ∨ (patOk s k = true ∧ L.length = s.size + 1 ∧ Near (intAt L) s.size)
theorem ColFine.len {s : ByteArray} {k : Int} {L : List Int} (h : ColFine s k L) (hs : s.size ≤ 20) : L.length ≤ 21 := by
  rcases h with rfl | ⟨_, h, _⟩
  · simp
  · omega
theorem ColFine.bnd {s : ByteArray} {k : Int} {L : List Int} (h : ColFine s k L) (i : Nat) (hi : i < L.length) : 0 ≤ intAt L i ∧ intAt L i ≤ i := by
  rcases h with rfl | ⟨_, hl, h⟩
  · simp at hi
  · exact ⟨h.2.1 i (by omega), near_le h i (by omega)⟩
theorem fine_first (s : ByteArray) (k : Int) : ColFine s k (firstColL s k) := by
  unfold firstColL
  cases hp : patOk s k
  · left; rfl
  · right
    exact ⟨hp, tab_length _ _, near_congr (fun i hi => (intAt_tab idI _ _ (by omega)).symm) (near_id s.size)⟩
theorem fine_next {s : ByteArray} {k : Int} {L : List Int} (f : Bool) (b : Int) (h : ColFine s k L) : ColFine s k (nextColL s k f b L) := by
  unfold nextColL
  cases hc : nextColB s k b L
  · left; rfl
  · right
    unfold nextColB at hc
    simp only [Bool.and_eq_true] at hc
    have h1 := (colOkB_iff _ _ _).1 hc.1
    have hn : Near (intAt L) s.size := by have := h1.2.2; rw [h1.2.1] at this; exact near_of_steps this
    exact ⟨h1.1, tab_length _ _, near_congr (fun i hi => (intAt_tab _ _ _ (by omega)).symm) (near_next hn).1⟩
theorem laws_sameInts (L : List Int) (a1 a2 : Option Addr) (n cap1 cap2 : Nat) (w : World) (hn : L.length = n) (h1 : Ints w a1 L) (h2 : Ints w a2 L) (hlen : n ≤ 1048577) :
    Calls Try.prog 93 #[.slice a1 n cap1, .slice a2 n cap2] w fun e w' => e = .returned (.bool true) ∧ Below w.heap.size w w' := by
  have e0 : ((n : Int) != (n : Int)) = false := by simp
  have HN := Lib.hid hn; clear hn
  go_enter Try.func93, Try.ntmps93
  go_wp2
  go_loopw [5] (fun i wr => ∃ k : Nat, k ≤ n ∧ i = .int .i64 k ∧ Below w.heap.size w wr)
    (fun i _ => n - (intOf i).toNat)
  case atStart => exact ⟨0, by omega, rfl, Below.refl _ _⟩
  case round =>
    obtain ⟨k, hk, rfl, hb⟩ := hrel
    by_cases hlt : k < n
    · obtain ⟨b1, off1, rfl, hp1⟩ := (h1.kept hb).at k (by rw [HN.out]; exact hlt)
      obtain ⟨b2, off2, rfl, hp2⟩ := (h2.kept hb).at k (by rw [HN.out]; exact hlt)
      have c1 := hp1 k (by rw [HN.out]; exact hlt)
      have c2 := hp2 k (by rw [HN.out]; exact hlt)
      generalize intAt L k = x at c1 c2
      have e1 : (x != x) = false := by simp
      clear h1 h2 hp1 hp2
      go_wp2_with fail
      go_quiet (fail)
      go_wp2
      go_roundw
      case rel => exact ⟨k + 1, by omega, by go_num, below_drewN hb _⟩
      case measure => simp [intOf]; omega
    · obtain rfl : k = n := by omega
      go_wp2
      go_ret
      exact ⟨rfl, hb⟩
/-- a pattern, whatever it is -/
theorem drawPatternOk (a : Option Addr) (len cap : Nat) (z : List Int) (w : World) (hr : IsRow .u8 w a len cap z) (hl : len ≤ 1048576) :
    Calls Try.prog 84 #[.slice a len cap] w fun e w' => ∃ (s : ByteArray) (k : Int) (f : Bool), e = .returned (.agg #[.string s, .int .i64 k, .bool f]) ∧ s.size ≤ 8 ∧ i64B k ∧ Below w.heap.size w w' := by
  go_enter Try.func84, Try.ntmps84
  go_wp2_with fail
  have hr2 := isRow_below hr ((Below.refl w.heap.size w).alloc (Nat.le_refl _) (.cells #[.string ⟨#[]⟩, .int .i64 0, .bool false] 48))
  have r0 := heap_alloc_new w (.cells #[.string ⟨#[]⟩, .int .i64 0, .bool false] 48)
  have hb0 : Below w.heap.size w (w.alloc (.cells #[.string ⟨#[]⟩, .int .i64 0, .bool false] 48)) := (by repeat (first | exact Below.refl _ _ | assumption | (refine Below.drew ?_) | (refine below_drewN ?_ _) | (refine Below.alloc ?_ (by first | omega | (simp; done) | (simp; omega)) _) | (refine Below.setCell ?_ (by first | omega | (simp; done) | (simp; omega)) _)))
  have z0 : w.heap.size < (w.alloc (.cells #[.string ⟨#[]⟩, .int .i64 0, .bool false] 48)).heap.size := by simp
  generalize (w.alloc (.cells #[.string ⟨#[]⟩, .int .i64 0, .bool false] 48)) = w0 at *
  refine (l1Open_any _ _ _ _ _ hr2 hl).mono ?_
  rintro e w1 ⟨rfl, hok, hb⟩
  have r1 := (hb.block w.heap.size (by omega)).trans r0
  have hb1 := hb0.trans (hb.mono hb0.size)
  have z1 := hok.lt
  clear r0
  go_wp2_with fail
  refine (rd_pattern _ _ _ _ _ _ hok).mono ?_
  rintro e w2 ⟨s, k, f, rfl, hs, hk, hok2, hg2⟩
  have r2 := (hg2.block w.heap.size (by omega) (by simp; omega)).trans r1
  have hb2 : Below w.heap.size w w2 := hb1.grown hg2 hb1.size (fun q e => by cases e; omega)
  have z2 := hg2.size
  clear r1 hg2 hb1 hb
  go_wp2_with fail
  have hok3 := hok2.alloc (.cells #[.string s, .int .i64 k, .bool f] 48)
  have p3 := heap_alloc_new w2 (.cells #[.string s, .int .i64 k, .bool f] 48)
  have r3 := (Below.heap_alloc w2 (.cells #[.string s, .int .i64 k, .bool f] 48) w.heap.size (by omega)).trans r2
  have hb3 := hb2.alloc hb2.size (.cells #[.string s, .int .i64 k, .bool f] 48)
  have z3 : w2.heap.size < (w2.alloc (.cells #[.string s, .int .i64 k, .bool f] 48)).heap.size := by simp
  generalize (w2.alloc (.cells #[.string s, .int .i64 k, .bool f] 48)) = w3 at *
  generalize w2.heap.size = B at *
  generalize w0.heap.size = R at *
  clear r2 hb0 hb2 hok2 hok hr2 hr
  refine (rd_once _ _ _ _ _ _ hok3 _ (by omega) (by omega)).mono ?_
  rintro e w4 ⟨o, rfl, hok4, hg4⟩
  have p4 := (hg4.block B (by omega) (by simp; omega)).trans p3
  have r4 := (hg4.block w.heap.size (by omega) (by simp; omega)).trans r3
  have hb4 : Below w.heap.size w w4 := hb3.grown hg4 hb3.size (fun q e => by cases e; omega)
  have z4 := hg4.size
  clear p3 r3 hb3 hg4
  cases o
  · have n0 : w4.cell? ⟨B, 0, none⟩ = some (.string s) := by rw [cell_of_row _ _ 0 _ _ _ p4]; rfl
    have n1 : w4.cell? ⟨B, 1, none⟩ = some (.int .i64 k) := by rw [cell_of_row _ _ 1 _ _ _ p4]; rfl
    have n2 : w4.cell? ⟨B, 2, none⟩ = some (.bool f) := by rw [cell_of_row _ _ 2 _ _ _ p4]; rfl
    have m0 : w4.cell? ⟨w.heap.size, 0, none⟩ = some (.string ⟨#[]⟩) := by rw [cell_of_row _ _ 0 _ _ _ r4]; rfl
    have m1 : w4.cell? ⟨w.heap.size, 1, none⟩ = some (.int .i64 0) := by rw [cell_of_row _ _ 1 _ _ _ r4]; rfl
    have m2 : w4.cell? ⟨w.heap.size, 2, none⟩ = some (.bool false) := by rw [cell_of_row _ _ 2 _ _ _ r4]; rfl
    have g0 := frozen_of_row _ _ 0 _ _ r4
    have g1 := frozen_of_row _ _ 1 _ _ r4
    have g2 := frozen_of_row _ _ 2 _ _ r4
    clear p4 r4
    go_wp2_with fail
    exact bodyPost_ret (v := .agg #[.string s, .int .i64 k, .bool f]) (by simp [results, Try.results84, go_sem, m0, m1, m2]) rfl ⟨_, _, _, rfl, hs, hk, ((hb4.setCell (p := ⟨w.heap.size, 0, none⟩) (Nat.le_refl _) _).setCell (p := ⟨w.heap.size, 1, none⟩) (Nat.le_refl _) _).setCell (p := ⟨w.heap.size, 2, none⟩) (Nat.le_refl _) _⟩
  · go_wp2_with fail
    refine (rd_off _ _ _ _ _ _ hok4 _ _ (by omega) (by omega) (by omega) (by omega)).mono ?_
    rintro e w6 ⟨x, rfl, hx, hok6, hg6⟩
    have r6 := (hg6.block w.heap.size (by omega) (by simp; omega)).trans r4
    have p6 := (hg6.block B (by omega) (by simp; omega)).trans p4
    have hb6 : Below w.heap.size w w6 := hb4.grown hg6 hb4.size (fun q e => by cases e; omega)
    have n0 : w6.cell? ⟨B, 0, none⟩ = some (.string s) := by rw [cell_of_row _ _ 0 _ _ _ p6]; rfl
    have n1 : w6.cell? ⟨B, 1, none⟩ = some (.int .i64 k) := by rw [cell_of_row _ _ 1 _ _ _ p6]; rfl
    have n2 : w6.cell? ⟨B, 2, none⟩ = some (.bool f) := by rw [cell_of_row _ _ 2 _ _ _ p6]; rfl
    have m0 : w6.cell? ⟨w.heap.size, 0, none⟩ = some (.string ⟨#[]⟩) := by rw [cell_of_row _ _ 0 _ _ _ r6]; rfl
    have m1 : w6.cell? ⟨w.heap.size, 1, none⟩ = some (.int .i64 0) := by rw [cell_of_row _ _ 1 _ _ _ r6]; rfl
    have m2 : w6.cell? ⟨w.heap.size, 2, none⟩ = some (.bool false) := by rw [cell_of_row _ _ 2 _ _ _ r6]; rfl
    have g0 := frozen_of_row _ _ 0 _ _ r6
    have g1 := frozen_of_row _ _ 1 _ _ r6
    have g2 := frozen_of_row _ _ 2 _ _ r6
    have v1 := frozen_of_row _ _ 1 _ _ p6
    have hne : ¬ w.heap.size = B := by omega
    have hne2 : ¬ B = w.heap.size := by omega
    have hBB : w.heap.size ≤ B := by omega
    clear p4 r4 p6 r6 hg6 hb4
    go_wp2_with fail
    exact bodyPost_ret (v := .agg #[.string s, .int .i64 x, .bool f]) (by simp [results, Try.results84, go_sem, m0, m1, m2]) rfl ⟨_, _, _, rfl, hs, hx, (((hb6.setCell (p := ⟨B, 1, none⟩) hBB _).setCell (p := ⟨w.heap.size, 0, none⟩) (Nat.le_refl _) _).setCell (p := ⟨w.heap.size, 1, none⟩) (Nat.le_refl _) _).setCell (p := ⟨w.heap.size, 2, none⟩) (Nat.le_refl _) _⟩
end Go.Proofs.Ytglldmfhjipacaa

/-
  Drawn patterns, texts, and what chapter 3's drawers hand over, whatever they read.
-/
import Derived.Test.YtgikjopmijomgabRd
import Derived.Test.YtgikjopmijomgabInts
import Derived.Test.YtgikjopmijomgabL2Pat
import Derived.Deep.RegionHeld3
namespace Go.Proofs.Ytgikjopmijomgab
open Go.RowKit
set_option linter.unusedVariables false
set_option maxRecDepth 100000
def i64B (k : Int) : Prop := -9223372036854775808 ≤ k ∧ k ≤ 9223372036854775807
theorem set3_grown {w X : World} {R B : Nat} (h : w.grownBy X (some R)) (hB : w.heap.size ≤ B) (x y z : Value) : w.grownBy (((X.setCell ⟨B, 0, none⟩ x).setCell ⟨B, 1, none⟩ y).setCell ⟨B, 2, none⟩ z) (some R) :=
  grownBy_own (grownBy_own (grownBy_own h (grownBy_setCell X B 0 x) (fun k e => by cases e; exact hB)) (grownBy_setCell _ B 1 y) (fun k e => by cases e; exact hB)) (grownBy_setCell _ B 2 z) (fun k e => by cases e; exact hB)
theorem set3_ok {X : World} {R B : Nat} {a : Option Addr} {len cap : Nat} {zz : List Int} (h : RdOk X R a len cap zz) (hB : R < B) (x y z : Value) : RdOk (((X.setCell ⟨B, 0, none⟩ x).setCell ⟨B, 1, none⟩ y).setCell ⟨B, 2, none⟩ z) R a len cap zz :=
  ((h.grown (grownBy_setCell X B 0 x) (fun k e => by cases e; exact hB)).grown (grownBy_setCell _ B 1 y) (fun k e => by cases e; exact hB)).grown (grownBy_setCell _ B 2 z) (fun k e => by cases e; exact hB)
set_option maxHeartbeats 1000000 in
theorem rd_pattern (w : World) (R : Nat) (a : Option Addr) (len cap : Nat) (z : List Int) (h : RdOk w R a len cap z) :
    Calls Try.prog 42 #[.pointer (some ⟨R, 0, none⟩)] w fun e w' => ∃ (s : ByteArray) (k : Int) (f : Bool), e = .returned (.agg #[.string s, .int .i64 k, .bool f]) ∧ s.size ≤ 8 ∧ i64B k ∧ RdOk w' R a len cap z ∧ w.grownBy w' (some R) := by
  have hR := h.lt
  go_enter Try.func42, Try.ntmps42
  go_wp2_with fail
  have r0 := heap_alloc_new w (.cells #[.string ⟨#[]⟩, .int .i64 0, .bool false] 36)
  refine (rd_term _ _ _ _ _ _ (h.alloc _) 7 (by omega)).mono ?_
  rintro e w1 ⟨s, rfl, hs, hok1, hg1⟩
  have r1 := (hg1.block w.heap.size (by simp) (by simp; omega)).trans r0
  have hw1 : w.grownBy w1 (some R) := grownBy_trans (World.grownBy_alloc w _ _) hg1
  have z1 := hg1.size
  simp only [World.size_alloc] at z1
  clear r0 hg1
  go_wp2_with fail
  refine (rd_below _ _ _ _ _ _ hok1 _).mono ?_
  rintro e w2 ⟨k, rfl, ⟨hk0, _, _, hk1⟩, hok2, hg2⟩
  have r2 := (hg2.block w.heap.size (by omega) (by simp; omega)).trans r1
  have hw2 := grownBy_trans hw1 hg2
  have z2 := hg2.size
  clear r1 hg2 hw1 hok1
  go_wp2_with fail
  refine (rd_once _ _ _ _ _ _ hok2 _ (by omega) (by omega)).mono ?_
  rintro e w3 ⟨f, rfl, hok3, hg3⟩
  have r3 := (hg3.block w.heap.size (by omega) (by simp; omega)).trans r2
  have hw3 := grownBy_trans hw2 hg3
  have z3 := hg3.size
  clear r2 hg3 hw2 hok2
  go_wp2_with fail
  have hok4 := hok3.alloc (.cells #[.string s, .int .i64 k, .bool f] 36)
  have p4 := heap_alloc_new w3 (.cells #[.string s, .int .i64 k, .bool f] 36)
  have r4 := (Below.heap_alloc w3 (.cells #[.string s, .int .i64 k, .bool f] 36) w.heap.size (by omega)).trans r3
  have hw4 := grownBy_alloc hw3 (.cells #[.string s, .int .i64 k, .bool f] 36)
  have z4 : (w3.alloc (.cells #[.string s, .int .i64 k, .bool f] 36)).heap.size = w3.heap.size + 1 := by simp
  generalize (w3.alloc (.cells #[.string s, .int .i64 k, .bool f] 36)) = W4 at *
  generalize w3.heap.size = B3 at *
  clear r3 hw3 hok3
  refine (rd_below _ _ _ _ _ _ hok4 _).mono ?_
  rintro e w5 ⟨m, rfl, ⟨hm0, _, hm1, _⟩, hok5, hg5⟩
  have r5 := (hg5.block w.heap.size (by omega) (by simp; omega)).trans r4
  have p5 := (hg5.block B3 (by omega) (by simp; omega)).trans p4
  have hw5 := grownBy_trans hw4 hg5
  have z5 := hg5.size
  clear r4 p4 hg5 hw4 hok4 hm1
  have fin : ∀ (X : World) (s' : ByteArray) (k' : Int) (f' : Bool), RdOk X R a len cap z → w.grownBy X (some R) → s'.size ≤ 8 → i64B k' → RdOk (((X.setCell ⟨w.heap.size, 0, none⟩ (.string s')).setCell ⟨w.heap.size, 1, none⟩ (.int .i64 k')).setCell ⟨w.heap.size, 2, none⟩ (.bool f')) R a len cap z ∧ w.grownBy (((X.setCell ⟨w.heap.size, 0, none⟩ (.string s')).setCell ⟨w.heap.size, 1, none⟩ (.int .i64 k')).setCell ⟨w.heap.size, 2, none⟩ (.bool f')) (some R) :=
    fun X s' k' f' h1 h2 _ _ => ⟨set3_ok h1 hR _ _ _, set3_grown h2 (Nat.le_refl _) _ _ _⟩
  by_cases c0 : m = 38
  · subst c0
    go_wp2_with fail
    refine (rd_off _ _ _ _ _ _ hok5 _ _ (by omega) (by omega) (by omega) (by omega)).mono ?_
    rintro e w6 ⟨x, rfl, hx, hok6, hg6⟩
    have r6 := (hg6.block w.heap.size (by omega) (by simp; omega)).trans r5
    have p6 := (hg6.block B3 (by omega) (by simp; omega)).trans p5
    have hw6 := grownBy_trans hw5 hg6
    have m0 : w6.cell? ⟨w.heap.size, 0, none⟩ = some (.string ⟨#[]⟩) := by rw [cell_of_row _ _ 0 _ _ _ r6]; rfl
    have m1 : w6.cell? ⟨w.heap.size, 1, none⟩ = some (.int .i64 0) := by rw [cell_of_row _ _ 1 _ _ _ r6]; rfl
    have m2 : w6.cell? ⟨w.heap.size, 2, none⟩ = some (.bool false) := by rw [cell_of_row _ _ 2 _ _ _ r6]; rfl
    have n0 : w6.cell? ⟨B3, 0, none⟩ = some (.string s) := by rw [cell_of_row _ _ 0 _ _ _ p6]; rfl
    have n1 : w6.cell? ⟨B3, 1, none⟩ = some (.int .i64 k) := by rw [cell_of_row _ _ 1 _ _ _ p6]; rfl
    have n2 : w6.cell? ⟨B3, 2, none⟩ = some (.bool f) := by rw [cell_of_row _ _ 2 _ _ _ p6]; rfl
    have g0 := frozen_of_row _ _ 0 _ _ r6
    have g1 := frozen_of_row _ _ 1 _ _ r6
    have g2 := frozen_of_row _ _ 2 _ _ r6
    have v1 := frozen_of_row _ _ 1 _ _ p6
    have hne : ¬ w.heap.size = B3 := by omega
    have hne2 : ¬ B3 = w.heap.size := by omega
    clear r5 p5 r6 p6 hok5 hw5 hg6
    go_wp2_with fail
    have hokX := hok6.grown (grownBy_setCell w6 B3 1 (.int .i64 x)) (fun q e => by cases e; omega)
    have hwX := grownBy_own hw6 (grownBy_setCell w6 B3 1 (.int .i64 x)) (fun q e => by cases e; omega)
    exact bodyPost_ret (v := .agg #[.string s, .int .i64 x, .bool f]) (by simp [results, Try.results42, go_sem, m0, m1, m2]) rfl ⟨_, _, _, rfl, by omega, hx, (fin _ s x f hokX hwX (by omega) hx)⟩
  · by_cases c1 : m = 39
    · subst c1
      have m0 : w5.cell? ⟨w.heap.size, 0, none⟩ = some (.string ⟨#[]⟩) := by rw [cell_of_row _ _ 0 _ _ _ r5]; rfl
      have m1 : w5.cell? ⟨w.heap.size, 1, none⟩ = some (.int .i64 0) := by rw [cell_of_row _ _ 1 _ _ _ r5]; rfl
      have m2 : w5.cell? ⟨w.heap.size, 2, none⟩ = some (.bool false) := by rw [cell_of_row _ _ 2 _ _ _ r5]; rfl
      have n0 : w5.cell? ⟨B3, 0, none⟩ = some (.string s) := by rw [cell_of_row _ _ 0 _ _ _ p5]; rfl
      have n1 : w5.cell? ⟨B3, 1, none⟩ = some (.int .i64 k) := by rw [cell_of_row _ _ 1 _ _ _ p5]; rfl
      have n2 : w5.cell? ⟨B3, 2, none⟩ = some (.bool f) := by rw [cell_of_row _ _ 2 _ _ _ p5]; rfl
      have g0 := frozen_of_row _ _ 0 _ _ r5
      have g1 := frozen_of_row _ _ 1 _ _ r5
      have g2 := frozen_of_row _ _ 2 _ _ r5
      have v0 := frozen_of_row _ _ 0 _ _ p5
      have hne : ¬ w.heap.size = B3 := by omega
      have hne2 : ¬ B3 = w.heap.size := by omega
      clear r5 p5
      go_wp2_with fail
      have hokX := hok5.grown (grownBy_setCell w5 B3 0 (.string ⟨#[]⟩)) (fun q e => by cases e; omega)
      have hwX := grownBy_own hw5 (grownBy_setCell w5 B3 0 (.string ⟨#[]⟩)) (fun q e => by cases e; omega)
      exact bodyPost_ret (v := .agg #[.string ⟨#[]⟩, .int .i64 k, .bool f]) (by simp [results, Try.results42, go_sem, m0, m1, m2]) rfl ⟨_, _, _, rfl, by decide, ⟨by omega, by omega⟩, (fin _ ⟨#[]⟩ k f hokX hwX (by decide) ⟨by omega, by omega⟩)⟩
    · have m0 : w5.cell? ⟨w.heap.size, 0, none⟩ = some (.string ⟨#[]⟩) := by rw [cell_of_row _ _ 0 _ _ _ r5]; rfl
      have m1 : w5.cell? ⟨w.heap.size, 1, none⟩ = some (.int .i64 0) := by rw [cell_of_row _ _ 1 _ _ _ r5]; rfl
      have m2 : w5.cell? ⟨w.heap.size, 2, none⟩ = some (.bool false) := by rw [cell_of_row _ _ 2 _ _ _ r5]; rfl
      have n0 : w5.cell? ⟨B3, 0, none⟩ = some (.string s) := by rw [cell_of_row _ _ 0 _ _ _ p5]; rfl
      have n1 : w5.cell? ⟨B3, 1, none⟩ = some (.int .i64 k) := by rw [cell_of_row _ _ 1 _ _ _ p5]; rfl
      have n2 : w5.cell? ⟨B3, 2, none⟩ = some (.bool f) := by rw [cell_of_row _ _ 2 _ _ _ p5]; rfl
      have g0 := frozen_of_row _ _ 0 _ _ r5
      have g1 := frozen_of_row _ _ 1 _ _ r5
      have g2 := frozen_of_row _ _ 2 _ _ r5
      have b0 : (m == 38) = false := by simpa using c0
      have b1 : (m == 39) = false := by simpa using c1
      clear r5 p5 c0 c1
      go_wp2_with fail
      exact bodyPost_ret (v := .agg #[.string s, .int .i64 k, .bool f]) (by simp [results, Try.results42, go_sem, m0, m1, m2]) rfl ⟨_, _, _, rfl, by omega, ⟨by omega, by omega⟩, (fin _ s k f hok5 hw5 (by omega) ⟨by omega, by omega⟩)⟩
theorem set3_cell {X : World} {b B i : Nat} (h : B ≠ b) (x y v : Value) : (((X.setCell ⟨b, 0, none⟩ x).setCell ⟨b, 1, none⟩ y).setCell ⟨b, 2, none⟩ v).cell? ⟨B, i, none⟩ = X.cell? ⟨B, i, none⟩ :=
  World.cell?_of_block ((Below.heap_setCell _ ⟨b, 2, none⟩ _ B h).trans ((Below.heap_setCell _ ⟨b, 1, none⟩ _ B h).trans (Below.heap_setCell _ ⟨b, 0, none⟩ _ B h)))
theorem laws_big (a : Option Addr) (len cap : Nat) (w : World) (hl : len ≤ 9223372036854775807) :
    Calls Try.prog 9 #[.slice a len cap] w fun e w' => e = .returned (.bool (decide (1048576 < (len : Int)))) ∧ w = w' := by
  go_enter Try.func9, Try.ntmps9
  go_wp2
  go_ret
  exact ⟨rfl, rfl⟩
end Go.Proofs.Ytgikjopmijomgab

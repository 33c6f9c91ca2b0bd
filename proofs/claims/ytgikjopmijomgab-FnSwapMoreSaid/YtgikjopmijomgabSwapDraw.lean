/-
  Drawers of chapter 18: a text with two bytes changed for each other; a pattern and a text.
-/
import Derived.Test.YtgikjopmijomgabL1Draw
import Derived.Test.YtgikjopmijomgabL3Draw
namespace Go.Proofs.Ytgikjopmijomgab
open Go.RowKit
set_option linter.unusedVariables false
set_option maxRecDepth 100000
set_option maxHeartbeats 2000000 in
theorem rd_swapped (w : World) (R : Nat) (a : Option Addr) (len cap : Nat) (z : List Int) (h : RdOk w R a len cap z) (s : ByteArray) (hs : s.size ≤ 1000) :
    Calls Try.prog 37 #[.pointer (some ⟨R, 0, none⟩), .string s] w fun e w' => ∃ t : ByteArray, e = .returned (.string t) ∧ t.size ≤ s.size + 2 ∧ RdOk w' R a len cap z ∧ w.grownBy w' (some R) := by
  by_cases h2 : s.size < 2
  · have h2' : (s.size : Int) < 2 := by omega
    go_enter Try.func37, Try.ntmps37
    go_wp2_with fail
    refine (rd_nearly _ _ _ _ _ _ h s hs).mono ?_
    rintro e w1 ⟨t, rfl, ht, hok, hg⟩
    go_wp2_with fail
    go_ret
    exact ⟨_, rfl, ht, hok, hg⟩
  · have h2' : ¬ (s.size : Int) < 2 := by omega
    go_enter Try.func37, Try.ntmps37
    go_wp2_with fail
    refine (rd_once _ _ _ _ _ _ h 3 (by omega) (by omega)).mono ?_
    rintro e w1 ⟨m, rfl, hok, hg⟩
    cases m
    · have sw : IntKind.i64.wrap ((s.size : Int) - 1) = (s.size : Int) - 1 := by rw [IntKind.wrap_i64]; omega
      go_wp2_with fail
      refine (rd_below _ _ _ _ _ _ hok _).mono ?_
      rintro e w2 ⟨x, rfl, ⟨hx0, hx3, hx1, _⟩, hok2, hg2⟩
      have hx2 : x + 1 < s.size := by
        by_cases h1 : (s.size : Int) - 1 ≤ 1
        · have := hx3 h1; omega
        · have := hx1 (by omega); omega
      clear hx1 hx3
      obtain ⟨j, rfl⟩ := Int.eq_ofNat_of_zero_le hx0
      have jw1 : IntKind.i64.wrap ((j : Int) + 1) = (j : Int) + 1 := by rw [IntKind.wrap_i64]; omega
      have jw2 : IntKind.i64.wrap ((j : Int) + 2) = (j : Int) + 2 := by rw [IntKind.wrap_i64]; omega
      have q0 : (0 : Int) ≤ (j : Int) + 1 := by omega
      have q1 : (0 : Int) ≤ (j : Int) + 2 := by omega
      have q2 : (j : Int) + 2 ≤ (s.size : Int) := by omega
      have q3 : (j : Int) + 1 ≤ (j : Int) + 2 := by omega
      have q4 : (j : Int) ≤ (j : Int) + 1 := by omega
      have q5 : (j : Int) + 1 ≤ (s.size : Int) := by omega
      have q6 : (j : Int) ≤ (s.size : Int) := by omega
      have t1 : ((j : Int) + 1).toNat = j + 1 := by omega
      have t2 : ((j : Int) + 2).toNat = j + 2 := by omega
      obtain ⟨A, hA⟩ : ∃ A, s.extract 0 j = A := ⟨_, rfl⟩
      obtain ⟨B, hB⟩ : ∃ B, s.extract (j + 1) (j + 2) = B := ⟨_, rfl⟩
      obtain ⟨C, hC⟩ : ∃ C, s.extract j (j + 1) = C := ⟨_, rfl⟩
      obtain ⟨D, hD⟩ : ∃ D, s.extract (j + 2) s.size = D := ⟨_, rfl⟩
      have hAs : A.size = j := by rw [← hA, ByteArray.size_extract]; omega
      have hBs : B.size = 1 := by rw [← hB, ByteArray.size_extract]; omega
      have hCs : C.size = 1 := by rw [← hC, ByteArray.size_extract]; omega
      have hDs : D.size = s.size - (j + 2) := by rw [← hD, ByteArray.size_extract]; omega
      have HA := Lib.hid hAs; have HB := Lib.hid hBs; have HC := Lib.hid hCs; have HD := Lib.hid hDs
      have n1 : ¬ (9223372036854775807 : Int) < ((A.size : Nat) : Int) + (B.size : Nat) := by omega
      have n2 : ¬ (9223372036854775807 : Int) < (((A ++ B).size : Nat) : Int) + (C.size : Nat) := by rw [ByteArray.size_append]; omega
      have n3 : ¬ (9223372036854775807 : Int) < (((A ++ B ++ C).size : Nat) : Int) + (D.size : Nat) := by rw [ByteArray.size_append, ByteArray.size_append]; omega
      have m1 : ¬ (9223372036854775807 : Nat) < A.size + B.size := by omega
      have m2 : ¬ (9223372036854775807 : Nat) < (A ++ B).size + C.size := by rw [ByteArray.size_append]; omega
      have m3 : ¬ (9223372036854775807 : Nat) < (A ++ B ++ C).size + D.size := by rw [ByteArray.size_append, ByteArray.size_append]; omega
      have m4 : ¬ (9223372036854775807 : Nat) < A.size + B.size + C.size := by omega
      have m5 : ¬ (9223372036854775807 : Nat) < A.size + B.size + C.size + D.size := by omega
      clear hAs hBs hCs hDs
      have hgw := grownBy_trans hg hg2
      clear hg hg2
      go_wp2_with fail
      go_quiet (fail)
      go_wp2
      go_ret
      exact ⟨_, rfl, by rw [ByteArray.size_append, ByteArray.size_append, ByteArray.size_append, HA.out, HB.out, HC.out, HD.out]; omega, hok2.below (below_drewN (Below.refl _ _) _), grownBy_drewN hgw _⟩
    · go_wp2_with fail
      refine (rd_nearly _ _ _ _ _ _ hok s hs).mono ?_
      rintro e w2 ⟨t, rfl, ht, hok2, hg2⟩
      have hgw := grownBy_trans hg hg2
      go_wp2_with fail
      go_ret
      exact ⟨_, rfl, ht, hok2, hgw⟩
set_option maxHeartbeats 2000000 in
theorem drawSwapEnds (a : Option Addr) (len cap : Nat) (z : List Int) (w : World) (hr : IsRow .u8 w a len cap z) (hl : len ≤ 1048576) :
    Calls Try.prog 20 #[.slice a len cap] w fun e w' => ∃ (s : ByteArray) (k : Int) (f : Bool) (t : ByteArray), e = .returned (.tuple #[.agg #[.string s, .int .i64 k, .bool f], .string t]) ∧ s.size ≤ 8 ∧ i64B k ∧ t.size ≤ 40 ∧ Below w.heap.size w w' := by
  go_enter Try.func20, Try.ntmps20
  go_wp2_with fail
  have hr2 := isRow_below hr ((Below.refl w.heap.size w).alloc (Nat.le_refl _) (.cells #[.string ⟨#[]⟩, .int .i64 0, .bool false] 36))
  have r0 := heap_alloc_new w (.cells #[.string ⟨#[]⟩, .int .i64 0, .bool false] 36)
  have hb0 : Below w.heap.size w (w.alloc (.cells #[.string ⟨#[]⟩, .int .i64 0, .bool false] 36)) := (by repeat (first | exact Below.refl _ _ | assumption | (refine Below.drew ?_) | (refine below_drewN ?_ _) | (refine Below.alloc ?_ (by first | omega | (simp; done) | (simp; omega)) _) | (refine Below.setCell ?_ (by first | omega | (simp; done) | (simp; omega)) _)))
  have z0 : w.heap.size < (w.alloc (.cells #[.string ⟨#[]⟩, .int .i64 0, .bool false] 36)).heap.size := by simp
  generalize (w.alloc (.cells #[.string ⟨#[]⟩, .int .i64 0, .bool false] 36)) = w0 at *
  refine (l1Open_any _ _ _ _ _ hr2 hl).mono ?_
  rintro e w1 ⟨rfl, hok, hb⟩
  have r1 := (hb.block w.heap.size (by omega)).trans r0
  have hb1 := hb0.trans (hb.mono hb0.size)
  have z1 := hok.lt
  clear r0
  go_wp2_with fail
  refine (rd_pattern _ _ _ _ _ _ hok).mono ?_
  rintro e w2 ⟨s, k, f, rfl, hs, hk, hok2, hg2⟩
  have r2 := (hg2.block w.heap.size (by omega) (by simp; omega)).trans r1
  have hb2 : Below w.heap.size w w2 := hb1.grown hg2 hb1.size (fun q e => by cases e; omega)
  have z2 := hg2.size
  clear r1 hg2 hb1 hb
  go_wp2_with fail
  have hok3 := hok2.alloc (.cells #[.string s, .int .i64 k, .bool f] 36)
  have p3 := heap_alloc_new w2 (.cells #[.string s, .int .i64 k, .bool f] 36)
  have r3 := (Below.heap_alloc w2 (.cells #[.string s, .int .i64 k, .bool f] 36) w.heap.size (by omega)).trans r2
  have hb3 := hb2.alloc hb2.size (.cells #[.string s, .int .i64 k, .bool f] 36)
  have z3 : w2.heap.size < (w2.alloc (.cells #[.string s, .int .i64 k, .bool f] 36)).heap.size := by simp
  generalize (w2.alloc (.cells #[.string s, .int .i64 k, .bool f] 36)) = w3 at *
  generalize w2.heap.size = B at *
  generalize w0.heap.size = R at *
  clear r2 hb0 hb2 hok2 hok hr2 hr
  refine (rd_term _ _ _ _ _ _ hok3 5 (by omega)).mono ?_
  rintro e w4 ⟨t, rfl, ht, hok4, hg4⟩
  have p4 := (hg4.block B (by omega) (by simp; omega)).trans p3
  have r4 := (hg4.block w.heap.size (by omega) (by simp; omega)).trans r3
  have hb4 : Below w.heap.size w w4 := hb3.grown hg4 hb3.size (fun q e => by cases e; omega)
  have z4 := hg4.size
  clear p3 r3 hb3 hg4 hok3
  go_wp2_with fail
  refine (rd_below _ _ _ _ _ _ hok4 _).mono ?_
  rintro e w5 ⟨q, rfl, ⟨hq0, _, hq1, _⟩, hok5, hg5⟩
  have hq2 : q < 2 := hq1 (by omega)
  have p5 := (hg5.block B (by omega) (by simp; omega)).trans p4
  have r5 := (hg5.block w.heap.size (by omega) (by simp; omega)).trans r4
  have hb5 : Below w.heap.size w w5 := hb4.grown hg5 hb4.size (fun q e => by cases e; omega)
  have z5 := hg5.size
  clear p4 r4 hb4 hg5 hok4 hq1
  obtain ⟨q, rfl⟩ := Int.eq_ofNat_of_zero_le hq0
  have qw : IntKind.i64.wrap (1 + (q : Int)) = 1 + (q : Int) := by rw [IntKind.wrap_i64]; omega
  have hP5 := Lib.hid p5; have hR5 := Lib.hid r5
  clear p5 r5
  go_wp2_with fail
  go_loopw [6, 7] (fun v i wr => ∃ (j : Nat) (t : ByteArray), j ≤ 2 ∧ t.size + j * 14 ≤ 34 ∧ i = .int .i64 j ∧ v = .string t ∧ wr.heap[B]? = some (.cells #[.string s, .int .i64 k, .bool f] 36 (0, 0)) ∧ wr.heap[w.heap.size]? = some (.cells #[.string ⟨#[]⟩, .int .i64 0, .bool false] 36 (0, 0)) ∧ RdOk wr R a len cap z ∧ Below w.heap.size w wr ∧ B < wr.heap.size)
    (fun _ i _ => (intOf i).toNat)
  case atStart => exact ⟨1 + q, t, by omega, by omega, by congr 1, rfl, hP5.out, hR5.out, hok5, hb5, by omega⟩
  case round =>
    obtain ⟨j, t, hj, hL, rfl, rfl, hp, hrr, hokr, hb, hz⟩ := hrel
    have n0 : wr.cell? ⟨B, 0, none⟩ = some (.string s) := by rw [cell_of_row _ _ 0 _ _ _ hp]; rfl
    by_cases hj0 : j = 0
    · subst hj0
      have n1 : wr.cell? ⟨B, 1, none⟩ = some (.int .i64 k) := by rw [cell_of_row _ _ 1 _ _ _ hp]; rfl
      have n2 : wr.cell? ⟨B, 2, none⟩ = some (.bool f) := by rw [cell_of_row _ _ 2 _ _ _ hp]; rfl
      have m0 : wr.cell? ⟨w.heap.size, 0, none⟩ = some (.string ⟨#[]⟩) := by rw [cell_of_row _ _ 0 _ _ _ hrr]; rfl
      have m1 : wr.cell? ⟨w.heap.size, 1, none⟩ = some (.int .i64 0) := by rw [cell_of_row _ _ 1 _ _ _ hrr]; rfl
      have m2 : wr.cell? ⟨w.heap.size, 2, none⟩ = some (.bool false) := by rw [cell_of_row _ _ 2 _ _ _ hrr]; rfl
      have g0 := frozen_of_row _ _ 0 _ _ hrr
      have g1 := frozen_of_row _ _ 1 _ _ hrr
      have g2 := frozen_of_row _ _ 2 _ _ hrr
      have hne : ¬ w.heap.size = B := by omega
      have hne2 : ¬ B = w.heap.size := by omega
      clear hp hrr
      go_wp2_with fail
      exact bodyPost_ret (v := .tuple #[.agg #[.string s, .int .i64 k, .bool f], .string t]) (by simp [results, Try.results20, go_sem, m0, m1, m2]) rfl ⟨_, _, _, _, rfl, by omega, hk, by omega, ((hb.setCell (p := ⟨w.heap.size, 0, none⟩) (Nat.le_refl _) _).setCell (p := ⟨w.heap.size, 1, none⟩) (Nat.le_refl _) _).setCell (p := ⟨w.heap.size, 2, none⟩) (Nat.le_refl _) _⟩
    · have HP := Lib.hid hp; have HRR := Lib.hid hrr
      clear hp hrr hP5 hR5
      have jw : IntKind.i64.wrap ((j : Int) - 1) = (j : Int) - 1 := by rw [IntKind.wrap_i64]; omega
      have j0 : (0 : Int) < (j : Int) := by omega
      go_wp2_with fail
      refine (rd_swapped _ _ _ _ _ _ hokr s (by omega)).mono ?_
      rintro e w6 ⟨x, rfl, hx, hok6, hg6⟩
      have p6 := (hg6.block B (by omega) (by simp; omega)).trans HP.out
      have r6 := (hg6.block w.heap.size (by omega) (by simp; omega)).trans HRR.out
      have hb6 : Below w.heap.size w w6 := hb.grown hg6 hb.size (fun q e => by cases e; omega)
      have z6 := hg6.size
      have HP6 := Lib.hid p6; have HR6 := Lib.hid r6
      clear p6 r6 hb hg6 hokr n0
      go_wp2_with fail
      refine (rd_term _ _ _ _ _ _ hok6 3 (by omega)).mono ?_
      rintro e w7 ⟨y, rfl, hy, hok7, hg7⟩
      have p7 := (hg7.block B (by omega) (by simp; omega)).trans HP6.out
      have r7 := (hg7.block w.heap.size (by omega) (by simp; omega)).trans HR6.out
      have hb7 : Below w.heap.size w w7 := hb6.grown hg7 hb6.size (fun q e => by cases e; omega)
      have z7 := hg7.size
      have HP7 := Lib.hid p7; have HR7 := Lib.hid r7
      have HAB := Lib.hid (show (t ++ x ++ y).size = t.size + x.size + y.size by rw [ByteArray.size_append, ByteArray.size_append])
      clear p7 r7 hb6 hg7 hok6
      go_wp2_with fail
      go_roundw
      case rel => exact ⟨j - 1, _, by omega, (by rw [HAB.out]; omega), by congr 1; omega, rfl, HP7.out, HR7.out, hok7, hb7, by omega⟩
      case measure => simp [intOf]; omega
end Go.Proofs.Ytgikjopmijomgab

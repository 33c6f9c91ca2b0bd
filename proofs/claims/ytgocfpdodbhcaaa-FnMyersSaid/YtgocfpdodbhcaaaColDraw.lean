/-
  Chapter 3: what is drawn: a column, with its pattern; and lists of numbers held against each other.
-/
import Derived.Test.YtgocfpdodbhcaaaL3Draw
import Derived.Test.YtgocfpdodbhcaaaL1Draw
import Derived.Test.YtgocfpdodbhcaaaL3NextL
import Derived.Test.YtgocfpdodbhcaaaColNear
import Derived.Deep.RegionHeld3
namespace Go.Proofs.Ytgocfpdodbhcaaa
open Go.RowKit
set_option linter.unusedVariables false
set_option maxRecDepth 100000
/-- a column that is right, or none -/
def ColFine (s : ByteArray) (k : Int) (L : List Int) : Prop := L = [] ∨ (patOk s k = true ∧ L.length = s.size + 1 ∧ Near (intAt L) s.size)
theorem ColFine.len {s : ByteArray} {k : Int} {L : List Int} (h : ColFine s k L) (hs : s.size ≤ 20) : L.length ≤ 21 := by
  rcases h with rfl | ⟨_, h, _⟩
  · simp
  · omega
theorem ColFine.bnd {s : ByteArray} {k : Int} {L : List Int} (h : ColFine s k L) (i : Nat) (hi : i < L.length) : 0 ≤ intAt L i ∧ intAt L i ≤ i := by
  rcases h with rfl | ⟨_, hl, h⟩
  · simp at hi
  · exact ⟨h.2.1 i (by omega), near_le h i (by omega)⟩
theorem fine_first (s : ByteArray) (k : Int) : ColFine s k (firstColL s k) := by
  unfold firstColL
  cases hp : patOk s k
  · left; rfl
  · right
    exact ⟨hp, tab_length _ _, near_congr (fun i hi => (intAt_tab idI _ _ (by omega)).symm) (near_id s.size)⟩
theorem fine_next {s : ByteArray} {k : Int} {L : List Int} (f : Bool) (b : Int) (h : ColFine s k L) : ColFine s k (nextColL s k f b L) := by
  unfold nextColL
  cases hc : nextColB s k b L
  · left; rfl
  · right
    unfold nextColB at hc
    simp only [Bool.and_eq_true] at hc
    have h1 := (colOkB_iff _ _ _).1 hc.1
    have hn : Near (intAt L) s.size := by have := h1.2.2; rw [h1.2.1] at this; exact near_of_steps this
    exact ⟨h1.1, tab_length _ _, near_congr (fun i hi => (intAt_tab _ _ _ (by omega)).symm) (near_next hn).1⟩
theorem laws_sameInts (L : List Int) (a1 a2 : Option Addr) (n cap1 cap2 : Nat) (w : World) (hn : L.length = n) (h1 : Ints w a1 L) (h2 : Ints w a2 L) (hlen : n ≤ 1048577) :
    Calls Try.prog 32 #[.slice a1 n cap1, .slice a2 n cap2] w fun e w' => e = .returned (.bool true) ∧ Below w.heap.size w w' := by
  have e0 : ((n : Int) != (n : Int)) = false := by simp
  have HN := Lib.hid hn; clear hn
  go_enter Try.func32, Try.ntmps32
  go_wp2
  go_loopw [5] (fun i wr => ∃ k : Nat, k ≤ n ∧ i = .int .i64 k ∧ Below w.heap.size w wr)
    (fun i _ => n - (intOf i).toNat)
  case atStart => exact ⟨0, by omega, rfl, Below.refl _ _⟩
  case round =>
    obtain ⟨k, hk, rfl, hb⟩ := hrel
    by_cases hlt : k < n
    · obtain ⟨b1, off1, rfl, hp1⟩ := (h1.kept hb).at k (by rw [HN.out]; exact hlt)
      obtain ⟨b2, off2, rfl, hp2⟩ := (h2.kept hb).at k (by rw [HN.out]; exact hlt)
      have c1 := hp1 k (by rw [HN.out]; exact hlt)
      have c2 := hp2 k (by rw [HN.out]; exact hlt)
      generalize intAt L k = x at c1 c2
      have e1 : (x != x) = false := by simp
      clear h1 h2 hp1 hp2
      go_wp2_with fail
      go_quiet (fail)
      go_wp2
      go_roundw
      case rel => exact ⟨k + 1, by omega, by go_num, below_drewN hb _⟩
      case measure => simp [intOf]; omega
    · obtain rfl : k = n := by omega
      go_wp2
      go_ret
      exact ⟨rfl, hb⟩
set_option maxHeartbeats 2000000 in
theorem rd_column (w : World) (R : Nat) (a : Option Addr) (len cap : Nat) (z : List Int) (h : RdOk w R a len cap z) (s : ByteArray) (k : Int) (f : Bool) (hs : s.size ≤ 8) :
    Calls Try.prog 122 #[.pointer (some ⟨R, 0, none⟩), .agg #[.string s, .int .i64 k, .bool f]] w fun e w' => ∃ (a' : Option Addr) (n cap' : Nat), e = .returned (.slice a' n cap') ∧ ∃ L : List Int, OwnN w' w.heap.size a' n cap' L ∧ ColFine s k L ∧ RdOk w' R a len cap z ∧ w.grownBy w' (some R) := by
  have hR := h.lt
  go_enter Try.func122, Try.ntmps122
  go_wp2_with fail
  have r0 := heap_alloc_new w (.cells #[.string s, .int .i64 k, .bool f] 31)
  have hok0 := h.alloc (.cells #[.string s, .int .i64 k, .bool f] 31)
  have hw0 := World.grownBy_alloc w (.cells #[.string s, .int .i64 k, .bool f] 31) (some R)
  have z0 : w.heap.size < (w.alloc (.cells #[.string s, .int .i64 k, .bool f] 31)).heap.size := by simp
  generalize (w.alloc (.cells #[.string s, .int .i64 k, .bool f] 31)) = w0 at *
  refine (spec_firstCol s k f _ (by omega)).mono ?_
  rintro e w1 ⟨a1, n1, cap1, rfl, hO, hb1⟩
  have hF := fine_first s k
  generalize firstColL s k = L at *
  have r1 := (hb1.block w.heap.size z0).trans r0
  have z1 := hb1.size
  have hok1 := hok0.below hb1
  have hw1 := grownBy_trans hw0 (grown_of_below hb1 (some R))
  have hO1 := hO.mono (C := w.heap.size) (by omega)
  have m0 : w1.cell? ⟨w.heap.size, 0, none⟩ = some (.string s) := by rw [cell_of_row _ _ 0 _ _ _ r1]; rfl
  have m1 : w1.cell? ⟨w.heap.size, 1, none⟩ = some (.int .i64 k) := by rw [cell_of_row _ _ 1 _ _ _ r1]; rfl
  have m2 : w1.cell? ⟨w.heap.size, 2, none⟩ = some (.bool f) := by rw [cell_of_row _ _ 2 _ _ _ r1]; rfl
  clear r0 hO hb1 hok0 hw0
  go_wp2_with fail
  refine (rd_text _ _ _ _ _ _ hok1 s k f hs).mono ?_
  rintro e w2 ⟨t, rfl, ht, hok2, hg2⟩
  have r2 := (hg2.block w.heap.size (by omega) (by simp; omega)).trans r1
  have hw2 := grownBy_trans hw1 hg2
  have hO2 := hO1.kept_hi hg2 (fun q e => by cases e; omega)
  have z2 := hg2.size
  clear r1 hO1 hg2 hw1 hok1 m0 m1 m2
  go_wp2_with fail
  refine (rd_below _ _ _ _ _ _ hok2 _).mono ?_
  rintro e w3 ⟨q, rfl, ⟨hq0, hq3, hq1, _⟩, hok3, hg3⟩
  have hq2 : q ≤ 40 ∧ (t.size = 0 → q = 0) := by
    by_cases h1 : (t.size : Int) + 1 ≤ 1
    · have := hq3 h1; omega
    · have := hq1 (by omega); omega
  have r3 := (hg3.block w.heap.size (by omega) (by simp; omega)).trans r2
  have hw3 := grownBy_trans hw2 hg3
  have hO3 := hO2.kept_hi hg3 (fun q e => by cases e; omega)
  have z3 := hg3.size
  have hz3 : w.heap.size < w3.heap.size := by omega
  clear r2 hO2 hg3 hw2 hok2 hq1 hq3
  obtain ⟨q, rfl⟩ := Int.eq_ofNat_of_zero_le hq0
  obtain ⟨hq40, hqt⟩ := hq2
  have HQT := Lib.hid hqt; clear hqt
  have HF := Lib.hid hF; clear hF
  go_wp2_with fail
  go_loopw [5, 7] (fun v i wr => ∃ (j : Nat) (a' : Option Addr) (n cap' : Nat) (L : List Int), i = .int .i64 j ∧ v = .slice a' n cap' ∧ j ≤ 40 ∧ (t.size = 0 → j = 0) ∧ OwnN wr w.heap.size a' n cap' L ∧ ColFine s k L ∧ RdOk wr R a len cap z ∧ w.grownBy wr (some R) ∧ wr.heap[w.heap.size]? = some (.cells #[.string s, .int .i64 k, .bool f] 31 (0, 0)) ∧ w.heap.size < wr.heap.size)
    (fun _ i _ => (intOf i).toNat)
  case atStart => exact ⟨q, _, _, _, _, rfl, rfl, by omega, fun e => by have := HQT.out e; omega, hO3, HF.out, hok3, hw3, r3, hz3⟩
  case round =>
    obtain ⟨j, a', n, cap', L, rfl, rfl, hj, hjt, hO, hF, hok, hgr, rr, hz⟩ := hrel
    clear r3 hO3 HF hok3 hw3
    by_cases hj0 : j = 0
    · subst hj0
      have HF := Lib.hid hF; have HJ := Lib.hid hjt; clear hF hjt
      go_wp2_with fail
      go_ret
      exact ⟨_, _, _, rfl, L, hO, HF.out, hok, hgr⟩
    · have ht1 : 1 ≤ t.size := by by_cases e : t.size = 0; · exact absurd (hjt e) hj0
                                  · omega
      obtain ⟨m, hm⟩ : ∃ m, j % t.size = m := ⟨_, rfl⟩
      have hmt : m < t.size := by rw [← hm]; exact Nat.mod_lt _ ht1
      have jw : (j : Int).tmod (t.size : Int) = (m : Int) := by rw [← hm]; exact (Int.ofNat_tmod j t.size).symm
      have hlen := hF.len (by omega)
      have hLn := hO.len
      have HN := Lib.hid hO.len
      have HFN := Lib.hid (fun b => fine_next f b hF)
      have HW := Lib.hid (fun i (hi : i < n) => show -9223372036854775808 ≤ intAt L i ∧ intAt L i ≤ 9223372036854775807 by have := hF.bnd i (by omega); omega)
      have hn21 : n ≤ 21 := by omega
      have hch := t[m].toNat_lt
      have m0 : wr.cell? ⟨w.heap.size, 0, none⟩ = some (.string s) := by rw [cell_of_row _ _ 0 _ _ _ rr]; rfl
      have m1 : wr.cell? ⟨w.heap.size, 1, none⟩ = some (.int .i64 k) := by rw [cell_of_row _ _ 1 _ _ _ rr]; rfl
      have m2 : wr.cell? ⟨w.heap.size, 2, none⟩ = some (.bool f) := by rw [cell_of_row _ _ 2 _ _ _ rr]; rfl
      have i0 : (0 : Int) ≤ (m : Int) := by omega
      have i1 : (m : Int) < (t.size : Int) := by omega
      have i2 : ((m : Int)).toNat = m := by omega
      have i3 : (0 : Int) < (t.size : Int) := by omega
      have bw : IntKind.i64.wrap (t[m].toNat : Int) = (t[m].toNat : Int) := by rw [IntKind.wrap_i64]; omega
      have i5 : ¬ t.size = 0 := by omega
      have i6 : ¬ (t.size : Int) = 0 := by omega
      have i7 : ¬ t = ByteArray.empty := fun e => i5 (by rw [e]; rfl)
      have je : (j : Int) % (t.size : Int) = (m : Int) := by rw [← hm]; simp
      have j3 : (0 : Int) < (j : Int) := by omega
      have hs1 : s.size ≤ 1048576 := by omega
      have hn1 : n ≤ 1048577 := by omega
      have hOd : OwnN wr.drew w.heap.size a' n cap' L := hO.kept ((Below.refl wr.heap.size wr).drew)
      have hId := hOd.ints
      have hokd : RdOk wr.drew R a len cap z := hok.below ((Below.refl wr.heap.size wr).drew)
      have rd : wr.drew.heap[w.heap.size]? = some (.cells #[.string s, .int .i64 k, .bool f] 31 (0, 0)) := rr
      have hgd : w.grownBy wr.drew (some R) := ⟨hgr.os, hgr.tape, hgr.output, hgr.size, hgr.block⟩
      have hzd : w.heap.size < wr.drew.heap.size := hz
      have hS0 : wr.drew.cell? ⟨w.heap.size, 0, none⟩ = some (.string s) ∧ wr.drew.cell? ⟨w.heap.size, 1, none⟩ = some (.int .i64 k) ∧ wr.drew.cell? ⟨w.heap.size, 2, none⟩ = some (.bool f) := ⟨m0, m1, m2⟩
      clear hjt hm hLn hlen hF hO hok hgr rr m0 m1 m2 hz
      go_wp2_with fail
      go_region_held3 (fun W => W.cell? ⟨w.heap.size, 0, none⟩ = some (.string s) ∧ W.cell? ⟨w.heap.size, 1, none⟩ = some (.int .i64 k) ∧ W.cell? ⟨w.heap.size, 2, none⟩ = some (.bool f)) (first | with_reducible exact hS0 | with_reducible exact hS9 | go_keep)
        (first | (go_at_call 33; (with_reducible refine (spec_nextCol s k f L a' n cap' (t[m].toNat : Int) _ hs1 HN.out hId hn1 HW.out).mono ?_); rintro e w9 ⟨a9, n9, cap9, rfl, hO9, hb9⟩; have hS9 : w9.cell? ⟨w.heap.size, 0, none⟩ = some (.string s) ∧ w9.cell? ⟨w.heap.size, 1, none⟩ = some (.int .i64 k) ∧ w9.cell? ⟨w.heap.size, 2, none⟩ = some (.bool f) := ⟨(hb9.cell (p := ⟨w.heap.size, 0, none⟩) hzd).trans hS0.1, (hb9.cell (p := ⟨w.heap.size, 1, none⟩) hzd).trans hS0.2.1, (hb9.cell (p := ⟨w.heap.size, 2, none⟩) hzd).trans hS0.2.2⟩))
      have r9 := (hb9.block w.heap.size hzd).trans rd
      have z9 := hb9.size
      have hok9 := hokd.below hb9
      have hg9 := grownBy_trans hgd (grown_of_below hb9 (some R))
      have hO9' := hO9.mono (C := w.heap.size) (Nat.le_of_lt hzd)
      clear jw je bw
      go_wp2_with fail
      go_roundw
      case rel => exact ⟨j - 1, _, _, _, _, by congr 1; omega, rfl, by omega, fun e => by omega, hO9', HFN.out _, hok9, hg9, r9, Nat.lt_of_lt_of_le hzd z9⟩
      case measure => simp [intOf]; omega
/-- a pattern, whatever it is -/
theorem drawPatternOk (a : Option Addr) (len cap : Nat) (z : List Int) (w : World) (hr : IsRow .u8 w a len cap z) (hl : len ≤ 1048576) :
    Calls Try.prog 128 #[.slice a len cap] w fun e w' => ∃ (s : ByteArray) (k : Int) (f : Bool), e = .returned (.agg #[.string s, .int .i64 k, .bool f]) ∧ s.size ≤ 8 ∧ i64B k ∧ Below w.heap.size w w' := by
  go_enter Try.func128, Try.ntmps128
  go_wp2_with fail
  have hr2 := isRow_below hr ((Below.refl w.heap.size w).alloc (Nat.le_refl _) (.cells #[.string ⟨#[]⟩, .int .i64 0, .bool false] 31))
  have r0 := heap_alloc_new w (.cells #[.string ⟨#[]⟩, .int .i64 0, .bool false] 31)
  have hb0 : Below w.heap.size w (w.alloc (.cells #[.string ⟨#[]⟩, .int .i64 0, .bool false] 31)) := (by repeat (first | exact Below.refl _ _ | assumption | (refine Below.drew ?_) | (refine below_drewN ?_ _) | (refine Below.alloc ?_ (by first | omega | (simp; done) | (simp; omega)) _) | (refine Below.setCell ?_ (by first | omega | (simp; done) | (simp; omega)) _)))
  have z0 : w.heap.size < (w.alloc (.cells #[.string ⟨#[]⟩, .int .i64 0, .bool false] 31)).heap.size := by simp
  generalize (w.alloc (.cells #[.string ⟨#[]⟩, .int .i64 0, .bool false] 31)) = w0 at *
  refine (l1Open_any _ _ _ _ _ hr2 hl).mono ?_
  rintro e w1 ⟨rfl, hok, hb⟩
  have r1 := (hb.block w.heap.size (by omega)).trans r0
  have hb1 := hb0.trans (hb.mono hb0.size)
  have z1 := hok.lt
  clear r0
  go_wp2_with fail
  refine (rd_pattern _ _ _ _ _ _ hok).mono ?_
  rintro e w2 ⟨s, k, f, rfl, hs, hk, hok2, hg2⟩
  have r2 := (hg2.block w.heap.size (by omega) (by simp; omega)).trans r1
  have hb2 : Below w.heap.size w w2 := hb1.grown hg2 hb1.size (fun q e => by cases e; omega)
  have z2 := hg2.size
  clear r1 hg2 hb1 hb
  go_wp2_with fail
  have hok3 := hok2.alloc (.cells #[.string s, .int .i64 k, .bool f] 31)
  have p3 := heap_alloc_new w2 (.cells #[.string s, .int .i64 k, .bool f] 31)
  have r3 := (Below.heap_alloc w2 (.cells #[.string s, .int .i64 k, .bool f] 31) w.heap.size (by omega)).trans r2
  have hb3 := hb2.alloc hb2.size (.cells #[.string s, .int .i64 k, .bool f] 31)
  have z3 : w2.heap.size < (w2.alloc (.cells #[.string s, .int .i64 k, .bool f] 31)).heap.size := by simp
  generalize (w2.alloc (.cells #[.string s, .int .i64 k, .bool f] 31)) = w3 at *
  generalize w2.heap.size = B at *
  generalize w0.heap.size = R at *
  clear r2 hb0 hb2 hok2 hok hr2 hr
  refine (rd_once _ _ _ _ _ _ hok3 _ (by omega) (by omega)).mono ?_
  rintro e w4 ⟨o, rfl, hok4, hg4⟩
  have p4 := (hg4.block B (by omega) (by simp; omega)).trans p3
  have r4 := (hg4.block w.heap.size (by omega) (by simp; omega)).trans r3
  have hb4 : Below w.heap.size w w4 := hb3.grown hg4 hb3.size (fun q e => by cases e; omega)
  have z4 := hg4.size
  clear p3 r3 hb3 hg4
  cases o
  · have n0 : w4.cell? ⟨B, 0, none⟩ = some (.string s) := by rw [cell_of_row _ _ 0 _ _ _ p4]; rfl
    have n1 : w4.cell? ⟨B, 1, none⟩ = some (.int .i64 k) := by rw [cell_of_row _ _ 1 _ _ _ p4]; rfl
    have n2 : w4.cell? ⟨B, 2, none⟩ = some (.bool f) := by rw [cell_of_row _ _ 2 _ _ _ p4]; rfl
    have m0 : w4.cell? ⟨w.heap.size, 0, none⟩ = some (.string ⟨#[]⟩) := by rw [cell_of_row _ _ 0 _ _ _ r4]; rfl
    have m1 : w4.cell? ⟨w.heap.size, 1, none⟩ = some (.int .i64 0) := by rw [cell_of_row _ _ 1 _ _ _ r4]; rfl
    have m2 : w4.cell? ⟨w.heap.size, 2, none⟩ = some (.bool false) := by rw [cell_of_row _ _ 2 _ _ _ r4]; rfl
    have g0 := frozen_of_row _ _ 0 _ _ r4
    have g1 := frozen_of_row _ _ 1 _ _ r4
    have g2 := frozen_of_row _ _ 2 _ _ r4
    clear p4 r4
    go_wp2_with fail
    exact bodyPost_ret (v := .agg #[.string s, .int .i64 k, .bool f]) (by simp [results, Try.results128, go_sem, m0, m1, m2]) rfl ⟨_, _, _, rfl, hs, hk, ((hb4.setCell (p := ⟨w.heap.size, 0, none⟩) (Nat.le_refl _) _).setCell (p := ⟨w.heap.size, 1, none⟩) (Nat.le_refl _) _).setCell (p := ⟨w.heap.size, 2, none⟩) (Nat.le_refl _) _⟩
  · go_wp2_with fail
    refine (rd_off _ _ _ _ _ _ hok4 _ _ (by omega) (by omega) (by omega) (by omega)).mono ?_
    rintro e w6 ⟨x, rfl, hx, hok6, hg6⟩
    have r6 := (hg6.block w.heap.size (by omega) (by simp; omega)).trans r4
    have p6 := (hg6.block B (by omega) (by simp; omega)).trans p4
    have hb6 : Below w.heap.size w w6 := hb4.grown hg6 hb4.size (fun q e => by cases e; omega)
    have n0 : w6.cell? ⟨B, 0, none⟩ = some (.string s) := by rw [cell_of_row _ _ 0 _ _ _ p6]; rfl
    have n1 : w6.cell? ⟨B, 1, none⟩ = some (.int .i64 k) := by rw [cell_of_row _ _ 1 _ _ _ p6]; rfl
    have n2 : w6.cell? ⟨B, 2, none⟩ = some (.bool f) := by rw [cell_of_row _ _ 2 _ _ _ p6]; rfl
    have m0 : w6.cell? ⟨w.heap.size, 0, none⟩ = some (.string ⟨#[]⟩) := by rw [cell_of_row _ _ 0 _ _ _ r6]; rfl
    have m1 : w6.cell? ⟨w.heap.size, 1, none⟩ = some (.int .i64 0) := by rw [cell_of_row _ _ 1 _ _ _ r6]; rfl
    have m2 : w6.cell? ⟨w.heap.size, 2, none⟩ = some (.bool false) := by rw [cell_of_row _ _ 2 _ _ _ r6]; rfl
    have g0 := frozen_of_row _ _ 0 _ _ r6
    have g1 := frozen_of_row _ _ 1 _ _ r6
    have g2 := frozen_of_row _ _ 2 _ _ r6
    have v1 := frozen_of_row _ _ 1 _ _ p6
    have hne : ¬ w.heap.size = B := by omega
    have hne2 : ¬ B = w.heap.size := by omega
    have hBB : w.heap.size ≤ B := by omega
    clear p4 r4 p6 r6 hg6 hb4
    go_wp2_with fail
    exact bodyPost_ret (v := .agg #[.string s, .int .i64 x, .bool f]) (by simp [results, Try.results128, go_sem, m0, m1, m2]) rfl ⟨_, _, _, rfl, hs, hx, (((hb6.setCell (p := ⟨B, 1, none⟩) hBB _).setCell (p := ⟨w.heap.size, 0, none⟩) (Nat.le_refl _) _).setCell (p := ⟨w.heap.size, 1, none⟩) (Nat.le_refl _) _).setCell (p := ⟨w.heap.size, 2, none⟩) (Nat.le_refl _) _⟩
end Go.Proofs.Ytgocfpdodbhcaaa

/-
  The drawer of FnWholeEnds (by wip/tools/mk_wholedraw.py).
-/
import Derived.Test.YtgikjopmijomgabWordsDraw
import Derived.Test.YtgikjopmijomgabL3Draw
namespace Go.Proofs.Ytgikjopmijomgab
open Go.RowKit
set_option linter.unusedVariables false
set_option maxRecDepth 100000
def gaps3 : List ByteArray := [⟨#[32]⟩, ⟨#[]⟩, ⟨#[45]⟩]
def rowsH (R B : Nat) (s t : ByteArray) : Nat → Value → World → Prop
  | 0 => fun v _ => v = .string t
  | 1 => fun v _ => StrN (t.size + 1) v
  | 2 => fun v _ => v = .pointer (some ⟨R, 0, none⟩)
  | 3 => fun v _ => v = .pointer (some ⟨B, 0, none⟩)
  | 4 => fun v _ => v = .string s
  | 5 => fun v _ => StrN (s.size + 2) v
  | 6 => fun v _ => StrN (t.size + s.size + 3) v
  | 7 => fun v w => ∃ b, v = .slice (some ⟨b, 0, none⟩) 3 3 ∧ LitAt gaps3 R b w
  | 8 => fun v _ => v = .pointer (some ⟨R, 0, none⟩)
  | 9 => fun v _ => ∃ j : Nat, v = .int .i64 j ∧ j < 3
  | 10 => fun v w => ∃ b j, v = .pointer (some ⟨b, j, none⟩) ∧ LitAt gaps3 R b w ∧ j < 3
  | 11 => fun v _ => StrN 1 v
  | 12 => fun v _ => StrN (t.size + s.size + 4) v
  | 13 => fun v _ => v = .pointer (some ⟨R, 0, none⟩)
  | 14 => fun v _ => StrN 3 v
  | _ => fun v _ => StrN (t.size + s.size + 7) v
theorem rowsH_on {R B : Nat} {s t : ByteArray} {w w1 : World} (hg : w.grownBy w1 (some R)) : ∀ j v, rowsH R B s t j v w → rowsH R B s t j v w1 := by
  intro j v h
  match j, h with
  | 0, h => exact h
  | 1, h => exact h
  | 2, h => exact h
  | 3, h => exact h
  | 4, h => exact h
  | 5, h => exact h
  | 6, h => exact h
  | 7, ⟨b, e, h⟩ => exact ⟨b, e, h.on hg⟩
  | 8, h => exact h
  | 9, h => exact h
  | 10, ⟨b, j, e, h, hj⟩ => exact ⟨b, j, e, h.on hg, hj⟩
  | 11, h => exact h
  | 12, h => exact h
  | 13, h => exact h
  | 14, h => exact h
  | j + 15, h => exact h
set_option maxHeartbeats 2000000 in
theorem drawWholeEnds (a : Option Addr) (len cap : Nat) (z : List Int) (w : World) (hr : IsRow .u8 w a len cap z) (hl : len ≤ 1048576) :
    Calls Try.prog 26 #[.slice a len cap] w fun e w' => ∃ (s : ByteArray) (k : Int) (f : Bool) (t : ByteArray), e = .returned (.tuple #[.agg #[.string s, .int .i64 k, .bool f], .string t]) ∧ s.size ≤ 8 ∧ i64B k ∧ t.size ≤ 60 ∧ Below w.heap.size w w' := by
  go_enter Try.func26, Try.ntmps26
  go_wp2_with fail
  have hr2 := isRow_below hr ((Below.refl w.heap.size w).alloc (Nat.le_refl _) (.cells #[.string ⟨#[]⟩, .int .i64 0, .bool false] 36))
  have r0 := heap_alloc_new w (.cells #[.string ⟨#[]⟩, .int .i64 0, .bool false] 36)
  have hb0 : Below w.heap.size w (w.alloc (.cells #[.string ⟨#[]⟩, .int .i64 0, .bool false] 36)) := (by repeat (first | exact Below.refl _ _ | assumption | (refine Below.drew ?_) | (refine below_drewN ?_ _) | (refine Below.alloc ?_ (by first | omega | (simp; done) | (simp; omega)) _) | (refine Below.setCell ?_ (by first | omega | (simp; done) | (simp; omega)) _)))
  have z0 : w.heap.size < (w.alloc (.cells #[.string ⟨#[]⟩, .int .i64 0, .bool false] 36)).heap.size := by simp
  generalize (w.alloc (.cells #[.string ⟨#[]⟩, .int .i64 0, .bool false] 36)) = w0 at *
  refine (l1Open_any _ _ _ _ _ hr2 hl).mono ?_
  rintro e w1 ⟨rfl, hok, hb⟩
  have r1 := (hb.block w.heap.size (by omega)).trans r0
  have hb1 := hb0.trans (hb.mono hb0.size)
  have z1 := hok.lt
  clear r0
  go_wp2_with fail
  refine (rd_pattern _ _ _ _ _ _ hok).mono ?_
  rintro e w2 ⟨s, k, f, rfl, hs, hk, hok2, hg2⟩
  have r2 := (hg2.block w.heap.size (by omega) (by simp; omega)).trans r1
  have hb2 : Below w.heap.size w w2 := hb1.grown hg2 hb1.size (fun q e => by cases e; omega)
  have z2 := hg2.size
  clear r1 hg2 hb1 hb
  go_wp2_with fail
  have hok3 := hok2.alloc (.cells #[.string s, .int .i64 k, .bool f] 36)
  have p3 := heap_alloc_new w2 (.cells #[.string s, .int .i64 k, .bool f] 36)
  have r3 := (Below.heap_alloc w2 (.cells #[.string s, .int .i64 k, .bool f] 36) w.heap.size (by omega)).trans r2
  have hb3 := hb2.alloc hb2.size (.cells #[.string s, .int .i64 k, .bool f] 36)
  have z3 : w2.heap.size < (w2.alloc (.cells #[.string s, .int .i64 k, .bool f] 36)).heap.size := by simp
  generalize (w2.alloc (.cells #[.string s, .int .i64 k, .bool f] 36)) = w3 at *
  generalize w2.heap.size = B at *
  generalize w0.heap.size = R at *
  clear r2 hb0 hb2 hok2 hok hr2 hr
  refine (rd_term _ _ _ _ _ _ hok3 4 (by omega)).mono ?_
  rintro e w4 ⟨t, rfl, ht, hok4, hg4⟩
  have p4 := (hg4.block B (by omega) (by simp; omega)).trans p3
  have r4 := (hg4.block w.heap.size (by omega) (by simp; omega)).trans r3
  have hb4 : Below w.heap.size w w4 := hb3.grown hg4 hb3.size (fun q e => by cases e; omega)
  have z4 := hg4.size
  clear p3 r3 hb3 hg4 hok3
  go_wp2_with fail
  refine (rd_below _ _ _ _ _ _ hok4 _).mono ?_
  rintro e w5 ⟨q, rfl, ⟨hq0, _, hq1, _⟩, hok5, hg5⟩
  have hq2 : q < 3 := hq1 (by omega)
  have p5 := (hg5.block B (by omega) (by simp; omega)).trans p4
  have r5 := (hg5.block w.heap.size (by omega) (by simp; omega)).trans r4
  have hb5 : Below w.heap.size w w5 := hb4.grown hg5 hb4.size (fun q e => by cases e; omega)
  have z5 := hg5.size
  clear p4 r4 hb4 hg5 hok4 hq1
  obtain ⟨q, rfl⟩ := Int.eq_ofNat_of_zero_le hq0
  have qw : IntKind.i64.wrap (1 + (q : Int)) = 1 + (q : Int) := by rw [IntKind.wrap_i64]; omega
  have hP5 := Lib.hid p5; have hR5 := Lib.hid r5
  clear p5 r5
  go_wp2_with fail
  go_loopw [6, 7] (fun v i wr => ∃ (j : Nat) (t : ByteArray), j ≤ 3 ∧ t.size + j * 15 ≤ 50 ∧ i = .int .i64 j ∧ v = .string t ∧ wr.heap[B]? = some (.cells #[.string s, .int .i64 k, .bool f] 36 (0, 0)) ∧ wr.heap[w.heap.size]? = some (.cells #[.string ⟨#[]⟩, .int .i64 0, .bool false] 36 (0, 0)) ∧ RdOk wr R a len cap z ∧ Below w.heap.size w wr ∧ B < wr.heap.size)
    (fun _ i _ => (intOf i).toNat)
  case atStart => exact ⟨1 + q, t, by omega, by omega, by congr 1, rfl, hP5.out, hR5.out, hok5, hb5, by omega⟩
  case round =>
    obtain ⟨j, t, hj, hL, rfl, rfl, hp, hrr, hokr, hb, hz⟩ := hrel
    have n0 : wr.cell? ⟨B, 0, none⟩ = some (.string s) := by rw [cell_of_row _ _ 0 _ _ _ hp]; rfl
    by_cases hj0 : j = 0
    · subst hj0
      have n1 : wr.cell? ⟨B, 1, none⟩ = some (.int .i64 k) := by rw [cell_of_row _ _ 1 _ _ _ hp]; rfl
      have n2 : wr.cell? ⟨B, 2, none⟩ = some (.bool f) := by rw [cell_of_row _ _ 2 _ _ _ hp]; rfl
      have m0 : wr.cell? ⟨w.heap.size, 0, none⟩ = some (.string ⟨#[]⟩) := by rw [cell_of_row _ _ 0 _ _ _ hrr]; rfl
      have m1 : wr.cell? ⟨w.heap.size, 1, none⟩ = some (.int .i64 0) := by rw [cell_of_row _ _ 1 _ _ _ hrr]; rfl
      have m2 : wr.cell? ⟨w.heap.size, 2, none⟩ = some (.bool false) := by rw [cell_of_row _ _ 2 _ _ _ hrr]; rfl
      have g0 := frozen_of_row _ _ 0 _ _ hrr
      have g1 := frozen_of_row _ _ 1 _ _ hrr
      have g2 := frozen_of_row _ _ 2 _ _ hrr
      have hne : ¬ w.heap.size = B := by omega
      have hne2 : ¬ B = w.heap.size := by omega
      clear hp hrr
      go_wp2_with fail
      exact bodyPost_ret (v := .tuple #[.agg #[.string s, .int .i64 k, .bool f], .string t]) (by simp [results, Try.results26, go_sem, m0, m1, m2]) rfl ⟨_, _, _, _, rfl, by omega, hk, by omega, ((hb.setCell (p := ⟨w.heap.size, 0, none⟩) (Nat.le_refl _) _).setCell (p := ⟨w.heap.size, 1, none⟩) (Nat.le_refl _) _).setCell (p := ⟨w.heap.size, 2, none⟩) (Nat.le_refl _) _⟩
    · have HP := Lib.hid hp; have HRR := Lib.hid hrr
      clear hp hrr hP5 hR5
      have jw : IntKind.i64.wrap ((j : Int) - 1) = (j : Int) - 1 := by rw [IntKind.wrap_i64]; omega
      have j0 : (0 : Int) < (j : Int) := by omega
      go_wp2_with fail
      refine region_inv3 (Wd := fun w' => RdOk w' R a len cap z ∧ wr.grownBy w' (some R) ∧ w'.cell? ⟨B, 0, none⟩ = some (.string s)) (R := rowsH R B s t) (D := []) (n := 39) (by kernel_rfl) (by kernel_rfl) (by kernel_rfl) ⟨hokr.below (Below.refl _ _).drew, ⟨rfl, rfl, rfl, Nat.le_refl _, fun _ _ _ => rfl⟩, n0⟩ rfl rfl ?hop ?hdone
      case hop =>
        rintro i o ho ⟨T, Df⟩ W hW hn hD hbase hdep
        dsimp only at hn hD
        subst hD
        match i, ho with
        | 0, ho =>
          obtain rfl := Option.some.inj ho
          have h0b : Act.eval { tmps := T, defers := [] } (.tmp 6) = .string t := hbase 6 (by kernel_rfl)
          have h0 : T[6]'(by omega) = .string t := by simpa [Act.eval, hn] using h0b
          go_simp
          exact ⟨⟨_, rfl, rfl⟩, hW, fun j v h => h⟩
        | 1, ho =>
          obtain rfl := Option.some.inj ho
          have esb : Act.eval { tmps := T, defers := [] } (.tmp 21) = .string t := hdep ⟨0, .data⟩ (by simp) (by rfl) _ 21 rfl rfl
          have es : T[21]'(by omega) = .string t := by simpa [Act.eval, hn] using esb
          have hbg : ¬ (9223372036854775807 : Nat) < t.size + 1 := by omega
          go_simp
          exact ⟨⟨_, rfl, ⟨_, rfl, by rw [ByteArray.size_append]; exact Nat.le_refl _⟩⟩, hW, fun j v h => h⟩
        | 2, ho =>
          obtain rfl := Option.some.inj ho
          have h0b : Act.eval { tmps := T, defers := [] } (.tmp 4) = .pointer (some ⟨R, 0, none⟩) := hbase 4 (by kernel_rfl)
          have h0 : T[4]'(by omega) = .pointer (some ⟨R, 0, none⟩) := by simpa [Act.eval, hn] using h0b
          go_simp
          exact ⟨⟨_, rfl, rfl⟩, hW, fun j v h => h⟩
        | 3, ho =>
          obtain rfl := Option.some.inj ho
          have h0b : Act.eval { tmps := T, defers := [] } (.tmp 5) = .pointer (some ⟨B, 0, none⟩) := hbase 5 (by kernel_rfl)
          have h0 : T[5]'(by omega) = .pointer (some ⟨B, 0, none⟩) := by simpa [Act.eval, hn] using h0b
          go_simp
          exact ⟨⟨_, rfl, rfl⟩, hW, fun j v h => h⟩
        | 4, ho =>
          obtain rfl := Option.some.inj ho
          have hpb : Act.eval { tmps := T, defers := [] } (.tmp 24) = .pointer (some ⟨B, 0, none⟩) := hdep ⟨3, .data⟩ (by simp) (by rfl) _ 24 rfl rfl
          have hp : T[24]'(by omega) = .pointer (some ⟨B, 0, none⟩) := by simpa [Act.eval, hn] using hpb
          have hc := hW.2.2
          go_simp
          exact ⟨⟨_, rfl, rfl⟩, hW, fun j v h => h⟩
        | 5, ho =>
          obtain rfl := Option.some.inj ho
          have hpb : Act.eval { tmps := T, defers := [] } (.tmp 23) = .pointer (some ⟨R, 0, none⟩) := hdep ⟨2, .data⟩ (by simp) (by rfl) _ 23 rfl rfl
          have hp : T[23]'(by omega) = .pointer (some ⟨R, 0, none⟩) := by simpa [Act.eval, hn] using hpb
          have esb : Act.eval { tmps := T, defers := [] } (.tmp 25) = .string s := hdep ⟨4, .data⟩ (by simp) (by rfl) _ 25 rfl rfl
          have es : T[25]'(by omega) = .string s := by simpa [Act.eval, hn] using esb
          go_simp
          go_at_call 45
          refine (rd_nearly _ _ _ _ _ _ hW.1 s (by omega)).mono ?_
          rintro e wn ⟨x, rfl, hx, hok', hg'⟩
          exact ⟨⟨_, rfl, ⟨x, rfl, by omega⟩⟩, ⟨hok', grownBy_trans hW.2.1 hg', hg'.cell hW.2.2 (by simp; omega)⟩, rowsH_on hg'⟩
        | 6, ho =>
          obtain rfl := Option.some.inj ho
          obtain ⟨x, ex, lx⟩ := hdep ⟨1, .data⟩ (by simp) (by rfl) _ 22 rfl rfl
          have ex : T[22]'(by omega) = .string x := by simpa [Act.eval, hn] using ex
          obtain ⟨y, ey, ly⟩ := hdep ⟨5, .data⟩ (by simp) (by rfl) _ 26 rfl rfl
          have ey : T[26]'(by omega) = .string y := by simpa [Act.eval, hn] using ey
          have hbg : ¬ (9223372036854775807 : Nat) < x.size + y.size := by omega
          go_simp
          exact ⟨⟨_, rfl, ⟨_, rfl, by rw [ByteArray.size_append]; omega⟩⟩, hW, fun j v h => h⟩
        | 7, ho =>
          obtain rfl := Option.some.inj ho
          go_simp
          exact ⟨⟨_, rfl, ⟨_, rfl, litW_new gaps3 hW.1.lt rfl⟩⟩, ⟨hW.1.alloc _, grownBy_alloc hW.2.1 _, (World.grownBy_alloc W _ (some R)).cell hW.2.2 (by simp; omega)⟩, rowsH_on (World.grownBy_alloc W _ _)⟩
        | 8, ho =>
          obtain rfl := Option.some.inj ho
          have h0b : Act.eval { tmps := T, defers := [] } (.tmp 4) = .pointer (some ⟨R, 0, none⟩) := hbase 4 (by kernel_rfl)
          have h0 : T[4]'(by omega) = .pointer (some ⟨R, 0, none⟩) := by simpa [Act.eval, hn] using h0b
          go_simp
          exact ⟨⟨_, rfl, rfl⟩, hW, fun j v h => h⟩
        | 9, ho =>
          obtain rfl := Option.some.inj ho
          have hpb : Act.eval { tmps := T, defers := [] } (.tmp 29) = .pointer (some ⟨R, 0, none⟩) := hdep ⟨8, .data⟩ (by simp) (by rfl) _ 29 rfl rfl
          have hp : T[29]'(by omega) = .pointer (some ⟨R, 0, none⟩) := by simpa [Act.eval, hn] using hpb
          go_simp
          go_at_call 31
          refine (rd_below _ _ _ _ _ _ hW.1 3).mono ?_
          rintro e wn ⟨x, rfl, ⟨hx0, _, hx1, _⟩, hok', hg'⟩
          have hx2 : x < 3 := hx1 (by omega)
          clear hx1
          obtain ⟨j, rfl⟩ := Int.eq_ofNat_of_zero_le hx0
          exact ⟨⟨_, rfl, ⟨j, rfl, by omega⟩⟩, ⟨hok', grownBy_trans hW.2.1 hg', hg'.cell hW.2.2 (by simp; omega)⟩, rowsH_on hg'⟩
        | 10, ho =>
          obtain rfl := Option.some.inj ho
          obtain ⟨b, eb, hb2⟩ := hdep ⟨7, .data⟩ (by simp) (by rfl) _ 28 rfl rfl
          have eb : T[28]'(by omega) = .slice (some ⟨b, 0, none⟩) 3 3 := by simpa [Act.eval, hn] using eb
          obtain ⟨i, ei, hi⟩ := hdep ⟨9, .data⟩ (by simp) (by rfl) _ 30 rfl rfl
          have ei : T[30]'(by omega) = .int .i64 (i : Int) := by simpa [Act.eval, hn] using ei
          have i0 : (0 : Int) ≤ (i : Int) := by omega
          have i1 : (i : Int) < 3 := by omega
          go_simp
          exact ⟨⟨_, rfl, ⟨b, i, rfl, hb2, hi⟩⟩, hW, fun j v h => h⟩
        | 11, ho =>
          obtain rfl := Option.some.inj ho
          obtain ⟨b, i, eb, hb2, hi⟩ := hdep ⟨10, .data⟩ (by simp) (by rfl) _ 31 rfl rfl
          have eb : T[31]'(by omega) = .pointer (some ⟨b, i, none⟩) := by simpa [Act.eval, hn] using eb
          have hc := hb2.2.2 i hi
          go_simp
          exact ⟨⟨_, rfl, ⟨_, rfl, litW_size gaps3 1 (by decide) i⟩⟩, hW, fun j v h => h⟩
        | 12, ho =>
          obtain rfl := Option.some.inj ho
          obtain ⟨x, ex, lx⟩ := hdep ⟨6, .data⟩ (by simp) (by rfl) _ 27 rfl rfl
          have ex : T[27]'(by omega) = .string x := by simpa [Act.eval, hn] using ex
          obtain ⟨y, ey, ly⟩ := hdep ⟨11, .data⟩ (by simp) (by rfl) _ 32 rfl rfl
          have ey : T[32]'(by omega) = .string y := by simpa [Act.eval, hn] using ey
          have hbg : ¬ (9223372036854775807 : Nat) < x.size + y.size := by omega
          go_simp
          exact ⟨⟨_, rfl, ⟨_, rfl, by rw [ByteArray.size_append]; omega⟩⟩, hW, fun j v h => h⟩
        | 13, ho =>
          obtain rfl := Option.some.inj ho
          have h0b : Act.eval { tmps := T, defers := [] } (.tmp 4) = .pointer (some ⟨R, 0, none⟩) := hbase 4 (by kernel_rfl)
          have h0 : T[4]'(by omega) = .pointer (some ⟨R, 0, none⟩) := by simpa [Act.eval, hn] using h0b
          go_simp
          exact ⟨⟨_, rfl, rfl⟩, hW, fun j v h => h⟩
        | 14, ho =>
          obtain rfl := Option.some.inj ho
          have hpb : Act.eval { tmps := T, defers := [] } (.tmp 34) = .pointer (some ⟨R, 0, none⟩) := hdep ⟨13, .data⟩ (by simp) (by rfl) _ 34 rfl rfl
          have hp : T[34]'(by omega) = .pointer (some ⟨R, 0, none⟩) := by simpa [Act.eval, hn] using hpb
          go_simp
          go_at_call 30
          refine (rd_term _ _ _ _ _ _ hW.1 2 (by omega)).mono ?_
          rintro e wn ⟨x, rfl, hx, hok', hg'⟩
          exact ⟨⟨_, rfl, ⟨x, rfl, by omega⟩⟩, ⟨hok', grownBy_trans hW.2.1 hg', hg'.cell hW.2.2 (by simp; omega)⟩, rowsH_on hg'⟩
        | 15, ho =>
          obtain rfl := Option.some.inj ho
          obtain ⟨x, ex, lx⟩ := hdep ⟨12, .data⟩ (by simp) (by rfl) _ 33 rfl rfl
          have ex : T[33]'(by omega) = .string x := by simpa [Act.eval, hn] using ex
          obtain ⟨y, ey, ly⟩ := hdep ⟨14, .data⟩ (by simp) (by rfl) _ 35 rfl rfl
          have ey : T[35]'(by omega) = .string y := by simpa [Act.eval, hn] using ey
          have hbg : ¬ (9223372036854775807 : Nat) < x.size + y.size := by omega
          go_simp
          exact ⟨⟨_, rfl, ⟨_, rfl, by rw [ByteArray.size_append]; omega⟩⟩, hW, fun j v h => h⟩
        | 16, ho =>
          obtain rfl := Option.some.inj ho
          obtain ⟨x, ex, lx⟩ := hdep ⟨15, .data⟩ (by simp) (by rfl) _ 36 rfl rfl
          have ex : T[36]'(by omega) = .string x := by simpa [Act.eval, hn] using ex
          go_simp
          exact ⟨⟨_, rfl, ⟨x, rfl, lx⟩⟩, hW, fun j v h => h⟩
        | n + 17, ho => simp at ho
      case hdone =>
        rintro ⟨⟨T⟩, Df⟩ W ⟨hok7, hg7, hc7⟩ hn hD hbase hrow
        dsimp only at hn hD
        subst hD
        obtain ⟨x, ex, lx⟩ := hrow 16 _ 6 rfl rfl
        have hn : T.length = 39 := by simpa using hn
        obtain ⟨x0, T0, rfl⟩ := List.exists_cons_of_length_eq_add_one hn
        rw [List.length_cons] at hn
        replace hn := Nat.succ.inj hn
        obtain ⟨x1, T1, rfl⟩ := List.exists_cons_of_length_eq_add_one hn
        rw [List.length_cons] at hn
        replace hn := Nat.succ.inj hn
        obtain ⟨x2, T2, rfl⟩ := List.exists_cons_of_length_eq_add_one hn
        rw [List.length_cons] at hn
        replace hn := Nat.succ.inj hn
        obtain ⟨x3, T3, rfl⟩ := List.exists_cons_of_length_eq_add_one hn
        rw [List.length_cons] at hn
        replace hn := Nat.succ.inj hn
        obtain ⟨x4, T4, rfl⟩ := List.exists_cons_of_length_eq_add_one hn
        rw [List.length_cons] at hn
        replace hn := Nat.succ.inj hn
        obtain ⟨x5, T5, rfl⟩ := List.exists_cons_of_length_eq_add_one hn
        rw [List.length_cons] at hn
        replace hn := Nat.succ.inj hn
        obtain ⟨x6, T6, rfl⟩ := List.exists_cons_of_length_eq_add_one hn
        rw [List.length_cons] at hn
        replace hn := Nat.succ.inj hn
        obtain ⟨x7, T7, rfl⟩ := List.exists_cons_of_length_eq_add_one hn
        rw [List.length_cons] at hn
        replace hn := Nat.succ.inj hn
        obtain ⟨x8, T8, rfl⟩ := List.exists_cons_of_length_eq_add_one hn
        rw [List.length_cons] at hn
        replace hn := Nat.succ.inj hn
        obtain ⟨x9, T9, rfl⟩ := List.exists_cons_of_length_eq_add_one hn
        rw [List.length_cons] at hn
        replace hn := Nat.succ.inj hn
        obtain ⟨x10, T10, rfl⟩ := List.exists_cons_of_length_eq_add_one hn
        rw [List.length_cons] at hn
        replace hn := Nat.succ.inj hn
        obtain ⟨x11, T11, rfl⟩ := List.exists_cons_of_length_eq_add_one hn
        rw [List.length_cons] at hn
        replace hn := Nat.succ.inj hn
        obtain ⟨x12, T12, rfl⟩ := List.exists_cons_of_length_eq_add_one hn
        rw [List.length_cons] at hn
        replace hn := Nat.succ.inj hn
        obtain ⟨x13, T13, rfl⟩ := List.exists_cons_of_length_eq_add_one hn
        rw [List.length_cons] at hn
        replace hn := Nat.succ.inj hn
        obtain ⟨x14, T14, rfl⟩ := List.exists_cons_of_length_eq_add_one hn
        rw [List.length_cons] at hn
        replace hn := Nat.succ.inj hn
        obtain ⟨x15, T15, rfl⟩ := List.exists_cons_of_length_eq_add_one hn
        rw [List.length_cons] at hn
        replace hn := Nat.succ.inj hn
        obtain ⟨x16, T16, rfl⟩ := List.exists_cons_of_length_eq_add_one hn
        rw [List.length_cons] at hn
        replace hn := Nat.succ.inj hn
        obtain ⟨x17, T17, rfl⟩ := List.exists_cons_of_length_eq_add_one hn
        rw [List.length_cons] at hn
        replace hn := Nat.succ.inj hn
        obtain ⟨x18, T18, rfl⟩ := List.exists_cons_of_length_eq_add_one hn
        rw [List.length_cons] at hn
        replace hn := Nat.succ.inj hn
        obtain ⟨x19, T19, rfl⟩ := List.exists_cons_of_length_eq_add_one hn
        rw [List.length_cons] at hn
        replace hn := Nat.succ.inj hn
        obtain ⟨x20, T20, rfl⟩ := List.exists_cons_of_length_eq_add_one hn
        rw [List.length_cons] at hn
        replace hn := Nat.succ.inj hn
        obtain ⟨x21, T21, rfl⟩ := List.exists_cons_of_length_eq_add_one hn
        rw [List.length_cons] at hn
        replace hn := Nat.succ.inj hn
        obtain ⟨x22, T22, rfl⟩ := List.exists_cons_of_length_eq_add_one hn
        rw [List.length_cons] at hn
        replace hn := Nat.succ.inj hn
        obtain ⟨x23, T23, rfl⟩ := List.exists_cons_of_length_eq_add_one hn
        rw [List.length_cons] at hn
        replace hn := Nat.succ.inj hn
        obtain ⟨x24, T24, rfl⟩ := List.exists_cons_of_length_eq_add_one hn
        rw [List.length_cons] at hn
        replace hn := Nat.succ.inj hn
        obtain ⟨x25, T25, rfl⟩ := List.exists_cons_of_length_eq_add_one hn
        rw [List.length_cons] at hn
        replace hn := Nat.succ.inj hn
        obtain ⟨x26, T26, rfl⟩ := List.exists_cons_of_length_eq_add_one hn
        rw [List.length_cons] at hn
        replace hn := Nat.succ.inj hn
        obtain ⟨x27, T27, rfl⟩ := List.exists_cons_of_length_eq_add_one hn
        rw [List.length_cons] at hn
        replace hn := Nat.succ.inj hn
        obtain ⟨x28, T28, rfl⟩ := List.exists_cons_of_length_eq_add_one hn
        rw [List.length_cons] at hn
        replace hn := Nat.succ.inj hn
        obtain ⟨x29, T29, rfl⟩ := List.exists_cons_of_length_eq_add_one hn
        rw [List.length_cons] at hn
        replace hn := Nat.succ.inj hn
        obtain ⟨x30, T30, rfl⟩ := List.exists_cons_of_length_eq_add_one hn
        rw [List.length_cons] at hn
        replace hn := Nat.succ.inj hn
        obtain ⟨x31, T31, rfl⟩ := List.exists_cons_of_length_eq_add_one hn
        rw [List.length_cons] at hn
        replace hn := Nat.succ.inj hn
        obtain ⟨x32, T32, rfl⟩ := List.exists_cons_of_length_eq_add_one hn
        rw [List.length_cons] at hn
        replace hn := Nat.succ.inj hn
        obtain ⟨x33, T33, rfl⟩ := List.exists_cons_of_length_eq_add_one hn
        rw [List.length_cons] at hn
        replace hn := Nat.succ.inj hn
        obtain ⟨x34, T34, rfl⟩ := List.exists_cons_of_length_eq_add_one hn
        rw [List.length_cons] at hn
        replace hn := Nat.succ.inj hn
        obtain ⟨x35, T35, rfl⟩ := List.exists_cons_of_length_eq_add_one hn
        rw [List.length_cons] at hn
        replace hn := Nat.succ.inj hn
        obtain ⟨x36, T36, rfl⟩ := List.exists_cons_of_length_eq_add_one hn
        rw [List.length_cons] at hn
        replace hn := Nat.succ.inj hn
        obtain ⟨x37, T37, rfl⟩ := List.exists_cons_of_length_eq_add_one hn
        rw [List.length_cons] at hn
        replace hn := Nat.succ.inj hn
        obtain ⟨x38, T38, rfl⟩ := List.exists_cons_of_length_eq_add_one hn
        rw [List.length_cons] at hn
        replace hn := Nat.succ.inj hn
        obtain rfl := List.eq_nil_of_length_eq_zero hn
        have b0 : x0 = _ := hbase 0 (by kernel_rfl)
        have b1 : x1 = _ := hbase 1 (by kernel_rfl)
        have b2 : x2 = _ := hbase 2 (by kernel_rfl)
        have b3 : x3 = _ := hbase 3 (by kernel_rfl)
        have b4 : x4 = _ := hbase 4 (by kernel_rfl)
        have b5 : x5 = _ := hbase 5 (by kernel_rfl)
        have b7 : x7 = _ := hbase 7 (by kernel_rfl)
        have b8 : x8 = _ := hbase 8 (by kernel_rfl)
        have b9 : x9 = _ := hbase 9 (by kernel_rfl)
        have b10 : x10 = _ := hbase 10 (by kernel_rfl)
        have b11 : x11 = _ := hbase 11 (by kernel_rfl)
        have b12 : x12 = _ := hbase 12 (by kernel_rfl)
        have b13 : x13 = _ := hbase 13 (by kernel_rfl)
        have b14 : x14 = _ := hbase 14 (by kernel_rfl)
        have b15 : x15 = _ := hbase 15 (by kernel_rfl)
        have b16 : x16 = _ := hbase 16 (by kernel_rfl)
        have b17 : x17 = _ := hbase 17 (by kernel_rfl)
        have b18 : x18 = _ := hbase 18 (by kernel_rfl)
        have b19 : x19 = _ := hbase 19 (by kernel_rfl)
        have b20 : x20 = _ := hbase 20 (by kernel_rfl)
        have b37 : x37 = _ := hbase 37 (by kernel_rfl)
        have b38 : x38 = _ := hbase 38 (by kernel_rfl)
        subst b0
        subst b1
        subst b2
        subst b3
        subst b4
        subst b5
        subst b7
        subst b8
        subst b9
        subst b10
        subst b11
        subst b12
        subst b13
        subst b14
        subst b15
        subst b16
        subst b17
        subst b18
        subst b19
        subst b20
        subst b37
        subst b38
        have ex : x6 = .string x := ex
        subst ex
        have p7 := (hg7.block B (by omega) (by simp; omega)).trans HP.out
        have r7 := (hg7.block w.heap.size (by omega) (by simp; omega)).trans HRR.out
        have hb7 : Below w.heap.size w W := hb.grown hg7 hb.size (fun q e => by cases e; omega)
        have z7 := hg7.size
        have HP7 := Lib.hid p7; have HR7 := Lib.hid r7; have HLX := Lib.hid lx
        clear p7 r7 hb hg7 hokr n0 hrow hbase lx
        dsimp only [Act.eval]
        go_wp2_with fail
        go_roundw
        case rel => exact ⟨j - 1, x, by omega, (by have := HLX.out; omega), by congr 1; omega, rfl, HP7.out, HR7.out, hok7, hb7, by omega⟩
        case measure => simp [intOf]; omega
end Go.Proofs.Ytgikjopmijomgab

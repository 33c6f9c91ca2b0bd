/-
  The laws' own helpers on slices of ends.
-/
import Derived.Test.YtgikjopmijomgaaStructs
import Derived.Test.YtgikjopmijomgaaIntLaw
namespace Go.Proofs.Ytgikjopmijomgaa
open Go.RowKit
set_option linter.unusedVariables false
set_option maxRecDepth 100000
theorem laws_eqEnd (x y : Int) (w : World) :
    Calls Try.prog 44 #[.agg #[.int .i64 x, .int .i64 y], .agg #[.int .i64 x, .int .i64 y]] w fun e w' => e = .returned (.bool true) ∧ Below w.heap.size w w' := by
  have e1 : (x != x) = false := by simp
  have e2 : (y != y) = false := by simp
  go_enter Try.func44, Try.ntmps44
  go_wp2
  go_ret
  exact ⟨rfl, (by repeat (first | exact Below.refl _ _ | assumption | (refine Below.drew ?_) | (refine below_drewN ?_ _) | (refine Below.alloc ?_ (by first | omega | (simp; done) | (simp; omega)) _) | (refine Below.setCell ?_ (by first | omega | (simp; done) | (simp; omega)) _)))⟩
set_option maxHeartbeats 1000000 in
theorem laws_eqEndS (L : List Int) (a1 a2 : Option Addr) (n cap1 cap2 : Nat) (w : World) (hn : L.length = n * 2) (h1 : Ints w a1 L) (h2 : Ints w a2 L) (hlen : n ≤ 1048577) :
    Calls Try.prog 15 #[.slice a1 n cap1, .slice a2 n cap2] w fun e w' => e = .returned (.bool true) ∧ Below w.heap.size w w' := by
  have e0 : ((n : Int) != (n : Int)) = false := by simp
  have HN := Lib.hid hn; clear hn
  go_enter Try.func15, Try.ntmps15
  go_wp2
  go_loopw [5] (fun i wr => ∃ k : Nat, k ≤ n ∧ i = .int .i64 k ∧ Below w.heap.size w wr)
    (fun i _ => n - (intOf i).toNat)
  case atStart => exact ⟨0, by omega, rfl, Below.refl _ _⟩
  case round =>
    obtain ⟨k, hk, rfl, hb⟩ := hrel
    by_cases hlt : k < n
    · have hp2 := pair_lt hlt
      obtain ⟨b1, off1, rfl, hp1⟩ := (h1.kept hb).at (k * 2) (by rw [HN.out]; omega)
      obtain ⟨b2, off2, rfl, hp2⟩ := (h2.kept hb).at (k * 2) (by rw [HN.out]; omega)
      have c1 := hp1 (k * 2) (by rw [HN.out]; omega)
      have c2 := hp2 (k * 2) (by rw [HN.out]; omega)
      have d1 := hp1 (k * 2 + 1) (by rw [HN.out]; omega)
      have d2 := hp2 (k * 2 + 1) (by rw [HN.out]; omega)
      rw [← Nat.add_assoc] at d1 d2
      generalize intAt L (k * 2) = x at c1 c2
      generalize intAt L (k * 2 + 1) = y at d1 d2
      have hlb := block_lt_of_cell c1
      have hlb2 := block_lt_of_cell c2
      clear h1 h2 hp1 hp2
      go_wp2_with fail
      go_region_law ((go_simp; (go_at_call 44; refine (laws_eqEnd x y _).mono ?_; rintro e w2 ⟨rfl, hb2⟩)))
      all_goals
        have hB := hb.trans ((below_undrew hb2).mono hb.size)
        go_wp2
        go_roundw
        case rel => exact ⟨k + 1, by omega, by go_num, hB⟩
        case measure => simp [intOf]; omega
    · obtain rfl : k = n := by omega
      go_wp2
      go_ret
      exact ⟨rfl, hb⟩
set_option maxHeartbeats 1000000 in
theorem laws_markEndS (L : List Int) (a : Option Addr) (n cap B : Nat) (k : Int) (w : World) (h : OwnM 63 2 w B a n cap L) (hlen : n ≤ 1048577) (hk0 : 0 ≤ k) (hk1 : k ≤ 1073741824) :
    Calls Try.prog 16 #[.slice a n cap, .int .i64 k] w fun e w' => ∃ M, e = .returned (.int .i64 (k + n * 2)) ∧ OwnM 63 2 w' B a n cap M ∧ UpTo (fun i => k + i) (n * 2) M ∧ w.grownBy w' (Value.slice a n cap).ownBlock := by
  go_enter Try.func16, Try.ntmps16
  go_wp2
  go_loopw [1, 5] (fun m i wr => ∃ (j : Nat) (M : List Int), j ≤ n ∧ i = .int .i64 j ∧ m = .int .i64 (k + j * 2) ∧ OwnM 63 2 wr B a n cap M ∧ UpTo (fun i => k + i) (j * 2) M ∧ w.grownBy wr (Value.slice a n cap).ownBlock)
    (fun _ i _ => n - (intOf i).toNat)
  case atStart => exact ⟨0, L, by omega, rfl, by go_num, h, UpTo.zero _ _, World.grownBy.refl _ _⟩
  case round =>
    obtain ⟨j, M, hj, rfl, rfl, hown, hup, hb⟩ := hrel
    by_cases hlt : j < n
    · obtain ⟨g, rfl, hg1, hg2⟩ := hown.head j hlt
      have hl := hown.len
      have hc := hown.cell (j * 2) (by omega)
      have hd := hown.cell (j * 2 + 1) (by omega)
      have hf := hown.frozen (j * 2)
      have hf2 := hown.frozen (j * 2 + 1)
      have hown1 := hown.set (j * 2) (k + (j : Int) * 2)
      have hown2 := Lib.hid (hown1.set (j * 2 + 1) (k + (j : Int) * 2 + 1))
      have hgr := grown_trans (grown_trans hb (hown.set_grown (j * 2) (k + (j : Int) * 2))) (hown1.set_grown (j * 2 + 1) (k + (j : Int) * 2 + 1))
      have hup1 : UpTo (fun i => k + i) (j * 2 + 1) (M.set (j * 2) (k + (j : Int) * 2)) := by
        have := hup.set (by omega)
        have e : k + ((j * 2 : Nat) : Int) = k + (j : Int) * 2 := by omega
        rw [← e]; exact this
      have hup2' : UpTo (fun i => k + i) ((j + 1) * 2) ((M.set (j * 2) (k + (j : Int) * 2)).set (j * 2 + 1) (k + (j : Int) * 2 + 1)) := by
        have := hup1.set (by simp; omega)
        have e : k + ((j * 2 + 1 : Nat) : Int) = k + (j : Int) * 2 + 1 := by omega
        have e2 : (j + 1) * 2 = j * 2 + 1 + 1 := by omega
        rw [e2, ← e]; exact this
      have hup2 := Lib.hid hup2'
      clear hup1 hup2'
      clear hown hup hown1 hl
      go_wp2
      go_roundw
      case rel => exact ⟨j + 1, _, by omega, by go_num, by go_num, hown2.out, hup2.out, hgr⟩
      case measure => simp [intOf]; omega
    · obtain rfl : j = n := by omega
      go_wp2
      go_ret
      exact ⟨M, rfl, hown, hup, hb⟩
set_option maxHeartbeats 1000000 in
theorem laws_heldEndS (L : List Int) (a : Option Addr) (n cap : Nat) (k : Int) (w : World) (hn : L.length = n * 2) (h : Ints w a L) (hu : UpTo (fun i => k + i) (n * 2) L) (hlen : n ≤ 1048577) (hk0 : 0 ≤ k) (hk1 : k ≤ 1073741824) :
    Calls Try.prog 17 #[.slice a n cap, .int .i64 k] w fun e w' => e = .returned (.int .i64 (k + n * 2)) ∧ Below w.heap.size w w' := by
  have HN := Lib.hid hn; clear hn
  go_enter Try.func17, Try.ntmps17
  go_wp2
  go_loopw [1, 5] (fun m i wr => ∃ (j : Nat), j ≤ n ∧ i = .int .i64 j ∧ m = .int .i64 (k + j * 2) ∧ Below w.heap.size w wr)
    (fun _ i _ => n - (intOf i).toNat)
  case atStart => exact ⟨0, by omega, rfl, by go_num, Below.refl _ _⟩
  case round =>
    obtain ⟨j, hj, rfl, rfl, hb⟩ := hrel
    by_cases hlt : j < n
    · obtain ⟨b, off, rfl, hp⟩ := (h.kept hb).at (j * 2) (by rw [HN.out]; omega)
      have c1 := hp (j * 2) (by rw [HN.out]; omega)
      have u1 : intAt L (j * 2) = k + (j : Int) * 2 := by
        rw [hu (j * 2) (by omega)]; show k + ((j * 2 : Nat) : Int) = _; omega
      have u2 : intAt L (j * 2 + 1) = k + (j : Int) * 2 + 1 := by
        rw [hu (j * 2 + 1) (by omega)]; show k + ((j * 2 + 1 : Nat) : Int) = _; omega
      have c2 := hp (j * 2 + 1) (by rw [HN.out]; omega)
      rw [u1] at c1
      rw [u2, ← Nat.add_assoc] at c2
      clear u1 u2
      have e1 : ((k + (j : Int) * 2) != (k + (j : Int) * 2)) = false := by simp
      have e2 : ((k + (j : Int) * 2 + 1) != (k + (j : Int) * 2 + 1)) = false := by simp
      clear h hp hu
      go_wp2
      go_roundw
      case rel => exact ⟨j + 1, by omega, by go_num, by go_num, hb⟩
      case measure => simp [intOf]; omega
    · obtain rfl : j = n := by omega
      go_wp2
      go_ret
      exact ⟨rfl, hb⟩
end Go.Proofs.Ytgikjopmijomgaa

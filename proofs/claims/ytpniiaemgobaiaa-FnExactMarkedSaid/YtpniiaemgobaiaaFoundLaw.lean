/-
  The laws' own helpers on slices of what was found (XRecLaw with the names turned).
-/
import Derived.Test.YtpniiaemgobaiaaStructs
import Derived.Test.YtpniiaemgobaiaaIntLaw
namespace Go.Proofs.Ytpniiaemgobaiaa
open Go.RowKit
set_option linter.unusedVariables false
set_option maxRecDepth 100000
theorem laws_eqFound (x y z : Int) (w : World) :
    Calls Try.prog 40 #[.agg #[.int .i64 x, .int .i64 y, .int .i64 z], .agg #[.int .i64 x, .int .i64 y, .int .i64 z]] w fun e w' => e = .returned (.bool true) ∧ Below w.heap.size w w' := by
  have e1 : (x != x) = false := by simp
  have e2 : (y != y) = false := by simp
  have e3 : (z != z) = false := by simp
  go_enter Try.func40, Try.ntmps40
  go_wp2
  go_ret
  exact ⟨rfl, (by repeat (first | exact Below.refl _ _ | assumption | (refine Below.drew ?_) | (refine below_drewN ?_ _) | (refine Below.alloc ?_ (by first | omega | (simp; done) | (simp; omega)) _) | (refine Below.setCell ?_ (by first | omega | (simp; done) | (simp; omega)) _)))⟩
set_option maxHeartbeats 1000000 in
theorem laws_eqFoundS (L : List Int) (a1 a2 : Option Addr) (n cap1 cap2 : Nat) (w : World) (hn : L.length = n * 3) (h1 : Ints w a1 L) (h2 : Ints w a2 L) (hlen : n ≤ 1048577) :
    Calls Try.prog 13 #[.slice a1 n cap1, .slice a2 n cap2] w fun e w' => e = .returned (.bool true) ∧ Below w.heap.size w w' := by
  have e0 : ((n : Int) != (n : Int)) = false := by simp
  have HN := Lib.hid hn; clear hn
  go_enter Try.func13, Try.ntmps13
  go_wp2
  go_loopw [5] (fun i wr => ∃ k : Nat, k ≤ n ∧ i = .int .i64 k ∧ Below w.heap.size w wr)
    (fun i _ => n - (intOf i).toNat)
  case atStart => exact ⟨0, by omega, rfl, Below.refl _ _⟩
  case round =>
    obtain ⟨k, hk, rfl, hb⟩ := hrel
    by_cases hlt : k < n
    · obtain ⟨b1, off1, rfl, hp1⟩ := (h1.kept hb).at (k * 3) (by rw [HN.out]; omega)
      obtain ⟨b2, off2, rfl, hp2⟩ := (h2.kept hb).at (k * 3) (by rw [HN.out]; omega)
      have c0 := hp1 (k * 3) (by rw [HN.out]; omega)
      have d0 := hp2 (k * 3) (by rw [HN.out]; omega)
      have c1 := hp1 (k * 3 + 1) (by rw [HN.out]; omega)
      have d1 := hp2 (k * 3 + 1) (by rw [HN.out]; omega)
      have c2 := hp1 (k * 3 + 2) (by rw [HN.out]; omega)
      have d2 := hp2 (k * 3 + 2) (by rw [HN.out]; omega)
      rw [← Nat.add_assoc] at c1 d1 c2 d2
      generalize intAt L (k * 3) = x at c0 d0
      generalize intAt L (k * 3 + 1) = y at c1 d1
      generalize intAt L (k * 3 + 2) = z at c2 d2
      have hlb := block_lt_of_cell c0
      have hlb2 := block_lt_of_cell d0
      clear h1 h2 hp1 hp2
      go_wp2_with fail
      go_region_law ((go_simp; (go_at_call 40; refine (laws_eqFound x y z _).mono ?_; rintro e w2 ⟨rfl, hb2⟩)))
      all_goals
        have hB := hb.trans ((below_undrew hb2).mono hb.size)
        go_wp2
        go_roundw
        case rel => exact ⟨k + 1, by omega, by go_num, hB⟩
        case measure => simp [intOf]; omega
    · obtain rfl : k = n := by omega
      go_wp2
      go_ret
      exact ⟨rfl, hb⟩
set_option maxHeartbeats 1000000 in
theorem laws_markFoundS (L : List Int) (a : Option Addr) (n cap B : Nat) (k : Int) (w : World) (h : OwnM 45 3 w B a n cap L) (hlen : n ≤ 1048577) (hk0 : 0 ≤ k) (hk1 : k ≤ 1073741824) :
    Calls Try.prog 14 #[.slice a n cap, .int .i64 k] w fun e w' => ∃ M, e = .returned (.int .i64 (k + n * 3)) ∧ OwnM 45 3 w' B a n cap M ∧ UpTo (fun i => k + i) (n * 3) M ∧ w.grownBy w' (Value.slice a n cap).ownBlock := by
  go_enter Try.func14, Try.ntmps14
  go_wp2
  go_loopw [1, 5] (fun m i wr => ∃ (j : Nat) (M : List Int), j ≤ n ∧ i = .int .i64 j ∧ m = .int .i64 (k + j * 3) ∧ OwnM 45 3 wr B a n cap M ∧ UpTo (fun i => k + i) (j * 3) M ∧ w.grownBy wr (Value.slice a n cap).ownBlock)
    (fun _ i _ => n - (intOf i).toNat)
  case atStart => exact ⟨0, L, by omega, rfl, by go_num, h, UpTo.zero _ _, World.grownBy.refl _ _⟩
  case round =>
    obtain ⟨j, M, hj, rfl, rfl, hown, hup, hb⟩ := hrel
    by_cases hlt : j < n
    · obtain ⟨g, rfl, hg1, hg2⟩ := hown.head j hlt
      have hl := hown.len
      have hc := hown.cell (j * 3) (by omega)
      have hd := hown.cell (j * 3 + 1) (by omega)
      have he := hown.cell (j * 3 + 2) (by omega)
      have hf := hown.frozen (j * 3)
      have hf2 := hown.frozen (j * 3 + 1)
      have hf3 := hown.frozen (j * 3 + 2)
      have hown1 := hown.set (j * 3) (k + (j : Int) * 3)
      have hown2 := hown1.set (j * 3 + 1) (k + (j : Int) * 3 + 1)
      have hown3 := Lib.hid (hown2.set (j * 3 + 2) (k + (j : Int) * 3 + 1 + 1))
      have hgr := Lib.hid (grown_trans (grown_trans (grown_trans hb (hown.set_grown (j * 3) (k + (j : Int) * 3))) (hown1.set_grown (j * 3 + 1) (k + (j : Int) * 3 + 1))) (hown2.set_grown (j * 3 + 2) (k + (j : Int) * 3 + 1 + 1)))
      have hup1 : UpTo (fun i => k + i) (j * 3 + 1) (M.set (j * 3) (k + (j : Int) * 3)) := by
        have := hup.set (by omega)
        have e : k + ((j * 3 : Nat) : Int) = k + (j : Int) * 3 := by omega
        rw [← e]; exact this
      have hup2 : UpTo (fun i => k + i) (j * 3 + 1 + 1) ((M.set (j * 3) (k + (j : Int) * 3)).set (j * 3 + 1) (k + (j : Int) * 3 + 1)) := by
        have := hup1.set (by simp; omega)
        have e : k + ((j * 3 + 1 : Nat) : Int) = k + (j : Int) * 3 + 1 := by omega
        rw [← e]; exact this
      have hup3' : UpTo (fun i => k + i) ((j + 1) * 3) (((M.set (j * 3) (k + (j : Int) * 3)).set (j * 3 + 1) (k + (j : Int) * 3 + 1)).set (j * 3 + 2) (k + (j : Int) * 3 + 1 + 1)) := by
        have := hup2.set (by simp; omega)
        have e : k + ((j * 3 + 1 + 1 : Nat) : Int) = k + (j : Int) * 3 + 1 + 1 := by omega
        have e2 : (j + 1) * 3 = j * 3 + 1 + 1 + 1 := by omega
        rw [e2, ← e]; exact this
      have hup3 := Lib.hid hup3'
      clear hup1 hup2 hup3'
      clear hown hup hown1 hown2 hl hb
      go_wp2
      go_roundw
      case rel => exact ⟨j + 1, _, by omega, by go_num, by go_num, hown3.out, hup3.out, hgr.out⟩
      case measure => simp [intOf]; omega
    · obtain rfl : j = n := by omega
      go_wp2
      go_ret
      exact ⟨M, rfl, hown, hup, hb⟩
set_option maxHeartbeats 1000000 in
theorem laws_heldFoundS (L : List Int) (a : Option Addr) (n cap : Nat) (k : Int) (w : World) (hn : L.length = n * 3) (h : Ints w a L) (hu : UpTo (fun i => k + i) (n * 3) L) (hlen : n ≤ 1048577) (hk0 : 0 ≤ k) (hk1 : k ≤ 1073741824) :
    Calls Try.prog 15 #[.slice a n cap, .int .i64 k] w fun e w' => e = .returned (.int .i64 (k + n * 3)) ∧ Below w.heap.size w w' := by
  have HN := Lib.hid hn; clear hn
  go_enter Try.func15, Try.ntmps15
  go_wp2
  go_loopw [1, 5] (fun m i wr => ∃ (j : Nat), j ≤ n ∧ i = .int .i64 j ∧ m = .int .i64 (k + j * 3) ∧ Below w.heap.size w wr)
    (fun _ i _ => n - (intOf i).toNat)
  case atStart => exact ⟨0, by omega, rfl, by go_num, Below.refl _ _⟩
  case round =>
    obtain ⟨j, hj, rfl, rfl, hb⟩ := hrel
    by_cases hlt : j < n
    · obtain ⟨b, off, rfl, hp⟩ := (h.kept hb).at (j * 3) (by rw [HN.out]; omega)
      have c0 := hp (j * 3) (by rw [HN.out]; omega)
      have c1 := hp (j * 3 + 1) (by rw [HN.out]; omega)
      have c2 := hp (j * 3 + 2) (by rw [HN.out]; omega)
      have u0 : intAt L (j * 3) = k + (j : Int) * 3 := by
        rw [hu (j * 3) (by omega)]; show k + ((j * 3 : Nat) : Int) = _; omega
      have u1 : intAt L (j * 3 + 1) = k + (j : Int) * 3 + 1 := by
        rw [hu (j * 3 + 1) (by omega)]; show k + ((j * 3 + 1 : Nat) : Int) = _; omega
      have u2 : intAt L (j * 3 + 2) = k + (j : Int) * 3 + 1 + 1 := by
        rw [hu (j * 3 + 2) (by omega)]; show k + ((j * 3 + 2 : Nat) : Int) = _; omega
      rw [u0] at c0
      rw [u1, ← Nat.add_assoc] at c1
      rw [u2, ← Nat.add_assoc] at c2
      clear u0 u1 u2
      have e0 : ((k + (j : Int) * 3) != (k + (j : Int) * 3)) = false := by simp
      have e1 : ((k + (j : Int) * 3 + 1) != (k + (j : Int) * 3 + 1)) = false := by simp
      have e2 : ((k + (j : Int) * 3 + 1 + 1) != (k + (j : Int) * 3 + 1 + 1)) = false := by simp
      clear h hp hu
      go_wp2
      go_roundw
      case rel => exact ⟨j + 1, by omega, by go_num, by go_num, hb⟩
      case measure => simp [intOf]; omega
    · obtain rfl : j = n := by omega
      go_wp2
      go_ret
      exact ⟨rfl, hb⟩
end Go.Proofs.Ytpniiaemgobaiaa

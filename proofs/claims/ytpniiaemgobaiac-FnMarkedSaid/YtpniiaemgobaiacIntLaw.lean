/-
  The laws' own helpers on slices of int64: they are held against each other, marked, looked at, copied.
-/
import Derived.Test.YtpniiaemgobaiacInts
namespace Go.Proofs.Ytpniiaemgobaiac
open Go.RowKit
set_option linter.unusedVariables false
set_option maxRecDepth 100000
set_option maxHeartbeats 400000 in
theorem laws_eqInt64S (L : List Int) (a1 a2 : Option Addr) (n cap1 cap2 : Nat) (w : World) (hn : L.length = n) (h1 : Ints w a1 L) (h2 : Ints w a2 L) (hlen : n ≤ 1048577) :
    Calls Try.prog 109 #[.slice a1 n cap1, .slice a2 n cap2] w fun e w' => e = .returned (.bool true) ∧ Below w.heap.size w w' := by
  have e0 : ((n : Int) != (n : Int)) = false := by simp
  have HN := Lib.hid hn; clear hn
  go_enter Try.func109, Try.ntmps109
  go_wp2
  go_loopw [5] (fun i wr => ∃ k : Nat, k ≤ n ∧ i = .int .i64 k ∧ Below w.heap.size w wr)
    (fun i _ => n - (intOf i).toNat)
  case atStart => exact ⟨0, by omega, rfl, Below.refl _ _⟩
  case round =>
    obtain ⟨k, hk, rfl, hb⟩ := hrel
    by_cases hlt : k < n
    · obtain ⟨b1, off1, rfl, hp1⟩ := (h1.kept hb).at k (by rw [HN.out]; exact hlt)
      obtain ⟨b2, off2, rfl, hp2⟩ := (h2.kept hb).at k (by rw [HN.out]; exact hlt)
      have c1 := hp1 k (by rw [HN.out]; exact hlt)
      have c2 := hp2 k (by rw [HN.out]; exact hlt)
      generalize intAt L k = x at c1 c2
      have e1 : (x != x) = false := by simp
      clear h1 h2 hp1 hp2
      go_wp2_with fail
      go_quiet (fail)
      go_wp2
      go_roundw
      case rel => exact ⟨k + 1, by omega, by go_num, below_drewN hb _⟩
      case measure => simp [intOf]; omega
    · obtain rfl : k = n := by omega
      go_wp2
      go_ret
      exact ⟨rfl, hb⟩

set_option maxHeartbeats 400000 in
theorem laws_markInt64S_g (L : List Int) (a : Option Addr) (n cap B : Nat) (k : Int) (w : World) (h : OwnN w B a n cap L) (hlen : n ≤ 1048577) (hk0 : 0 ≤ k) (hk1 : k ≤ 1073741824) :
    Calls Try.prog 73 #[.slice a n cap, .int .i64 k] w fun e w' => ∃ M, e = .returned (.int .i64 (k + n)) ∧ OwnN w' B a n cap M ∧ UpTo (fun i => k + i) n M ∧ w.grownBy w' (Value.slice a n cap).ownBlock := by
  go_enter Try.func73, Try.ntmps73
  go_wp2
  go_loopw [1, 5] (fun m i wr => ∃ (j : Nat) (M : List Int), j ≤ n ∧ i = .int .i64 j ∧ m = .int .i64 (k + j) ∧ OwnN wr B a n cap M ∧ UpTo (fun i => k + i) j M ∧ w.grownBy wr (Value.slice a n cap).ownBlock)
    (fun _ i _ => n - (intOf i).toNat)
  case atStart => exact ⟨0, L, by omega, rfl, by go_num, h, UpTo.zero _ _, World.grownBy.refl _ _⟩
  case round =>
    obtain ⟨j, M, hj, rfl, rfl, hown, hup, hb⟩ := hrel
    by_cases hlt : j < n
    · obtain ⟨g, rfl, hg1, hg2⟩ := hown.head j hlt
      have hc := hown.cell j hlt
      have hf := hown.frozen j
      have hown2 := Lib.hid (hown.set j (k + j))
      have hgr := grown_trans hb (hown.set_grown j (k + j))
      have hup2 := Lib.hid (hup.set (by rw [hown.len]; exact hlt))
      clear hown hup
      go_wp2
      go_roundw
      case rel => exact ⟨j + 1, M.set j (k + j), by omega, by go_num, by go_num, hown2.out, hup2.out, hgr⟩
      case measure => simp [intOf]; omega
    · obtain rfl : j = n := by omega
      go_wp2
      go_ret
      exact ⟨M, rfl, hown, hup, hb⟩
theorem laws_markInt64S (L : List Int) (a : Option Addr) (n cap B : Nat) (k : Int) (w : World) (h : OwnN w B a n cap L) (hB : B ≤ w.heap.size) (hlen : n ≤ 1048577) (hk0 : 0 ≤ k) (hk1 : k ≤ 1073741824) :
    Calls Try.prog 73 #[.slice a n cap, .int .i64 k] w fun e w' => ∃ M, e = .returned (.int .i64 (k + n)) ∧ OwnN w' B a n cap M ∧ UpTo (fun i => k + i) n M ∧ Below B w w' :=
  (laws_markInt64S_g L a n cap B k w h hlen hk0 hk1).mono fun _ _ ⟨M, h1, h2, h3, h4⟩ => ⟨M, h1, h2, h3, h.turn hB h4⟩

set_option maxHeartbeats 400000 in
theorem laws_heldInt64S (L : List Int) (a : Option Addr) (n cap : Nat) (k : Int) (w : World) (hn : L.length = n) (h : Ints w a L) (hu : UpTo (fun i => k + i) n L) (hlen : n ≤ 1048577) (hk0 : 0 ≤ k) (hk1 : k ≤ 1073741824) :
    Calls Try.prog 74 #[.slice a n cap, .int .i64 k] w fun e w' => e = .returned (.int .i64 (k + n)) ∧ Below w.heap.size w w' := by
  have HN := Lib.hid hn; clear hn
  go_enter Try.func74, Try.ntmps74
  go_wp2
  go_loopw [1, 5] (fun m i wr => ∃ (j : Nat), j ≤ n ∧ i = .int .i64 j ∧ m = .int .i64 (k + j) ∧ Below w.heap.size w wr)
    (fun _ i _ => n - (intOf i).toNat)
  case atStart => exact ⟨0, by omega, rfl, by go_num, Below.refl _ _⟩
  case round =>
    obtain ⟨j, hj, rfl, rfl, hb⟩ := hrel
    by_cases hlt : j < n
    · obtain ⟨b, off, rfl, hp⟩ := (h.kept hb).at j (by rw [HN.out]; exact hlt)
      have c1 := hp j (by rw [HN.out]; exact hlt)
      rw [hu j hlt] at c1
      have e1 : ((k + (j : Int)) != (k + (j : Int))) = false := by simp
      clear h hp hu
      go_wp2
      go_roundw
      case rel => exact ⟨j + 1, by omega, by go_num, by go_num, hb⟩
      case measure => simp [intOf]; omega
    · obtain rfl : j = n := by omega
      go_wp2
      go_ret
      exact ⟨rfl, hb⟩

set_option maxHeartbeats 400000 in
theorem laws_toInt64S (L : List Int) (a : Option Addr) (n cap : Nat) (w : World) (hn : L.length = n) (h : Ints w a L) (hlen : n ≤ 1048577) :
    Calls Try.prog 112 #[.slice a n cap] w fun e w' => ∃ a' cap', e = .returned (.slice a' n cap') ∧ OwnN w' w.heap.size a' n cap' L ∧ Below w.heap.size w w' := by
  obtain ⟨i0, hi, hz0, hz1, hz2⟩ := info_parts int_info
  have HN := Lib.hid hn; clear hn
  go_enter Try.func112, Try.ntmps112
  go_wp2_with (at_make; refine wpList_make_full _ rfl _ _ 93 rfl w.heap.size 2 i0 (.int .i64 0) 1 Try.underlying93 hi hz0 hz1 _ _ _ _ n rfl rfl rfl rfl (by rw [hz2]; omega) (by unfold maxLen; omega) (Nat.le_refl _) ?_; intro w1 hown hg)
  have hB1 : Below w.heap.size w w1 := (Below.refl _ _).grown hg (Nat.le_refl _) (fun k hk => by cases hk)
  have hO := OwnN.made hown
  clear hown hg
  go_loopw [4] (fun i wr => ∃ (k : Nat) (M : List Int), k ≤ n ∧ i = .int .i64 k ∧ OwnN wr w.heap.size (some ⟨w.heap.size, 0, none⟩) n n M ∧ UpTo (intAt L) k M ∧ Below w.heap.size w wr)
    (fun i _ => n - (intOf i).toNat)
  case atStart => exact ⟨0, _, by omega, rfl, hO, UpTo.zero _ _, hB1⟩
  case round =>
    obtain ⟨k, M, hk, rfl, hown, hup, hb⟩ := hrel
    by_cases hlt : k < n
    · obtain ⟨b, off, rfl, hp⟩ := (h.kept hb).at k (by rw [HN.out]; exact hlt)
      have c0 := hp k (by rw [HN.out]; exact hlt)
      have hc := hown.cell k hlt
      have hf := hown.frozen k
      have hown2 := Lib.hid (hown.set k (intAt L k))
      have hup2 := Lib.hid (hup.set (by rw [hown.len]; exact hlt))
      clear hown hup h hp hO
      go_wp2
      go_roundw
      case rel => exact ⟨k + 1, _, by omega, by go_num, hown2.out, hup2.out, hb.setCell (Nat.le_refl _) _⟩
      case measure => simp [intOf]; omega
    · obtain rfl : k = n := by omega
      have hM : M = L := by rw [hup.tab hown.len, ← HN.out, tab_self]
      have HM := Lib.hid hM; clear hM
      go_wp2
      go_ret
      exact ⟨_, _, rfl, by rw [← HM.out]; exact hown, hb⟩
end Go.Proofs.Ytpniiaemgobaiac

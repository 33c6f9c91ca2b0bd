/-
  Chapter 3: contracts of ColOk, in the program and in its model.
-/
import Derived.Test.YtodmohepgmhipaaL3First
namespace Go.Proofs.Ytodmohepgmhipaa
open Go.RowKit
set_option linter.unusedVariables false
set_option maxRecDepth 100000
theorem spec_l1In (n lo hi : Int) (w : World) :
    Calls Try.prog 53 #[.int .i64 n, .int .i64 lo, .int .i64 hi] w fun e w' => e = .returned (.bool (inB n lo hi)) ∧ w = w' := by
  by_cases h1 : lo ≤ n
  · by_cases h2 : n ≤ hi
    · have H := Lib.hid (inB_yes ⟨h1, h2⟩)
      go_enter Try.func53, Try.ntmps53
      go_wp2
      go_ret
      exact ⟨by rw [H.out]; rfl, rfl⟩
    · have H := Lib.hid (inB_no (n := n) (lo := lo) (hi := hi) (by omega))
      go_enter Try.func53, Try.ntmps53
      go_wp2
      go_ret
      exact ⟨by rw [H.out]; rfl, rfl⟩
  · have H := Lib.hid (inB_no (n := n) (lo := lo) (hi := hi) (by omega))
    go_enter Try.func53, Try.ntmps53
    go_wp2
    go_ret
    exact ⟨by rw [H.out]; rfl, rfl⟩
theorem okAt_yes {L : List Int} {k : Nat} (h : okAt L k = true) : 0 ≤ intAt L k ∧ aheadAt L k - 1 ≤ intAt L k ∧ intAt L k ≤ aheadAt L k + 1 ∧ (k = 0 → intAt L k = 0) := by
  unfold aheadAt
  by_cases e : k = 0
  · subst e; simp [okAt] at h; simp; omega
  · simp [okAt, e] at h; simp [e]; omega
theorem okAt_no {L : List Int} {k : Nat} (h : okAt L k = false) : intAt L k < 0 ∨ (0 ≤ intAt L k ∧ intAt L k < aheadAt L k - 1) ∨ (0 ≤ intAt L k ∧ aheadAt L k - 1 ≤ intAt L k ∧ aheadAt L k + 1 < intAt L k) ∨ (0 ≤ intAt L k ∧ aheadAt L k - 1 ≤ intAt L k ∧ intAt L k ≤ aheadAt L k + 1 ∧ k = 0 ∧ intAt L k ≠ 0) := by
  unfold aheadAt
  by_cases e : k = 0
  · subst e; simp [okAt] at h; simp; omega
  · simp [okAt, e] at h; simp [e]; omega
theorem aheadAt_bnd {L : List Int} {k : Nat} (h : stepsB L k = true) : 0 ≤ aheadAt L k ∧ aheadAt L k ≤ k := by
  unfold aheadAt
  by_cases e : k = 0
  · subst e; simp
  · have := stepsB_bnd h (k - 1) (by omega); simp [e]; omega
theorem stepsB_succ {L : List Int} {k : Nat} (h : stepsB L k = true) (h2 : okAt L k = true) : stepsB L (k + 1) = true := by simp [stepsB, h, h2]

set_option maxHeartbeats 1000000 in
theorem impl_stepsOk (L : List Int) (a : Option Addr) (n cap : Nat) (w : World) (hn : L.length = n) (h : Ints w a L) (hlen : n ≤ 1048577) :
    Calls Try.prog 146 #[.slice a n cap] w fun e w' => e = .returned (.bool (stepsB L n)) ∧ Below w.heap.size w w' := by
  have HN := Lib.hid hn; clear hn
  go_enter Try.func146, Try.ntmps146
  go_wp2
  go_loopw [3, 8] (fun v i wr => ∃ k : Nat, k ≤ n ∧ i = .int .i64 k ∧ v = .int .i64 (aheadAt L k) ∧ stepsB L k = true ∧ Below w.heap.size w wr)
    (fun _ i _ => n - (intOf i).toNat)
  case atStart => exact ⟨0, by omega, rfl, rfl, rfl, Below.refl _ _⟩
  case round =>
    obtain ⟨k, hk, rfl, rfl, hst, hb⟩ := hrel
    by_cases hlt : k < n
    · obtain ⟨b, off, rfl, hp⟩ := (h.kept hb).at k (by rw [HN.out]; exact hlt)
      have c0 := hp k (by rw [HN.out]; exact hlt)
      obtain ⟨hy0, hy1⟩ := aheadAt_bnd hst
      cases hok : okAt L k
      · have hno := okAt_no hok
        have HR := Lib.hid (stepsB_no hok hlt)
        clear hok hst h hp
        generalize intAt L k = x at *
        generalize aheadAt L k = y at *
        rcases hno with h1 | ⟨h1, h2⟩ | ⟨h1, h2, h3⟩ | ⟨h1, h2, h3, hk0, h4⟩
        all_goals
          try ((have b1 : ((k : Int) == 0) = true := by simp [hk0]); (have b2 : (x != 0) = true := by simp [h4]); clear hk0 h4)
          go_wp2
          go_ret
          exact ⟨by rw [HR.out]; rfl, hb⟩
      · obtain ⟨h1, h2, h3, h4⟩ := okAt_yes hok
        have HS := Lib.hid (stepsB_succ hst hok)
        have HA := Lib.hid (aheadAt_succ L k)
        clear hok hst h hp
        generalize intAt L k = x at *
        generalize aheadAt L k = y at *
        by_cases hk0 : k = 0
        · have hx := h4 hk0
          have hk1 : ((k : Int) == 0) = true := by simp [hk0]
          subst hx
          clear h4 hk0
          go_wp2
          go_roundw
          case rel => exact ⟨k + 1, by omega, by go_num, by rw [HA.out], HS.out, hb⟩
          case measure => simp [intOf]; omega
        · clear h4
          have hk1 : ((k : Int) == 0) = false := by simp; omega
          go_wp2
          go_roundw
          case rel => exact ⟨k + 1, by omega, by go_num, by rw [HA.out], HS.out, hb⟩
          case measure => simp [intOf]; omega
    · obtain rfl : k = n := by omega
      have HR := Lib.hid hst; clear hst
      go_wp2
      go_ret
      exact ⟨by rw [HR.out]; rfl, hb⟩

theorem impl_colOk (s : ByteArray) (k : Int) (f : Bool) (L : List Int) (a : Option Addr) (n cap : Nat) (w : World) (hs : s.size ≤ 1048576) (hn : L.length = n) (h : Ints w a L) (hlen : n ≤ 1048577) :
    Calls Try.prog 117 #[.agg #[.string s, .int .i64 k, .bool f], .slice a n cap] w fun e w' => e = .returned (.bool (colOkB (patOk s k) s.size L)) ∧ Below w.heap.size w w' := by
  cases hp : patOk s k
  · have HR := Lib.hid (show colOkB false s.size L = false from rfl)
    have HP := Lib.hid hp; clear hp
    go_enter Try.func117, Try.ntmps117
    go_wp2_with (go_at_call 105; refine (impl_patternOk _ _ _ _ (by omega)).mono ?_; rintro e w1 ⟨rfl, hb1⟩; rw [HP.out]; obtain ⟨hc1, hf1⟩ := bcell hb1; have hz1 : w.heap.size < w1.heap.size := (by have := hb1.size; (try simp at this); omega); have HB1 : Below w.heap.size w w1 := below_step (by repeat (first | exact Below.refl _ _ | assumption | (refine Below.drew ?_) | (refine below_drewN ?_ _) | (refine Below.alloc ?_ (by first | omega | (simp; done) | (simp; omega)) _) | (refine Below.setCell ?_ (by first | omega | (simp; done) | (simp; omega)) _))) hb1)
    go_ret
    exact ⟨by rw [HR.out]; rfl, HB1⟩
  · have HP := Lib.hid hp; clear hp
    by_cases hl : n = s.size + 1
    · have HR := Lib.hid (show colOkB true s.size L = stepsB L n by unfold colOkB; rw [hn, hl]; simp)
      have hl2 : ((n : Int) == (s.size : Int) + 1) = true := by simp; omega
      clear hl
      go_enter Try.func117, Try.ntmps117
      go_wp2_with (go_at_call 105; refine (impl_patternOk _ _ _ _ (by omega)).mono ?_; rintro e w1 ⟨rfl, hb1⟩; rw [HP.out]; obtain ⟨hc1, hf1⟩ := bcell hb1; have hz1 : w.heap.size < w1.heap.size := (by have := hb1.size; (try simp at this); omega); have HB1 : Below w.heap.size w w1 := below_step (by repeat (first | exact Below.refl _ _ | assumption | (refine Below.drew ?_) | (refine below_drewN ?_ _) | (refine Below.alloc ?_ (by first | omega | (simp; done) | (simp; omega)) _) | (refine Below.setCell ?_ (by first | omega | (simp; done) | (simp; omega)) _))) hb1)
      have hI := h.kept HB1
      refine (impl_stepsOk L a n cap _ hn hI hlen).mono ?_
      rintro e w2 ⟨rfl, hb2⟩
      go_wp2_with fail
      go_ret
      exact ⟨by rw [HR.out]; rfl, below_step HB1 hb2⟩
    · have HR := Lib.hid (show colOkB true s.size L = false by unfold colOkB; rw [hn]; simp [hl])
      have hl2 : ((n : Int) == (s.size : Int) + 1) = false := by simp; omega
      clear hl
      go_enter Try.func117, Try.ntmps117
      go_wp2_with (go_at_call 105; refine (impl_patternOk _ _ _ _ (by omega)).mono ?_; rintro e w1 ⟨rfl, hb1⟩; rw [HP.out]; obtain ⟨hc1, hf1⟩ := bcell hb1; have hz1 : w.heap.size < w1.heap.size := (by have := hb1.size; (try simp at this); omega); have HB1 : Below w.heap.size w w1 := below_step (by repeat (first | exact Below.refl _ _ | assumption | (refine Below.drew ?_) | (refine below_drewN ?_ _) | (refine Below.alloc ?_ (by first | omega | (simp; done) | (simp; omega)) _) | (refine Below.setCell ?_ (by first | omega | (simp; done) | (simp; omega)) _))) hb1)
      go_ret
      exact ⟨by rw [HR.out]; rfl, HB1⟩
end Go.Proofs.Ytodmohepgmhipaa

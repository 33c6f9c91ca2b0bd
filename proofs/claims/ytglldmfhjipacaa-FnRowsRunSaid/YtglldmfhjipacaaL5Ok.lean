/-
  Chapter 5: contracts of RowsOk, in the program and in its model.
-/
import Derived.Test.YtglldmfhjipacaaRowLaw
import Derived.Test.YtglldmfhjipacaaBits
import Derived.Test.YtglldmfhjipacaaL3Ok
namespace Go.Proofs.Ytglldmfhjipacaa
open Go.RowKit
set_option linter.unusedVariables false
set_option maxRecDepth 100000
def rowGood (n : Nat) (L : List Int) (j : Nat) : Bool := decide (bits .andNot .i64 (intAt L j) (2 ^ n - 1) = 0) && decide (bits .andNot .i64 (neededI (aheadAt L j) j n) (intAt L j) = 0)
def rowsTo (n : Nat) (L : List Int) : Nat → Bool
  | 0 => true
  | j + 1 => rowsTo n L j && rowGood n L j
theorem rowsTo_at {n : Nat} {L : List Int} {m : Nat} (h : rowsTo n L m = true) : ∀ i, i < m → rowGood n L i = true := by
  induction m with
  | zero => intro i hi; omega
  | succ m ih =>
    simp only [rowsTo, Bool.and_eq_true] at h
    intro i hi
    by_cases e : i = m
    · subst e; exact h.2
    · exact ih h.1 i (by omega)
theorem rowsTo_no {n : Nat} {L : List Int} {j m : Nat} (h : rowGood n L j = false) (hj : j < m) : rowsTo n L m = false := by
  cases e : rowsTo n L m
  · rfl
  · have := rowsTo_at e j hj; rw [h] at this; cases this
theorem rowsTo_succ {n : Nat} {L : List Int} {j : Nat} (h : rowsTo n L j = true) (h2 : rowGood n L j = true) : rowsTo n L (j + 1) = true := by simp [rowsTo, h, h2]
def rowsOkB (s : ByteArray) (k : Int) (L : List Int) : Bool := patOk s k && decide ((L.length : Int) = k + 1) && rowsTo s.size L L.length
set_option maxHeartbeats 2000000 in
theorem impl_rowsRight (s : ByteArray) (k : Int) (f : Bool) (L : List Int) (a : Option Addr) (n cap : Nat) (w : World) (hs : s.size ≤ 1048576) (hn : L.length = n) (h : Ints w a L) (hlen : n ≤ 1048577) :
    Calls Try.prog 98 #[.agg #[.slice a n cap], .agg #[.string s, .int .i64 k, .bool f]] w fun e w' => e = .returned (.bool (rowsOkB s k L)) ∧ Below w.heap.size w w' := by
  cases hp : patOk s k
  · have HR := Lib.hid (show rowsOkB s k L = false by unfold rowsOkB; rw [hp]; rfl)
    have HP := Lib.hid hp; clear hp
    go_enter Try.func98, Try.ntmps98
    go_wp2_with fail
    refine (impl_patternOk _ _ _ _ (by omega)).mono ?_
    rintro e w1 ⟨rfl, hb1⟩; rw [HP.out]
    obtain ⟨hc_w1, hf_w1⟩ := bcell hb1; have HT_w1 : Below w.heap.size w w1 := below_step (by repeat (first | exact Below.refl _ _ | assumption | (refine Below.drew ?_) | (refine below_drewN ?_ _) | (refine Below.alloc ?_ (by first | omega | (simp; done) | (simp; omega)) _) | (refine Below.setCell ?_ (by first | omega | (simp; done) | (simp; omega)) _))) hb1; have hz_w_w1 : w.heap.size < w1.heap.size := (by have h1 := hb1.size; (try simp at h1); omega)
    go_wp2_with fail
    go_ret
    exact ⟨by rw [HR.out]; rfl, HT_w1⟩
  · obtain ⟨hs0, hs1, hk0, hk1⟩ := (patOk_iff s k).1 hp
    have HP := Lib.hid hp
    by_cases hl : (n : Int) = k + 1
    · have HR := Lib.hid (show rowsOkB s k L = rowsTo s.size L n by unfold rowsOkB; rw [hp, hn]; simp [hl])
      have hl2 : ((n : Int) != k + 1) = false := by simp [hl]
      have hn5 : n ≤ 5 := by omega
      have HN := Lib.hid hn
      clear hp hl hn
      go_enter Try.func98, Try.ntmps98
      go_wp2_with fail
      refine (impl_patternOk _ _ _ _ (by omega)).mono ?_
      rintro e w1 ⟨rfl, hb1⟩; rw [HP.out]
      obtain ⟨hc_w1, hf_w1⟩ := bcell hb1; have HT_w1 : Below w.heap.size w w1 := below_step (by repeat (first | exact Below.refl _ _ | assumption | (refine Below.drew ?_) | (refine below_drewN ?_ _) | (refine Below.alloc ?_ (by first | omega | (simp; done) | (simp; omega)) _) | (refine Below.setCell ?_ (by first | omega | (simp; done) | (simp; omega)) _))) hb1; have hz_w_w1 : w.heap.size < w1.heap.size := (by have h1 := hb1.size; (try simp at h1); omega)
      have hz1 : w.heap.size + 1 < w1.heap.size := by have h1 := hb1.size; (try simp at h1); omega
      go_wp2_with (go_at_call 95; refine (impl_lowBits _ _ (by omega)).mono ?_; rintro e w9 ⟨rfl, rfl⟩)
      have hI := h.kept HT_w1
      clear h
      go_loopw [6, 29] (fun v i wr => ∃ j : Nat, j ≤ n ∧ i = .int .i64 j ∧ v = .int .i64 (aheadAt L j) ∧ rowsTo s.size L j = true ∧ w1 = wr)
        (fun _ i _ => n - (intOf i).toNat)
      case atStart => exact ⟨0, by omega, rfl, rfl, rfl, rfl⟩
      case round =>
        obtain ⟨j, hj, rfl, rfl, hst, rfl⟩ := hrel
        by_cases hlt : j < n
        · obtain ⟨b, off, rfl, hp⟩ := hI.at j (by rw [HN.out]; exact hlt)
          have c0 := hp j (by rw [HN.out]; exact hlt)
          have hA := aheadAt_succ L j
          cases hok : rowGood s.size L j
          · have HNo := Lib.hid (rowsTo_no hok hlt)
            by_cases h1 : bits .andNot .i64 (intAt L j) (2 ^ s.size - 1) = 0
            · have h2 : (bits .andNot .i64 (neededI (aheadAt L j) j s.size) (intAt L j) != 0) = true := by
                unfold rowGood at hok; rw [h1] at hok; simpa using hok
              have h1' : (bits .andNot .i64 (intAt L j) (2 ^ s.size - 1) != 0) = false := by simp [h1]
              unfold neededI at h2
              clear h1 hok hst hI hp hA
              generalize intAt L j = x at *
              generalize aheadAt L j = y at *
              go_wp2_with (go_at_call 95; refine (impl_lowBits _ _ (by omega)).mono ?_; rintro e w9 ⟨rfl, rfl⟩)
              go_ret
              exact ⟨by rw [HR.out, HNo.out]; rfl, HT_w1⟩
            · have h1' : (bits .andNot .i64 (intAt L j) (2 ^ s.size - 1) != 0) = true := by simpa using h1
              clear h1 hok hst hI hp hA
              generalize intAt L j = x at *
              generalize aheadAt L j = y at *
              go_wp2_with (go_at_call 95; refine (impl_lowBits _ _ (by omega)).mono ?_; rintro e w9 ⟨rfl, rfl⟩)
              go_ret
              exact ⟨by rw [HR.out, HNo.out]; rfl, HT_w1⟩
          · have HS := Lib.hid (rowsTo_succ hst hok)
            have hok2 : bits .andNot .i64 (intAt L j) (2 ^ s.size - 1) = 0 ∧ bits .andNot .i64 (neededI (aheadAt L j) j s.size) (intAt L j) = 0 := by
              unfold rowGood at hok; simpa using hok
            have h1' : (bits .andNot .i64 (intAt L j) (2 ^ s.size - 1) != 0) = false := by simp [hok2.1]
            have h2' : (bits .andNot .i64 (neededI (aheadAt L j) j s.size) (intAt L j) != 0) = false := by simp [hok2.2]
            unfold neededI at h2'
            have HA := Lib.hid hA
            clear hok hok2 hst hI hp hA
            generalize intAt L j = x at *
            generalize aheadAt L j = y at *
            go_wp2_with (go_at_call 95; refine (impl_lowBits _ _ (by omega)).mono ?_; rintro e w9 ⟨rfl, rfl⟩)
            go_roundw
            case rel => exact ⟨j + 1, by omega, by go_num, by rw [HA.out], HS.out, by first | rfl | trivial⟩
            case measure => simp [intOf]; omega
        · obtain rfl : j = n := by omega
          have HSt := Lib.hid hst; clear hst
          go_wp2
          go_ret
          exact ⟨by rw [HR.out, HSt.out]; rfl, HT_w1⟩
    · have HR := Lib.hid (show rowsOkB s k L = false by unfold rowsOkB; rw [hp, hn]; simp [hl])
      have hl2 : ((n : Int) != k + 1) = true := by simp [hl]
      clear hp hl
      go_enter Try.func98, Try.ntmps98
      go_wp2_with fail
      refine (impl_patternOk _ _ _ _ (by omega)).mono ?_
      rintro e w1 ⟨rfl, hb1⟩; rw [HP.out]
      obtain ⟨hc_w1, hf_w1⟩ := bcell hb1; have HT_w1 : Below w.heap.size w w1 := below_step (by repeat (first | exact Below.refl _ _ | assumption | (refine Below.drew ?_) | (refine below_drewN ?_ _) | (refine Below.alloc ?_ (by first | omega | (simp; done) | (simp; omega)) _) | (refine Below.setCell ?_ (by first | omega | (simp; done) | (simp; omega)) _))) hb1; have hz_w_w1 : w.heap.size < w1.heap.size := (by have h1 := hb1.size; (try simp at h1); omega)
      have hz1 : w.heap.size + 1 < w1.heap.size := by have h1 := hb1.size; (try simp at h1); omega
      go_wp2_with fail
      go_ret
      exact ⟨by rw [HR.out]; rfl, HT_w1⟩
end Go.Proofs.Ytglldmfhjipacaa

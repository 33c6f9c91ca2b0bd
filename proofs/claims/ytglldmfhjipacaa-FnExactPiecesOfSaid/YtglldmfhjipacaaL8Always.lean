/-
  Chapter 8: Always: its contracts, in the program and in its model; the walk of FnExactAlways.
-/
import Derived.Test.YtglldmfhjipacaaL2Pat
namespace Go.Proofs.Ytglldmfhjipacaa
open Go.RowKit
set_option linter.unusedVariables false
set_option maxRecDepth 100000
/-- may the pattern be left out whole? -/
def alwaysB (s : ByteArray) (k : Int) : Bool := patOk s k && decide ((s.size : Int) ≤ k)
theorem alwaysB_no {s : ByteArray} {k : Int} (h : patOk s k = false) : alwaysB s k = false := by unfold alwaysB; rw [h]; rfl
theorem alwaysB_yes {s : ByteArray} {k : Int} (h : patOk s k = true) (h2 : (s.size : Int) ≤ k) : alwaysB s k = true := by unfold alwaysB; rw [h]; simpa using h2
theorem alwaysB_not {s : ByteArray} {k : Int} (h2 : ¬ (s.size : Int) ≤ k) : alwaysB s k = false := by unfold alwaysB; simp [h2]
set_option maxHeartbeats 1000000 in
theorem impl_always (s : ByteArray) (k : Int) (f : Bool) (w : World) (hs : s.size ≤ 1048576) :
    Calls Try.prog 35 #[.agg #[.string s, .int .i64 k, .bool f]] w fun e w' => e = .returned (.bool (alwaysB s k)) ∧ Below w.heap.size w w' := by
  cases hp : patOk s k
  · have HR := Lib.hid (alwaysB_no hp)
    have HP := Lib.hid hp; clear hp
    go_enter Try.func35, Try.ntmps35
    go_wp2_with (go_at_call 85; refine (impl_patternOk _ _ _ _ (by omega)).mono ?_; rintro e w1 ⟨rfl, hb1⟩; rw [HP.out]; obtain ⟨hc1, hf1⟩ := bcell hb1; have hz1 : w.heap.size < w1.heap.size := (by have := hb1.size; (try simp at this); omega); have HB1 : Below w.heap.size w w1 := below_step (by repeat (first | exact Below.refl _ _ | assumption | (refine Below.drew ?_) | (refine below_drewN ?_ _) | (refine Below.alloc ?_ (by first | omega | (simp; done) | (simp; omega)) _) | (refine Below.setCell ?_ (by first | omega | (simp; done) | (simp; omega)) _))) hb1)
    go_ret
    exact ⟨by rw [HR.out]; rfl, HB1⟩
  · by_cases hl : (s.size : Int) ≤ k
    · have HR := Lib.hid (alwaysB_yes hp hl)
      have HP := Lib.hid hp; clear hp
      go_enter Try.func35, Try.ntmps35
      go_wp2_with (go_at_call 85; refine (impl_patternOk _ _ _ _ (by omega)).mono ?_; rintro e w1 ⟨rfl, hb1⟩; rw [HP.out]; obtain ⟨hc1, hf1⟩ := bcell hb1; have hz1 : w.heap.size < w1.heap.size := (by have := hb1.size; (try simp at this); omega); have HB1 : Below w.heap.size w w1 := below_step (by repeat (first | exact Below.refl _ _ | assumption | (refine Below.drew ?_) | (refine below_drewN ?_ _) | (refine Below.alloc ?_ (by first | omega | (simp; done) | (simp; omega)) _) | (refine Below.setCell ?_ (by first | omega | (simp; done) | (simp; omega)) _))) hb1)
      go_ret
      exact ⟨by rw [HR.out]; rfl, HB1⟩
    · have HR := Lib.hid (alwaysB_not hl)
      have hd : decide ((s.size : Int) ≤ k) = false := by simpa using hl
      have HP := Lib.hid hp; clear hp
      go_enter Try.func35, Try.ntmps35
      go_wp2_with (go_at_call 85; refine (impl_patternOk _ _ _ _ (by omega)).mono ?_; rintro e w1 ⟨rfl, hb1⟩; rw [HP.out]; obtain ⟨hc1, hf1⟩ := bcell hb1; have hz1 : w.heap.size < w1.heap.size := (by have := hb1.size; (try simp at this); omega); have HB1 : Below w.heap.size w w1 := below_step (by repeat (first | exact Below.refl _ _ | assumption | (refine Below.drew ?_) | (refine below_drewN ?_ _) | (refine Below.alloc ?_ (by first | omega | (simp; done) | (simp; omega)) _) | (refine Below.setCell ?_ (by first | omega | (simp; done) | (simp; omega)) _))) hb1)
      go_ret
      exact ⟨by rw [HR.out]; rfl, HB1⟩
set_option maxHeartbeats 1000000 in
theorem spec_always (s : ByteArray) (k : Int) (f : Bool) (w : World) (hs : s.size ≤ 1048576) :
    Calls Try.prog 36 #[.agg #[.string s, .int .i64 k, .bool f]] w fun e w' => e = .returned (.bool (alwaysB s k)) ∧ Below w.heap.size w w' := by
  cases hp : patOk s k
  · have HR := Lib.hid (alwaysB_no hp)
    have HP := Lib.hid hp; clear hp
    go_enter Try.func36, Try.ntmps36
    go_wp2_with (go_at_call 37; refine (spec_patternOk _ _ _ _ (by omega)).mono ?_; rintro e w1 ⟨rfl, hb1⟩; rw [HP.out]; obtain ⟨hc1, hf1⟩ := bcell hb1; have hz1 : w.heap.size < w1.heap.size := (by have := hb1.size; (try simp at this); omega); have HB1 : Below w.heap.size w w1 := below_step (by repeat (first | exact Below.refl _ _ | assumption | (refine Below.drew ?_) | (refine below_drewN ?_ _) | (refine Below.alloc ?_ (by first | omega | (simp; done) | (simp; omega)) _) | (refine Below.setCell ?_ (by first | omega | (simp; done) | (simp; omega)) _))) hb1)
    go_ret
    exact ⟨by rw [HR.out]; rfl, HB1⟩
  · by_cases hl : (s.size : Int) ≤ k
    · have HR := Lib.hid (alwaysB_yes hp hl)
      have HP := Lib.hid hp; clear hp
      go_enter Try.func36, Try.ntmps36
      go_wp2_with (go_at_call 37; refine (spec_patternOk _ _ _ _ (by omega)).mono ?_; rintro e w1 ⟨rfl, hb1⟩; rw [HP.out]; obtain ⟨hc1, hf1⟩ := bcell hb1; have hz1 : w.heap.size < w1.heap.size := (by have := hb1.size; (try simp at this); omega); have HB1 : Below w.heap.size w w1 := below_step (by repeat (first | exact Below.refl _ _ | assumption | (refine Below.drew ?_) | (refine below_drewN ?_ _) | (refine Below.alloc ?_ (by first | omega | (simp; done) | (simp; omega)) _) | (refine Below.setCell ?_ (by first | omega | (simp; done) | (simp; omega)) _))) hb1)
      go_ret
      exact ⟨by rw [HR.out]; rfl, HB1⟩
    · have HR := Lib.hid (alwaysB_not hl)
      have hd : decide ((s.size : Int) ≤ k) = false := by simpa using hl
      have HP := Lib.hid hp; clear hp
      go_enter Try.func36, Try.ntmps36
      go_wp2_with (go_at_call 37; refine (spec_patternOk _ _ _ _ (by omega)).mono ?_; rintro e w1 ⟨rfl, hb1⟩; rw [HP.out]; obtain ⟨hc1, hf1⟩ := bcell hb1; have hz1 : w.heap.size < w1.heap.size := (by have := hb1.size; (try simp at this); omega); have HB1 : Below w.heap.size w w1 := below_step (by repeat (first | exact Below.refl _ _ | assumption | (refine Below.drew ?_) | (refine below_drewN ?_ _) | (refine Below.alloc ?_ (by first | omega | (simp; done) | (simp; omega)) _) | (refine Below.setCell ?_ (by first | omega | (simp; done) | (simp; omega)) _))) hb1)
      go_ret
      exact ⟨by rw [HR.out]; rfl, HB1⟩
end Go.Proofs.Ytglldmfhjipacaa

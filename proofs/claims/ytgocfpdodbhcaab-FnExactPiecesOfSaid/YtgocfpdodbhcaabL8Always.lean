/-
  Chapter 8: Always: its contracts, in the program and in its model; the walk of FnExactAlways.
-/
import Derived.Test.YtgocfpdodbhcaabL2Pat
namespace Go.Proofs.Ytgocfpdodbhcaab
open Go.RowKit
set_option linter.unusedVariables false
set_option maxRecDepth 100000
/-- may the pattern be left out whole? -/
def alwaysB (s : ByteArray) (k : Int) : Bool := patOk s k && decide ((s.size : Int) ≤ k)
theorem alwaysB_no {s : ByteArray} {k : Int} (h : patOk s k = false) : alwaysB s k = false := by unfold alwaysB; rw [h]; rfl
theorem alwaysB_yes {s : ByteArray} {k : Int} (h : patOk s k = true) (h2 : (s.size : Int) ≤ k) : alwaysB s k = true := by unfold alwaysB; rw [h]; simpa using h2
theorem alwaysB_not {s : ByteArray} {k : Int} (h2 : ¬ (s.size : Int) ≤ k) : alwaysB s k = false := by unfold alwaysB; simp [h2]
set_option maxHeartbeats 1000000 in
theorem impl_always (s : ByteArray) (k : Int) (f : Bool) (w : World) (hs : s.size ≤ 1048576) :
    Calls Try.prog 52 #[.agg #[.string s, .int .i64 k, .bool f]] w fun e w' => e = .returned (.bool (alwaysB s k)) ∧ Below w.heap.size w w' := by
  cases hp : patOk s k
  · have HR := Lib.hid (alwaysB_no hp)
    have HP := Lib.hid hp; clear hp
    go_enter Try.func52, Try.ntmps52
    go_wp2_with (go_at_call 102; refine (impl_patternOk _ _ _ _ (by omega)).mono ?_; rintro e w1 ⟨rfl, hb1⟩; rw [HP.out]; obtain ⟨hc1, hf1⟩ := bcell hb1; have hz1 : w.heap.size < w1.heap.size := (by have := hb1.size; (try simp at this); omega); have HB1 : Below w.heap.size w w1 := below_step (by repeat (first | exact Below.refl _ _ | assumption | (refine Below.drew ?_) | (refine below_drewN ?_ _) | (refine Below.alloc ?_ (by first | omega | (simp; done) | (simp; omega)) _) | (refine Below.setCell ?_ (by first | omega | (simp; done) | (simp; omega)) _))) hb1)
    go_ret
    exact ⟨by rw [HR.out]; rfl, HB1⟩
  · by_cases hl : (s.size : Int) ≤ k
    · have HR := Lib.hid (alwaysB_yes hp hl)
      have HP := Lib.hid hp; clear hp
      go_enter Try.func52, Try.ntmps52
      go_wp2_with (go_at_call 102; refine (impl_patternOk _ _ _ _ (by omega)).mono ?_; rintro e w1 ⟨rfl, hb1⟩; rw [HP.out]; obtain ⟨hc1, hf1⟩ := bcell hb1; have hz1 : w.heap.size < w1.heap.size := (by have := hb1.size; (try simp at this); omega); have HB1 : Below w.heap.size w w1 := below_step (by repeat (first | exact Below.refl _ _ | assumption | (refine Below.drew ?_) | (refine below_drewN ?_ _) | (refine Below.alloc ?_ (by first | omega | (simp; done) | (simp; omega)) _) | (refine Below.setCell ?_ (by first | omega | (simp; done) | (simp; omega)) _))) hb1)
      go_ret
      exact ⟨by rw [HR.out]; rfl, HB1⟩
    · have HR := Lib.hid (alwaysB_not hl)
      have hd : decide ((s.size : Int) ≤ k) = false := by simpa using hl
      have HP := Lib.hid hp; clear hp
      go_enter Try.func52, Try.ntmps52
      go_wp2_with (go_at_call 102; refine (impl_patternOk _ _ _ _ (by omega)).mono ?_; rintro e w1 ⟨rfl, hb1⟩; rw [HP.out]; obtain ⟨hc1, hf1⟩ := bcell hb1; have hz1 : w.heap.size < w1.heap.size := (by have := hb1.size; (try simp at this); omega); have HB1 : Below w.heap.size w w1 := below_step (by repeat (first | exact Below.refl _ _ | assumption | (refine Below.drew ?_) | (refine below_drewN ?_ _) | (refine Below.alloc ?_ (by first | omega | (simp; done) | (simp; omega)) _) | (refine Below.setCell ?_ (by first | omega | (simp; done) | (simp; omega)) _))) hb1)
      go_ret
      exact ⟨by rw [HR.out]; rfl, HB1⟩
set_option maxHeartbeats 1000000 in
theorem spec_always (s : ByteArray) (k : Int) (f : Bool) (w : World) (hs : s.size ≤ 1048576) :
    Calls Try.prog 51 #[.agg #[.string s, .int .i64 k, .bool f]] w fun e w' => e = .returned (.bool (alwaysB s k)) ∧ Below w.heap.size w w' := by
  cases hp : patOk s k
  · have HR := Lib.hid (alwaysB_no hp)
    have HP := Lib.hid hp; clear hp
    go_enter Try.func51, Try.ntmps51
    go_wp2_with (go_at_call 101; refine (spec_patternOk _ _ _ _ (by omega)).mono ?_; rintro e w1 ⟨rfl, hb1⟩; rw [HP.out]; obtain ⟨hc1, hf1⟩ := bcell hb1; have hz1 : w.heap.size < w1.heap.size := (by have := hb1.size; (try simp at this); omega); have HB1 : Below w.heap.size w w1 := below_step (by repeat (first | exact Below.refl _ _ | assumption | (refine Below.drew ?_) | (refine below_drewN ?_ _) | (refine Below.alloc ?_ (by first | omega | (simp; done) | (simp; omega)) _) | (refine Below.setCell ?_ (by first | omega | (simp; done) | (simp; omega)) _))) hb1)
    go_ret
    exact ⟨by rw [HR.out]; rfl, HB1⟩
  · by_cases hl : (s.size : Int) ≤ k
    · have HR := Lib.hid (alwaysB_yes hp hl)
      have HP := Lib.hid hp; clear hp
      go_enter Try.func51, Try.ntmps51
      go_wp2_with (go_at_call 101; refine (spec_patternOk _ _ _ _ (by omega)).mono ?_; rintro e w1 ⟨rfl, hb1⟩; rw [HP.out]; obtain ⟨hc1, hf1⟩ := bcell hb1; have hz1 : w.heap.size < w1.heap.size := (by have := hb1.size; (try simp at this); omega); have HB1 : Below w.heap.size w w1 := below_step (by repeat (first | exact Below.refl _ _ | assumption | (refine Below.drew ?_) | (refine below_drewN ?_ _) | (refine Below.alloc ?_ (by first | omega | (simp; done) | (simp; omega)) _) | (refine Below.setCell ?_ (by first | omega | (simp; done) | (simp; omega)) _))) hb1)
      go_ret
      exact ⟨by rw [HR.out]; rfl, HB1⟩
    · have HR := Lib.hid (alwaysB_not hl)
      have hd : decide ((s.size : Int) ≤ k) = false := by simpa using hl
      have HP := Lib.hid hp; clear hp
      go_enter Try.func51, Try.ntmps51
      go_wp2_with (go_at_call 101; refine (spec_patternOk _ _ _ _ (by omega)).mono ?_; rintro e w1 ⟨rfl, hb1⟩; rw [HP.out]; obtain ⟨hc1, hf1⟩ := bcell hb1; have hz1 : w.heap.size < w1.heap.size := (by have := hb1.size; (try simp at this); omega); have HB1 : Below w.heap.size w w1 := below_step (by repeat (first | exact Below.refl _ _ | assumption | (refine Below.drew ?_) | (refine below_drewN ?_ _) | (refine Below.alloc ?_ (by first | omega | (simp; done) | (simp; omega)) _) | (refine Below.setCell ?_ (by first | omega | (simp; done) | (simp; omega)) _))) hb1)
      go_ret
      exact ⟨by rw [HR.out]; rfl, HB1⟩
set_option maxHeartbeats 1000000 in
theorem law_FnExactAlways (s : ByteArray) (hs : s.size ≤ maxLen) (k : Int) (_wk : (Lit.int .i64 k).wf = true) (f : Bool) (w : World) :
    Calls Try.prog 10 #[.agg #[.string s, .int .i64 k, .bool f]] w fun e w' => e = .returned (.bool true) ∧ Below w.heap.size w w' := by
  unfold maxLen at hs
  by_cases hbig : (s.size : Int) ≤ 1048576
  · go_enter Try.func10, Try.ntmps10
    have H := Lib.hid (szI_yes hbig)
    have hs2 : s.size ≤ 1048576 := by omega
    go_wp2_with (first
      | (go_at_call 20; refine (laws_szPattern _ _ _ _ _ (by omega) (by omega) (by omega)).mono ?_; rintro e w1 ⟨rfl, hb1⟩; obtain ⟨hc1, hf1⟩ := bcell hb1; have hz1 : w.heap.size < w1.heap.size := (by have := hb1.size; (try simp at this); omega); have HB1 : Below w.heap.size w w1 := below_step (by repeat (first | exact Below.refl _ _ | assumption | (refine Below.drew ?_) | (refine below_drewN ?_ _) | (refine Below.alloc ?_ (by first | omega | (simp; done) | (simp; omega)) _) | (refine Below.setCell ?_ (by first | omega | (simp; done) | (simp; omega)) _))) hb1; rw [H.out])
      | (go_at_call 22; refine (laws_toPattern _ _ _ _).mono ?_; rintro e w1 ⟨rfl, hb1⟩; obtain ⟨hc1, hf1⟩ := bcell hb1; have hz1 : w.heap.size < w1.heap.size := (by have := hb1.size; (try simp at this); omega); have HB1 : Below w.heap.size w w1 := below_step (by repeat (first | exact Below.refl _ _ | assumption | (refine Below.drew ?_) | (refine below_drewN ?_ _) | (refine Below.alloc ?_ (by first | omega | (simp; done) | (simp; omega)) _) | (refine Below.setCell ?_ (by first | omega | (simp; done) | (simp; omega)) _))) hb1)
      | (go_at_call 52; refine (impl_always _ _ _ _ hs2).mono ?_; rintro e w1 ⟨rfl, hb1⟩; obtain ⟨hc1, hf1⟩ := bcell hb1; have hz1 : w.heap.size < w1.heap.size := (by have := hb1.size; (try simp at this); omega); have HB1 : Below w.heap.size w w1 := below_step (by repeat (first | exact Below.refl _ _ | assumption | (refine Below.drew ?_) | (refine below_drewN ?_ _) | (refine Below.alloc ?_ (by first | omega | (simp; done) | (simp; omega)) _) | (refine Below.setCell ?_ (by first | omega | (simp; done) | (simp; omega)) _))) hb1)
      | (go_at_call 51; refine (spec_always _ _ _ _ hs2).mono ?_; rintro e w1 ⟨rfl, hb1⟩; obtain ⟨hc1, hf1⟩ := bcell hb1; have hz1 : w.heap.size < w1.heap.size := (by have := hb1.size; (try simp at this); omega); have HB1 : Below w.heap.size w w1 := below_step (by repeat (first | exact Below.refl _ _ | assumption | (refine Below.drew ?_) | (refine below_drewN ?_ _) | (refine Below.alloc ?_ (by first | omega | (simp; done) | (simp; omega)) _) | (refine Below.setCell ?_ (by first | omega | (simp; done) | (simp; omega)) _))) hb1))
    go_ret
    exact ⟨rfl, HB1⟩
  · go_enter Try.func10, Try.ntmps10
    have H := Lib.hid (szI_no hbig)
    go_wp2_with (first
      | (go_at_call 20; refine (laws_szPattern _ _ _ _ _ (by omega) (by omega) (by omega)).mono ?_; rintro e w1 ⟨rfl, hb1⟩; obtain ⟨hc1, hf1⟩ := bcell hb1; have hz1 : w.heap.size < w1.heap.size := (by have := hb1.size; (try simp at this); omega); have HB1 : Below w.heap.size w w1 := below_step (by repeat (first | exact Below.refl _ _ | assumption | (refine Below.drew ?_) | (refine below_drewN ?_ _) | (refine Below.alloc ?_ (by first | omega | (simp; done) | (simp; omega)) _) | (refine Below.setCell ?_ (by first | omega | (simp; done) | (simp; omega)) _))) hb1; rw [H.out]))
    go_ret
    exact ⟨rfl, HB1⟩
end Go.Proofs.Ytgocfpdodbhcaab

/-
  Chapter 10: rings: contracts of RingOk and RingNew, in the program and in its model; of the law's own helpers on rings; the walks of FnExactRingOk and FnExactRingNew.
-/
import Derived.Test.YtglldmfhjipacaaL3Ok
import Derived.Test.YtglldmfhjipacaaL4New
namespace Go.Proofs.Ytglldmfhjipacaa
open Go.RowKit
set_option linter.unusedVariables false
set_option maxRecDepth 100000
theorem inB_iff {n lo hi : Int} : inB n lo hi = true ↔ lo ≤ n ∧ n ≤ hi := by simp [inB]
/-- is a ring of this size and end, with n bytes, right? -/
def ringB (z e : Int) (n : Nat) : Bool := decide (0 ≤ z ∧ z ≤ 200 ∧ 0 ≤ e ∧ e ≤ 1000000 ∧ (n : Int) ≤ z ∧ (n : Int) ≤ e)
theorem ringB_iff (z e : Int) (n : Nat) : ringB z e n = true ↔ (0 ≤ z ∧ z ≤ 200 ∧ 0 ≤ e ∧ e ≤ 1000000 ∧ (n : Int) ≤ z ∧ (n : Int) ≤ e) := by simp [ringB]
theorem ringB_yes {z e : Int} {n : Nat} (h : 0 ≤ z ∧ z ≤ 200 ∧ 0 ≤ e ∧ e ≤ 1000000 ∧ (n : Int) ≤ z ∧ (n : Int) ≤ e) : ringB z e n = true := (ringB_iff z e n).2 h
theorem ringB_no {z e : Int} {n : Nat} (h : ¬ (0 ≤ z ∧ z ≤ 200 ∧ 0 ≤ e ∧ e ≤ 1000000 ∧ (n : Int) ≤ z ∧ (n : Int) ≤ e)) : ringB z e n = false := by simp only [ringB, decide_eq_false_iff_not]; exact h
theorem impl_sizeOk (z : Int) (w : World) : Calls Try.prog 81 #[.int .i64 z] w fun r w' => r = .returned (.bool (inB z 0 200)) ∧ w = w' := by
  by_cases h1 : 0 ≤ z
  · by_cases h2 : z ≤ 200
    · have H := Lib.hid (inB_yes ⟨h1, h2⟩)
      go_enter Try.func81, Try.ntmps81
      go_wp2
      go_ret
      exact ⟨by rw [H.out]; rfl, rfl⟩
    · have H := Lib.hid (inB_no (n := z) (lo := 0) (hi := 200) (by omega))
      go_enter Try.func81, Try.ntmps81
      go_wp2
      go_ret
      exact ⟨by rw [H.out]; rfl, rfl⟩
  · have H := Lib.hid (inB_no (n := z) (lo := 0) (hi := 200) (by omega))
    go_enter Try.func81, Try.ntmps81
    go_wp2
    go_ret
    exact ⟨by rw [H.out]; rfl, rfl⟩
theorem impl_offsetOk (z : Int) (w : World) : Calls Try.prog 82 #[.int .i64 z] w fun r w' => r = .returned (.bool (inB z 0 1000000)) ∧ w = w' := by
  by_cases h1 : 0 ≤ z
  · by_cases h2 : z ≤ 1000000
    · have H := Lib.hid (inB_yes ⟨h1, h2⟩)
      go_enter Try.func82, Try.ntmps82
      go_wp2
      go_ret
      exact ⟨by rw [H.out]; rfl, rfl⟩
    · have H := Lib.hid (inB_no (n := z) (lo := 0) (hi := 1000000) (by omega))
      go_enter Try.func82, Try.ntmps82
      go_wp2
      go_ret
      exact ⟨by rw [H.out]; rfl, rfl⟩
  · have H := Lib.hid (inB_no (n := z) (lo := 0) (hi := 1000000) (by omega))
    go_enter Try.func82, Try.ntmps82
    go_wp2
    go_ret
    exact ⟨by rw [H.out]; rfl, rfl⟩
theorem min_le (z e : Int) (h : z ≤ e) : min z e = z := by omega
set_option maxHeartbeats 1000000 in
theorem impl_ringOk (z e : Int) (d : ByteArray) (w : World) (hd : d.size ≤ 9223372036854775807) :
    Calls Try.prog 23 #[.agg #[.int .i64 z, .int .i64 e, .string d]] w fun r w' => r = .returned (.bool (ringB z e d.size)) ∧ Below w.heap.size w w' := by
  cases h1 : inB z 0 200
  · have H := Lib.hid (ringB_no (z := z) (e := e) (n := d.size) (by intro h; rw [inB_yes ⟨h.1, h.2.1⟩] at h1; cases h1))
    have H1 := Lib.hid h1; clear h1
    go_enter Try.func23, Try.ntmps23
    go_wp2_with (first | (go_at_call 81; refine (impl_sizeOk _ _).mono ?_; rintro r w1 ⟨rfl, rfl⟩; rw [H1.out]))
    go_ret
    exact ⟨by rw [H.out]; rfl, (by repeat (first | exact Below.refl _ _ | assumption | (refine Below.drew ?_) | (refine below_drewN ?_ _) | (refine Below.alloc ?_ (by first | omega | (simp; done) | (simp; omega)) _) | (refine Below.setCell ?_ (by first | omega | (simp; done) | (simp; omega)) _)))⟩
  · cases h2 : inB e 0 1000000
    · have H := Lib.hid (ringB_no (z := z) (e := e) (n := d.size) (by intro h; rw [inB_yes ⟨h.2.2.1, h.2.2.2.1⟩] at h2; cases h2))
      have H1 := Lib.hid h1; have H2 := Lib.hid h2; clear h1 h2
      go_enter Try.func23, Try.ntmps23
      go_wp2_with (first | (go_at_call 81; refine (impl_sizeOk _ _).mono ?_; rintro r w1 ⟨rfl, rfl⟩; rw [H1.out]) | (go_at_call 82; refine (impl_offsetOk _ _).mono ?_; rintro r w1 ⟨rfl, rfl⟩; rw [H2.out]))
      go_ret
      exact ⟨by rw [H.out]; rfl, (by repeat (first | exact Below.refl _ _ | assumption | (refine Below.drew ?_) | (refine below_drewN ?_ _) | (refine Below.alloc ?_ (by first | omega | (simp; done) | (simp; omega)) _) | (refine Below.setCell ?_ (by first | omega | (simp; done) | (simp; omega)) _)))⟩
    · have g1 := inB_iff.1 h1
      have g2 := inB_iff.1 h2
      have H1 := Lib.hid h1; have H2 := Lib.hid h2; clear h1 h2
      by_cases hze : z ≤ e
      · by_cases h3 : (d.size : Int) ≤ z
        · have H := Lib.hid (ringB_yes (z := z) (e := e) (n := d.size) (by omega))
          go_enter Try.func23, Try.ntmps23
          go_wp2_with (first | (go_at_call 81; refine (impl_sizeOk _ _).mono ?_; rintro r w1 ⟨rfl, rfl⟩; rw [H1.out]) | (go_at_call 82; refine (impl_offsetOk _ _).mono ?_; rintro r w1 ⟨rfl, rfl⟩; rw [H2.out]))
          go_ret
          exact ⟨by rw [H.out]; rfl, (by repeat (first | exact Below.refl _ _ | assumption | (refine Below.drew ?_) | (refine below_drewN ?_ _) | (refine Below.alloc ?_ (by first | omega | (simp; done) | (simp; omega)) _) | (refine Below.setCell ?_ (by first | omega | (simp; done) | (simp; omega)) _)))⟩
        · have hq : decide ((d.size : Int) ≤ z) = false := by simpa using h3
          have H := Lib.hid (ringB_no (z := z) (e := e) (n := d.size) (by omega))
          go_enter Try.func23, Try.ntmps23
          go_wp2_with (first | (go_at_call 81; refine (impl_sizeOk _ _).mono ?_; rintro r w1 ⟨rfl, rfl⟩; rw [H1.out]) | (go_at_call 82; refine (impl_offsetOk _ _).mono ?_; rintro r w1 ⟨rfl, rfl⟩; rw [H2.out]))
          go_ret
          exact ⟨by rw [H.out]; rfl, (by repeat (first | exact Below.refl _ _ | assumption | (refine Below.drew ?_) | (refine below_drewN ?_ _) | (refine Below.alloc ?_ (by first | omega | (simp; done) | (simp; omega)) _) | (refine Below.setCell ?_ (by first | omega | (simp; done) | (simp; omega)) _)))⟩
      · by_cases h3 : (d.size : Int) ≤ e
        · have H := Lib.hid (ringB_yes (z := z) (e := e) (n := d.size) (by omega))
          go_enter Try.func23, Try.ntmps23
          go_wp2_with (first | (go_at_call 81; refine (impl_sizeOk _ _).mono ?_; rintro r w1 ⟨rfl, rfl⟩; rw [H1.out]) | (go_at_call 82; refine (impl_offsetOk _ _).mono ?_; rintro r w1 ⟨rfl, rfl⟩; rw [H2.out]))
          go_ret
          exact ⟨by rw [H.out]; rfl, (by repeat (first | exact Below.refl _ _ | assumption | (refine Below.drew ?_) | (refine below_drewN ?_ _) | (refine Below.alloc ?_ (by first | omega | (simp; done) | (simp; omega)) _) | (refine Below.setCell ?_ (by first | omega | (simp; done) | (simp; omega)) _)))⟩
        · have hq : decide ((d.size : Int) ≤ e) = false := by simpa using h3
          have H := Lib.hid (ringB_no (z := z) (e := e) (n := d.size) (by omega))
          go_enter Try.func23, Try.ntmps23
          go_wp2_with (first | (go_at_call 81; refine (impl_sizeOk _ _).mono ?_; rintro r w1 ⟨rfl, rfl⟩; rw [H1.out]) | (go_at_call 82; refine (impl_offsetOk _ _).mono ?_; rintro r w1 ⟨rfl, rfl⟩; rw [H2.out]))
          go_ret
          exact ⟨by rw [H.out]; rfl, (by repeat (first | exact Below.refl _ _ | assumption | (refine Below.drew ?_) | (refine below_drewN ?_ _) | (refine Below.alloc ?_ (by first | omega | (simp; done) | (simp; omega)) _) | (refine Below.setCell ?_ (by first | omega | (simp; done) | (simp; omega)) _)))⟩
set_option maxHeartbeats 1000000 in
theorem spec_ringOk (z e : Int) (d : ByteArray) (w : World) (hd : d.size ≤ 9223372036854775807) :
    Calls Try.prog 24 #[.agg #[.int .i64 z, .int .i64 e, .string d]] w fun r w' => r = .returned (.bool (ringB z e d.size)) ∧ Below w.heap.size w w' := by
  cases h1 : inB z 0 200
  · have H := Lib.hid (ringB_no (z := z) (e := e) (n := d.size) (by intro h; rw [inB_yes ⟨h.1, h.2.1⟩] at h1; cases h1))
    have H1 := Lib.hid h1; clear h1
    go_enter Try.func24, Try.ntmps24
    go_wp2_with (go_at_call 83; refine (spec_l1In _ _ _ _).mono ?_; rintro r w1 ⟨rfl, rfl⟩; rw [H1.out])
    go_ret
    exact ⟨by rw [H.out]; rfl, (by repeat (first | exact Below.refl _ _ | assumption | (refine Below.drew ?_) | (refine below_drewN ?_ _) | (refine Below.alloc ?_ (by first | omega | (simp; done) | (simp; omega)) _) | (refine Below.setCell ?_ (by first | omega | (simp; done) | (simp; omega)) _)))⟩
  · cases h2 : inB e 0 1000000
    · have H := Lib.hid (ringB_no (z := z) (e := e) (n := d.size) (by intro h; rw [inB_yes ⟨h.2.2.1, h.2.2.2.1⟩] at h2; cases h2))
      have H1 := Lib.hid h1; have H2 := Lib.hid h2; clear h1 h2
      go_enter Try.func24, Try.ntmps24
      go_wp2_with (first | (go_at_call 83; refine (spec_l1In _ _ _ _).mono ?_; rintro r w1 ⟨rfl, rfl⟩; first | rw [H1.out] | rw [H2.out]))
      go_ret
      exact ⟨by rw [H.out]; rfl, (by repeat (first | exact Below.refl _ _ | assumption | (refine Below.drew ?_) | (refine below_drewN ?_ _) | (refine Below.alloc ?_ (by first | omega | (simp; done) | (simp; omega)) _) | (refine Below.setCell ?_ (by first | omega | (simp; done) | (simp; omega)) _)))⟩
    · have g1 := inB_iff.1 h1
      have g2 := inB_iff.1 h2
      have H1 := Lib.hid h1; have H2 := Lib.hid h2; clear h1 h2
      by_cases hze : z ≤ e
      · by_cases h3 : (d.size : Int) ≤ z
        · have H := Lib.hid (ringB_yes (z := z) (e := e) (n := d.size) (by omega))
          go_enter Try.func24, Try.ntmps24
          go_wp2_with (first | (go_at_call 83; refine (spec_l1In _ _ _ _).mono ?_; rintro r w1 ⟨rfl, rfl⟩; first | rw [H1.out] | rw [H2.out]))
          go_ret
          exact ⟨by rw [H.out]; rfl, (by repeat (first | exact Below.refl _ _ | assumption | (refine Below.drew ?_) | (refine below_drewN ?_ _) | (refine Below.alloc ?_ (by first | omega | (simp; done) | (simp; omega)) _) | (refine Below.setCell ?_ (by first | omega | (simp; done) | (simp; omega)) _)))⟩
        · have hq : decide ((d.size : Int) ≤ z) = false := by simpa using h3
          have H := Lib.hid (ringB_no (z := z) (e := e) (n := d.size) (by omega))
          go_enter Try.func24, Try.ntmps24
          go_wp2_with (first | (go_at_call 83; refine (spec_l1In _ _ _ _).mono ?_; rintro r w1 ⟨rfl, rfl⟩; first | rw [H1.out] | rw [H2.out]))
          go_ret
          exact ⟨by rw [H.out]; rfl, (by repeat (first | exact Below.refl _ _ | assumption | (refine Below.drew ?_) | (refine below_drewN ?_ _) | (refine Below.alloc ?_ (by first | omega | (simp; done) | (simp; omega)) _) | (refine Below.setCell ?_ (by first | omega | (simp; done) | (simp; omega)) _)))⟩
      · by_cases h3 : (d.size : Int) ≤ e
        · have H := Lib.hid (ringB_yes (z := z) (e := e) (n := d.size) (by omega))
          go_enter Try.func24, Try.ntmps24
          go_wp2_with (first | (go_at_call 83; refine (spec_l1In _ _ _ _).mono ?_; rintro r w1 ⟨rfl, rfl⟩; first | rw [H1.out] | rw [H2.out]))
          go_ret
          exact ⟨by rw [H.out]; rfl, (by repeat (first | exact Below.refl _ _ | assumption | (refine Below.drew ?_) | (refine below_drewN ?_ _) | (refine Below.alloc ?_ (by first | omega | (simp; done) | (simp; omega)) _) | (refine Below.setCell ?_ (by first | omega | (simp; done) | (simp; omega)) _)))⟩
        · have hq : decide ((d.size : Int) ≤ e) = false := by simpa using h3
          have H := Lib.hid (ringB_no (z := z) (e := e) (n := d.size) (by omega))
          go_enter Try.func24, Try.ntmps24
          go_wp2_with (first | (go_at_call 83; refine (spec_l1In _ _ _ _).mono ?_; rintro r w1 ⟨rfl, rfl⟩; first | rw [H1.out] | rw [H2.out]))
          go_ret
          exact ⟨by rw [H.out]; rfl, (by repeat (first | exact Below.refl _ _ | assumption | (refine Below.drew ?_) | (refine below_drewN ?_ _) | (refine Below.alloc ?_ (by first | omega | (simp; done) | (simp; omega)) _) | (refine Below.setCell ?_ (by first | omega | (simp; done) | (simp; omega)) _)))⟩
theorem impl_start (z e : Int) (d : ByteArray) (w : World) (hd : d.size ≤ 1048576) (h0 : 0 ≤ e) (h1 : e ≤ 1000000) :
    Calls Try.prog 78 #[.agg #[.int .i64 z, .int .i64 e, .string d]] w fun r w' => r = .returned (.int .i64 (e - d.size)) ∧ Below w.heap.size w w' := by
  go_enter Try.func78, Try.ntmps78
  go_wp2
  go_ret
  exact ⟨rfl, (by repeat (first | exact Below.refl _ _ | assumption | (refine Below.drew ?_) | (refine below_drewN ?_ _) | (refine Below.alloc ?_ (by first | omega | (simp; done) | (simp; omega)) _) | (refine Below.setCell ?_ (by first | omega | (simp; done) | (simp; omega)) _)))⟩
theorem laws_toRing (z e : Int) (d : ByteArray) (w : World) :
    Calls Try.prog 29 #[.agg #[.int .i64 z, .int .i64 e, .string d]] w fun r w' => r = .returned (.agg #[.int .i64 z, .int .i64 e, .string d]) ∧ Below w.heap.size w w' := by
  go_enter Try.func29, Try.ntmps29
  go_wp2
  exact bodyPost_ret (v := .agg #[.int .i64 z, .int .i64 e, .string d]) (by simp [results, Try.results29, go_sem]) rfl ⟨rfl, (by repeat (first | exact Below.refl _ _ | assumption | (refine Below.drew ?_) | (refine below_drewN ?_ _) | (refine Below.alloc ?_ (by first | omega | (simp; done) | (simp; omega)) _) | (refine Below.setCell ?_ (by first | omega | (simp; done) | (simp; omega)) _)))⟩
theorem laws_szRing (z e : Int) (d : ByteArray) (n : Int) (w : World) (hd : d.size ≤ 9223372036854775807) (h0 : 0 ≤ n) (h1 : n ≤ 1048576) :
    Calls Try.prog 28 #[.agg #[.int .i64 z, .int .i64 e, .string d], .int .i64 n] w fun r w' => r = .returned (.int .i64 (szI n d.size)) ∧ Below w.heap.size w w' := by
  by_cases h : (d.size : Int) ≤ n
  · have H := Lib.hid (szI_yes h)
    go_enter Try.func28, Try.ntmps28
    go_wp2
    go_ret
    exact ⟨by rw [H.out]; rfl, (by repeat (first | exact Below.refl _ _ | assumption | (refine Below.drew ?_) | (refine below_drewN ?_ _) | (refine Below.alloc ?_ (by first | omega | (simp; done) | (simp; omega)) _) | (refine Below.setCell ?_ (by first | omega | (simp; done) | (simp; omega)) _)))⟩
  · have H := Lib.hid (szI_no h)
    go_enter Try.func28, Try.ntmps28
    go_wp2
    go_ret
    exact ⟨by rw [H.out]; rfl, (by repeat (first | exact Below.refl _ _ | assumption | (refine Below.drew ?_) | (refine below_drewN ?_ _) | (refine Below.alloc ?_ (by first | omega | (simp; done) | (simp; omega)) _) | (refine Below.setCell ?_ (by first | omega | (simp; done) | (simp; omega)) _)))⟩
theorem laws_eqRing (z e : Int) (d : ByteArray) (w : World) :
    Calls Try.prog 30 #[.agg #[.int .i64 z, .int .i64 e, .string d], .agg #[.int .i64 z, .int .i64 e, .string d]] w fun r w' => r = .returned (.bool true) ∧ Below w.heap.size w w' := by
  have e0 : (z != z) = false := by simp
  have e1 : (e != e) = false := by simp
  have e2 : (d.toList != d.toList) = false := by simp
  go_enter Try.func30, Try.ntmps30
  go_wp2
  go_ret
  exact ⟨rfl, (by repeat (first | exact Below.refl _ _ | assumption | (refine Below.drew ?_) | (refine below_drewN ?_ _) | (refine Below.alloc ?_ (by first | omega | (simp; done) | (simp; omega)) _) | (refine Below.setCell ?_ (by first | omega | (simp; done) | (simp; omega)) _)))⟩
/-- what RingNew answers -/
def rnZ (z e : Int) : Int := if ringB z e 0 then z else 0
def rnE (z e : Int) : Int := if ringB z e 0 then e else 0
set_option maxHeartbeats 1000000 in
theorem impl_ringNew (z e : Int) (w : World) :
    Calls Try.prog 21 #[.int .i64 z, .int .i64 e] w fun r w' => r = .returned (.tuple #[.agg #[.int .i64 (rnZ z e), .int .i64 (rnE z e), .string ⟨#[]⟩], .bool (ringB z e 0)]) ∧ Below w.heap.size w w' := by
  cases hp : ringB z e 0
  · have HZ := Lib.hid (show rnZ z e = 0 by unfold rnZ; rw [hp]; rfl)
    have HE := Lib.hid (show rnE z e = 0 by unfold rnE; rw [hp]; rfl)
    have HP := Lib.hid (show ringB z e (⟨#[]⟩ : ByteArray).size = false from hp); clear hp
    go_enter Try.func21, Try.ntmps21
    go_wp2_with (go_at_call 23; refine (impl_ringOk _ _ _ _ (by decide)).mono ?_; rintro r w1 ⟨rfl, hb1⟩; rw [HP.out]; obtain ⟨hc_w1, hf_w1⟩ := bcell hb1; have HT_w1 : Below w.heap.size w w1 := below_step (by repeat (first | exact Below.refl _ _ | assumption | (refine Below.drew ?_) | (refine below_drewN ?_ _) | (refine Below.alloc ?_ (by first | omega | (simp; done) | (simp; omega)) _) | (refine Below.setCell ?_ (by first | omega | (simp; done) | (simp; omega)) _))) hb1; have hy0_w1 : w.heap.size < w1.heap.size := (by have h1 := hb1.size; (try simp at h1); omega); have hy1_w1 : w.heap.size + 1 < w1.heap.size := (by have h1 := hb1.size; (try simp at h1); omega); have rP := (hb1.block w.heap.size (by simp; omega)).trans (heap_alloc2_old w _ _); have p0 : w1.cell? ⟨w.heap.size, 0, none⟩ = some (.int .i64 0) := (by rw [cell_of_row _ _ 0 _ _ _ rP]; rfl); have p1 : w1.cell? ⟨w.heap.size, 1, none⟩ = some (.int .i64 0) := (by rw [cell_of_row _ _ 1 _ _ _ rP]; rfl); have p2 : w1.cell? ⟨w.heap.size, 2, none⟩ = some (.string ⟨#[]⟩) := (by rw [cell_of_row _ _ 2 _ _ _ rP]; rfl); have g0 := frozen_of_row _ _ 0 _ _ rP; have g1 := frozen_of_row _ _ 1 _ _ rP; have g2 := frozen_of_row _ _ 2 _ _ rP)
    exact bodyPost_ret (v := .tuple #[.agg #[.int .i64 0, .int .i64 0, .string ⟨#[]⟩], .bool false]) (by simp [results, Try.results21, go_sem, p0, p1, p2]) rfl ⟨by rw [HZ.out, HE.out], below_set3 HT_w1 (Nat.le_refl _) _ _ _⟩
  · have HZ := Lib.hid (show rnZ z e = z by unfold rnZ; rw [hp]; rfl)
    have HE := Lib.hid (show rnE z e = e by unfold rnE; rw [hp]; rfl)
    have HP := Lib.hid (show ringB z e (⟨#[]⟩ : ByteArray).size = true from hp); clear hp
    go_enter Try.func21, Try.ntmps21
    go_wp2_with (go_at_call 23; refine (impl_ringOk _ _ _ _ (by decide)).mono ?_; rintro r w1 ⟨rfl, hb1⟩; rw [HP.out]; obtain ⟨hc_w1, hf_w1⟩ := bcell hb1; have HT_w1 : Below w.heap.size w w1 := below_step (by repeat (first | exact Below.refl _ _ | assumption | (refine Below.drew ?_) | (refine below_drewN ?_ _) | (refine Below.alloc ?_ (by first | omega | (simp; done) | (simp; omega)) _) | (refine Below.setCell ?_ (by first | omega | (simp; done) | (simp; omega)) _))) hb1; have hy0_w1 : w.heap.size < w1.heap.size := (by have h1 := hb1.size; (try simp at h1); omega); have hy1_w1 : w.heap.size + 1 < w1.heap.size := (by have h1 := hb1.size; (try simp at h1); omega); have rP := (hb1.block w.heap.size (by simp; omega)).trans (heap_alloc2_old w _ _); have p0 : w1.cell? ⟨w.heap.size, 0, none⟩ = some (.int .i64 0) := (by rw [cell_of_row _ _ 0 _ _ _ rP]; rfl); have p1 : w1.cell? ⟨w.heap.size, 1, none⟩ = some (.int .i64 0) := (by rw [cell_of_row _ _ 1 _ _ _ rP]; rfl); have p2 : w1.cell? ⟨w.heap.size, 2, none⟩ = some (.string ⟨#[]⟩) := (by rw [cell_of_row _ _ 2 _ _ _ rP]; rfl); have g0 := frozen_of_row _ _ 0 _ _ rP; have g1 := frozen_of_row _ _ 1 _ _ rP; have g2 := frozen_of_row _ _ 2 _ _ rP)
    exact bodyPost_ret (v := .tuple #[.agg #[.int .i64 z, .int .i64 e, .string ⟨#[]⟩], .bool true]) (by simp [results, Try.results21, go_sem, p0, p1, p2]) rfl ⟨by rw [HZ.out, HE.out], below_set3 HT_w1 (Nat.le_refl _) _ _ _⟩
set_option maxHeartbeats 1000000 in
theorem spec_ringNew (z e : Int) (w : World) :
    Calls Try.prog 22 #[.int .i64 z, .int .i64 e] w fun r w' => r = .returned (.tuple #[.agg #[.int .i64 (rnZ z e), .int .i64 (rnE z e), .string ⟨#[]⟩], .bool (ringB z e 0)]) ∧ Below w.heap.size w w' := by
  cases hp : ringB z e 0
  · have HZ := Lib.hid (show rnZ z e = 0 by unfold rnZ; rw [hp]; rfl)
    have HE := Lib.hid (show rnE z e = 0 by unfold rnE; rw [hp]; rfl)
    have HP := Lib.hid (show ringB z e (⟨#[]⟩ : ByteArray).size = false from hp); clear hp
    go_enter Try.func22, Try.ntmps22
    go_wp2_with (go_at_call 24; refine (spec_ringOk _ _ _ _ (by decide)).mono ?_; rintro r w1 ⟨rfl, hb1⟩; rw [HP.out]; obtain ⟨hc_w1, hf_w1⟩ := bcell hb1; have HT_w1 : Below w.heap.size w w1 := below_step (by repeat (first | exact Below.refl _ _ | assumption | (refine Below.drew ?_) | (refine below_drewN ?_ _) | (refine Below.alloc ?_ (by first | omega | (simp; done) | (simp; omega)) _) | (refine Below.setCell ?_ (by first | omega | (simp; done) | (simp; omega)) _))) hb1; have hy0_w1 : w.heap.size < w1.heap.size := (by have h1 := hb1.size; (try simp at h1); omega); have hy1_w1 : w.heap.size + 1 < w1.heap.size := (by have h1 := hb1.size; (try simp at h1); omega); have rP := (hb1.block w.heap.size (by simp; omega)).trans (heap_alloc2_old w _ _); have p0 : w1.cell? ⟨w.heap.size, 0, none⟩ = some (.int .i64 0) := (by rw [cell_of_row _ _ 0 _ _ _ rP]; rfl); have p1 : w1.cell? ⟨w.heap.size, 1, none⟩ = some (.int .i64 0) := (by rw [cell_of_row _ _ 1 _ _ _ rP]; rfl); have p2 : w1.cell? ⟨w.heap.size, 2, none⟩ = some (.string ⟨#[]⟩) := (by rw [cell_of_row _ _ 2 _ _ _ rP]; rfl); have g0 := frozen_of_row _ _ 0 _ _ rP; have g1 := frozen_of_row _ _ 1 _ _ rP; have g2 := frozen_of_row _ _ 2 _ _ rP)
    exact bodyPost_ret (v := .tuple #[.agg #[.int .i64 0, .int .i64 0, .string ⟨#[]⟩], .bool false]) (by simp [results, Try.results22, go_sem, p0, p1, p2]) rfl ⟨by rw [HZ.out, HE.out], below_set3 HT_w1 (Nat.le_refl _) _ _ _⟩
  · have HZ := Lib.hid (show rnZ z e = z by unfold rnZ; rw [hp]; rfl)
    have HE := Lib.hid (show rnE z e = e by unfold rnE; rw [hp]; rfl)
    have HP := Lib.hid (show ringB z e (⟨#[]⟩ : ByteArray).size = true from hp); clear hp
    go_enter Try.func22, Try.ntmps22
    go_wp2_with (go_at_call 24; refine (spec_ringOk _ _ _ _ (by decide)).mono ?_; rintro r w1 ⟨rfl, hb1⟩; rw [HP.out]; obtain ⟨hc_w1, hf_w1⟩ := bcell hb1; have HT_w1 : Below w.heap.size w w1 := below_step (by repeat (first | exact Below.refl _ _ | assumption | (refine Below.drew ?_) | (refine below_drewN ?_ _) | (refine Below.alloc ?_ (by first | omega | (simp; done) | (simp; omega)) _) | (refine Below.setCell ?_ (by first | omega | (simp; done) | (simp; omega)) _))) hb1; have hy0_w1 : w.heap.size < w1.heap.size := (by have h1 := hb1.size; (try simp at h1); omega); have hy1_w1 : w.heap.size + 1 < w1.heap.size := (by have h1 := hb1.size; (try simp at h1); omega); have rP := (hb1.block w.heap.size (by simp; omega)).trans (heap_alloc2_old w _ _); have p0 : w1.cell? ⟨w.heap.size, 0, none⟩ = some (.int .i64 0) := (by rw [cell_of_row _ _ 0 _ _ _ rP]; rfl); have p1 : w1.cell? ⟨w.heap.size, 1, none⟩ = some (.int .i64 0) := (by rw [cell_of_row _ _ 1 _ _ _ rP]; rfl); have p2 : w1.cell? ⟨w.heap.size, 2, none⟩ = some (.string ⟨#[]⟩) := (by rw [cell_of_row _ _ 2 _ _ _ rP]; rfl); have g0 := frozen_of_row _ _ 0 _ _ rP; have g1 := frozen_of_row _ _ 1 _ _ rP; have g2 := frozen_of_row _ _ 2 _ _ rP)
    exact bodyPost_ret (v := .tuple #[.agg #[.int .i64 z, .int .i64 e, .string ⟨#[]⟩], .bool true]) (by simp [results, Try.results22, go_sem, p0, p1, p2]) rfl ⟨by rw [HZ.out, HE.out], below_set3 HT_w1 (Nat.le_refl _) _ _ _⟩
set_option maxHeartbeats 1000000 in
theorem law_FnExactRingOk (z : Int) (_wz : (Lit.int .i64 z).wf = true) (e : Int) (_we : (Lit.int .i64 e).wf = true) (d : ByteArray) (hd : d.size ≤ maxLen) (w : World) :
    Calls Try.prog 5 #[.agg #[.int .i64 z, .int .i64 e, .string d]] w fun r w' => r = .returned (.bool true) ∧ Below w.heap.size w w' := by
  unfold maxLen at hd
  by_cases hbig : (d.size : Int) ≤ 1048576
  · go_enter Try.func5, Try.ntmps5
    have H := Lib.hid (szI_yes hbig)
    go_wp2_with (first
      | (go_at_call 28; refine (laws_szRing _ _ _ _ _ (by omega) (by omega) (by omega)).mono ?_; rintro r w1 ⟨rfl, hb1⟩; obtain ⟨hc1, hf1⟩ := bcell hb1; have hz1 : w.heap.size < w1.heap.size := (by have := hb1.size; (try simp at this); omega); have HB1 : Below w.heap.size w w1 := below_step (by repeat (first | exact Below.refl _ _ | assumption | (refine Below.drew ?_) | (refine below_drewN ?_ _) | (refine Below.alloc ?_ (by first | omega | (simp; done) | (simp; omega)) _) | (refine Below.setCell ?_ (by first | omega | (simp; done) | (simp; omega)) _))) hb1; rw [H.out])
      | (go_at_call 29; refine (laws_toRing _ _ _ _).mono ?_; rintro r w1 ⟨rfl, hb1⟩; obtain ⟨hc1, hf1⟩ := bcell hb1; have hz1 : w.heap.size < w1.heap.size := (by have := hb1.size; (try simp at this); omega); have HB1 : Below w.heap.size w w1 := below_step (by repeat (first | exact Below.refl _ _ | assumption | (refine Below.drew ?_) | (refine below_drewN ?_ _) | (refine Below.alloc ?_ (by first | omega | (simp; done) | (simp; omega)) _) | (refine Below.setCell ?_ (by first | omega | (simp; done) | (simp; omega)) _))) hb1)
      | (go_at_call 23; refine (impl_ringOk _ _ _ _ (by omega)).mono ?_; rintro r w1 ⟨rfl, hb1⟩; obtain ⟨hc1, hf1⟩ := bcell hb1; have hz1 : w.heap.size < w1.heap.size := (by have := hb1.size; (try simp at this); omega); have HB1 : Below w.heap.size w w1 := below_step (by repeat (first | exact Below.refl _ _ | assumption | (refine Below.drew ?_) | (refine below_drewN ?_ _) | (refine Below.alloc ?_ (by first | omega | (simp; done) | (simp; omega)) _) | (refine Below.setCell ?_ (by first | omega | (simp; done) | (simp; omega)) _))) hb1)
      | (go_at_call 24; refine (spec_ringOk _ _ _ _ (by omega)).mono ?_; rintro r w1 ⟨rfl, hb1⟩; obtain ⟨hc1, hf1⟩ := bcell hb1; have hz1 : w.heap.size < w1.heap.size := (by have := hb1.size; (try simp at this); omega); have HB1 : Below w.heap.size w w1 := below_step (by repeat (first | exact Below.refl _ _ | assumption | (refine Below.drew ?_) | (refine below_drewN ?_ _) | (refine Below.alloc ?_ (by first | omega | (simp; done) | (simp; omega)) _) | (refine Below.setCell ?_ (by first | omega | (simp; done) | (simp; omega)) _))) hb1))
    go_ret
    exact ⟨rfl, HB1⟩
  · go_enter Try.func5, Try.ntmps5
    have H := Lib.hid (szI_no hbig)
    go_wp2_with (go_at_call 28; refine (laws_szRing _ _ _ _ _ (by omega) (by omega) (by omega)).mono ?_; rintro r w1 ⟨rfl, hb1⟩; obtain ⟨hc1, hf1⟩ := bcell hb1; have hz1 : w.heap.size < w1.heap.size := (by have := hb1.size; (try simp at this); omega); have HB1 : Below w.heap.size w w1 := below_step (by repeat (first | exact Below.refl _ _ | assumption | (refine Below.drew ?_) | (refine below_drewN ?_ _) | (refine Below.alloc ?_ (by first | omega | (simp; done) | (simp; omega)) _) | (refine Below.setCell ?_ (by first | omega | (simp; done) | (simp; omega)) _))) hb1; rw [H.out])
    go_ret
    exact ⟨rfl, HB1⟩
set_option maxHeartbeats 1000000 in
theorem law_FnExactRingNew (z : Int) (_wz : (Lit.int .i64 z).wf = true) (e : Int) (_we : (Lit.int .i64 e).wf = true) (w : World) :
    Calls Try.prog 6 #[.int .i64 z, .int .i64 e] w fun r w' => r = .returned (.bool true) ∧ Below w.heap.size w w' := by
  have eb : (ringB z e 0 != ringB z e 0) = false := by simp
  go_enter Try.func6, Try.ntmps6
  go_wp2_with fail
  refine (spec_ringNew _ _ _).mono ?_
  rintro r w1 ⟨rfl, hb1⟩
  have hs1 := hb1.size
  go_wp2_with fail
  refine (impl_ringNew _ _ _).mono ?_
  rintro r w2 ⟨rfl, hb2⟩
  obtain ⟨hc_w2, hf_w2⟩ := bcell hb2; have HT_w2 : Below w.heap.size w w2 := below_step (by repeat (first | exact Below.refl _ _ | assumption | (refine Below.drew ?_) | (refine below_drewN ?_ _) | (refine Below.alloc ?_ (by first | omega | (simp; done) | (simp; omega)) _) | (refine Below.setCell ?_ (by first | omega | (simp; done) | (simp; omega)) _))) hb2; have hz_w1_w2 : w1.heap.size < w2.heap.size := (by have h1 := hb2.size; (try simp at h1); omega)
  go_wp2_with fail
  refine (laws_eqRing _ _ _ _).mono ?_
  rintro r w3 ⟨rfl, hb3⟩
  obtain ⟨hc_w3, hf_w3⟩ := bcell hb3; have HT_w3 : Below w.heap.size w w3 := below_step (by repeat (first | exact Below.refl _ _ | assumption | (refine Below.drew ?_) | (refine below_drewN ?_ _) | (refine Below.alloc ?_ (by first | omega | (simp; done) | (simp; omega)) _) | (refine Below.setCell ?_ (by first | omega | (simp; done) | (simp; omega)) _))) hb3; have hz_w_w3 : w.heap.size < w3.heap.size := (by have h1 := hb3.size; (try simp at h1); omega)
  go_wp2_with fail
  go_ret
  exact ⟨rfl, HT_w3⟩
end Go.Proofs.Ytglldmfhjipacaa

/-
  Chapter 8: WindowOf: its contracts, in the program and in its model; the walk of FnExactWindowOf.
-/
import Derived.Test.YtgocfpdodbhcaabL2Pat
import Derived.Test.YtgocfpdodbhcaabL3Ok
namespace Go.Proofs.Ytgocfpdodbhcaab
open Go.RowKit
set_option linter.unusedVariables false
set_option maxRecDepth 100000
def windowOk (s : ByteArray) (k at' : Int) (x : ByteArray) (e : Int) : Prop := patOk s k = true ∧ 0 ≤ at' ∧ at' ≤ (s.size : Int) - x.size ∧ (x.size : Int) ≤ e ∧ e ≤ 1000000
instance (s : ByteArray) (k at' : Int) (x : ByteArray) (e : Int) : Decidable (windowOk s k at' x e) := by unfold windowOk; infer_instance
def winFrom (k at' : Int) (x : ByteArray) (e : Int) : Int := if e - x.size - at' - k ≤ 0 then 0 else e - x.size - at' - k
def winTo (s : ByteArray) (k at' : Int) (x : ByteArray) (e : Int) : Int := e + s.size - at' - x.size + k
def wFrom (s : ByteArray) (k at' : Int) (x : ByteArray) (e : Int) : Int := if windowOk s k at' x e then winFrom k at' x e else 0
def wTo (s : ByteArray) (k at' : Int) (x : ByteArray) (e : Int) : Int := if windowOk s k at' x e then winTo s k at' x e else 0
def windowV (s : ByteArray) (k at' : Int) (x : ByteArray) (e : Int) : Value := .agg #[.int .i64 (wFrom s k at' x e), .int .i64 (wTo s k at' x e)]
theorem windowV_no {s : ByteArray} {k at' : Int} {x : ByteArray} {e : Int} (h : ¬ windowOk s k at' x e) : windowV s k at' x e = .agg #[.int .i64 0, .int .i64 0] := by
  unfold windowV wFrom wTo; rw [if_neg h, if_neg h]
theorem windowV_yes {s : ByteArray} {k at' : Int} {x : ByteArray} {e : Int} (h : windowOk s k at' x e) : windowV s k at' x e = .agg #[.int .i64 (winFrom k at' x e), .int .i64 (winTo s k at' x e)] := by
  unfold windowV wFrom wTo; rw [if_pos h, if_pos h]
set_option maxHeartbeats 4000000 in
theorem impl_windowOf (s : ByteArray) (k : Int) (f : Bool) (at' : Int) (x : ByteArray) (e : Int) (w : World) (hs : s.size ≤ 1048576) (hx : x.size ≤ 1048576) :
    Calls Try.prog 61 #[.agg #[.string s, .int .i64 k, .bool f], .agg #[.int .i64 at', .string x], .int .i64 e] w fun r w' => r = .returned (windowV s k at' x e) ∧ Below w.heap.size w w' := by
  by_cases hok : windowOk s k at' x e
  · have HV0 := Lib.hid (windowV_yes hok)
    obtain ⟨hp, h0, h1, h2, h3⟩ := hok
    obtain ⟨hs0, hs1, hk0, hk1⟩ := (patOk_iff s k).1 hp
    have HP := Lib.hid hp; clear hp
    obtain ⟨T, hT⟩ : ∃ T, winTo s k at' x e = T := ⟨_, rfl⟩
    have hT2 : e + ((s.size : Int) - at' - x.size) + k = T := by rw [← hT]; unfold winTo; omega
    rcases Int.lt_trichotomy (e - x.size - at' - k) 0 with hm | hm | hm
    · have HV := Lib.hid (show windowV s k at' x e = .agg #[.int .i64 0, .int .i64 (e + ((s.size : Int) - at' - x.size) + k)] by rw [HV0.out, hT, hT2]; unfold winFrom; rw [if_pos (by omega)])
      clear HV0 hT hT2
      go_enter Try.func61, Try.ntmps61
      go_wp2_with fail
      go_quiet (fail)
      go_wp2_with (go_at_call 102; refine (impl_patternOk _ _ _ _ (by omega)).mono ?_; rintro r w1 ⟨rfl, hb1⟩; rw [HP.out]; obtain ⟨hc1, hf1⟩ := bcell hb1; have hz1 : w.heap.size < w1.heap.size := (by have := hb1.size; (try simp at this); omega); have HB1 : Below w.heap.size w w1 := below_step (by repeat (first | exact Below.refl _ _ | assumption | (refine Below.drew ?_) | (refine below_drewN ?_ _) | (refine Below.alloc ?_ (by first | omega | (simp; done) | (simp; omega)) _) | (refine Below.setCell ?_ (by first | omega | (simp; done) | (simp; omega)) _))) hb1)
      exact bodyPost_ret (v := .agg #[.int .i64 (0), .int .i64 (e + ((s.size : Int) - at' - x.size) + k)]) (by simp [results, Try.results61, go_sem, hc1]) rfl ⟨by rw [HV.out], (HB1.setCell (p := ⟨w.heap.size + 2, 0, none⟩) (Nat.le_add_right _ _) _).setCell (p := ⟨w.heap.size + 2, 1, none⟩) (Nat.le_add_right _ _) _⟩
    · have HV := Lib.hid (show windowV s k at' x e = .agg #[.int .i64 0, .int .i64 (e + ((s.size : Int) - at' - x.size) + k)] by rw [HV0.out, hT, hT2]; unfold winFrom; rw [if_pos (by omega)])
      clear HV0 hT hT2
      go_enter Try.func61, Try.ntmps61
      go_wp2_with fail
      go_quiet (fail)
      go_wp2_with (go_at_call 102; refine (impl_patternOk _ _ _ _ (by omega)).mono ?_; rintro r w1 ⟨rfl, hb1⟩; rw [HP.out]; obtain ⟨hc1, hf1⟩ := bcell hb1; have hz1 : w.heap.size < w1.heap.size := (by have := hb1.size; (try simp at this); omega); have HB1 : Below w.heap.size w w1 := below_step (by repeat (first | exact Below.refl _ _ | assumption | (refine Below.drew ?_) | (refine below_drewN ?_ _) | (refine Below.alloc ?_ (by first | omega | (simp; done) | (simp; omega)) _) | (refine Below.setCell ?_ (by first | omega | (simp; done) | (simp; omega)) _))) hb1)
      exact bodyPost_ret (v := .agg #[.int .i64 (0), .int .i64 (e + ((s.size : Int) - at' - x.size) + k)]) (by simp [results, Try.results61, go_sem, hc1]) rfl ⟨by rw [HV.out], (HB1.setCell (p := ⟨w.heap.size + 2, 0, none⟩) (Nat.le_add_right _ _) _).setCell (p := ⟨w.heap.size + 2, 1, none⟩) (Nat.le_add_right _ _) _⟩
    · have HV := Lib.hid (show windowV s k at' x e = .agg #[.int .i64 (e - x.size - at' - k), .int .i64 (e + ((s.size : Int) - at' - x.size) + k)] by rw [HV0.out, hT, hT2]; unfold winFrom; rw [if_neg (by omega)])
      clear HV0 hT hT2
      go_enter Try.func61, Try.ntmps61
      go_wp2_with fail
      go_quiet (fail)
      go_wp2_with (go_at_call 102; refine (impl_patternOk _ _ _ _ (by omega)).mono ?_; rintro r w1 ⟨rfl, hb1⟩; rw [HP.out]; obtain ⟨hc1, hf1⟩ := bcell hb1; have hz1 : w.heap.size < w1.heap.size := (by have := hb1.size; (try simp at this); omega); have HB1 : Below w.heap.size w w1 := below_step (by repeat (first | exact Below.refl _ _ | assumption | (refine Below.drew ?_) | (refine below_drewN ?_ _) | (refine Below.alloc ?_ (by first | omega | (simp; done) | (simp; omega)) _) | (refine Below.setCell ?_ (by first | omega | (simp; done) | (simp; omega)) _))) hb1)
      exact bodyPost_ret (v := .agg #[.int .i64 (e - x.size - at' - k), .int .i64 (e + ((s.size : Int) - at' - x.size) + k)]) (by simp [results, Try.results61, go_sem, hc1]) rfl ⟨by rw [HV.out], (HB1.setCell (p := ⟨w.heap.size + 2, 0, none⟩) (Nat.le_add_right _ _) _).setCell (p := ⟨w.heap.size + 2, 1, none⟩) (Nat.le_add_right _ _) _⟩
  · have HV := Lib.hid (windowV_no hok)
    cases hp : patOk s k
    · have HP := Lib.hid hp; clear hp hok
      go_enter Try.func61, Try.ntmps61
      go_wp2_with fail
      go_quiet (fail)
      go_wp2_with (go_at_call 102; refine (impl_patternOk _ _ _ _ (by omega)).mono ?_; rintro r w1 ⟨rfl, hb1⟩; rw [HP.out]; obtain ⟨hc1, hf1⟩ := bcell hb1; have hz1 : w.heap.size < w1.heap.size := (by have := hb1.size; (try simp at this); omega); have HB1 : Below w.heap.size w w1 := below_step (by repeat (first | exact Below.refl _ _ | assumption | (refine Below.drew ?_) | (refine below_drewN ?_ _) | (refine Below.alloc ?_ (by first | omega | (simp; done) | (simp; omega)) _) | (refine Below.setCell ?_ (by first | omega | (simp; done) | (simp; omega)) _))) hb1)
      exact bodyPost_ret (v := .agg #[.int .i64 (0), .int .i64 (0)]) (by simp [results, Try.results61, go_sem, hc1]) rfl ⟨by rw [HV.out], (HB1.setCell (p := ⟨w.heap.size + 2, 0, none⟩) (Nat.le_add_right _ _) _).setCell (p := ⟨w.heap.size + 2, 1, none⟩) (Nat.le_add_right _ _) _⟩
    · have HP := Lib.hid hp
      by_cases h0 : 0 ≤ at'
      · by_cases h1 : at' ≤ (s.size : Int) - x.size
        · by_cases h2 : (x.size : Int) ≤ e
          · have h3 : ¬ e ≤ 1000000 := fun h3 => hok ⟨hp, h0, h1, h2, h3⟩
            have d1 : decide ((s.size : Int) - x.size < at') = false := by simp; omega
            have d3 : decide (1000000 < e) = true := by simp; omega
            clear hp hok
            go_enter Try.func61, Try.ntmps61
            go_wp2_with fail
            go_quiet (fail)
            go_wp2_with (go_at_call 102; refine (impl_patternOk _ _ _ _ (by omega)).mono ?_; rintro r w1 ⟨rfl, hb1⟩; rw [HP.out]; obtain ⟨hc1, hf1⟩ := bcell hb1; have hz1 : w.heap.size < w1.heap.size := (by have := hb1.size; (try simp at this); omega); have HB1 : Below w.heap.size w w1 := below_step (by repeat (first | exact Below.refl _ _ | assumption | (refine Below.drew ?_) | (refine below_drewN ?_ _) | (refine Below.alloc ?_ (by first | omega | (simp; done) | (simp; omega)) _) | (refine Below.setCell ?_ (by first | omega | (simp; done) | (simp; omega)) _))) hb1)
            exact bodyPost_ret (v := .agg #[.int .i64 (0), .int .i64 (0)]) (by simp [results, Try.results61, go_sem, hc1]) rfl ⟨by rw [HV.out], (HB1.setCell (p := ⟨w.heap.size + 2, 0, none⟩) (Nat.le_add_right _ _) _).setCell (p := ⟨w.heap.size + 2, 1, none⟩) (Nat.le_add_right _ _) _⟩
          · have d2 : decide (e < (x.size : Int)) = true := by simp; omega
            have d1 : decide ((s.size : Int) - x.size < at') = false := by simp; omega
            clear hp hok
            go_enter Try.func61, Try.ntmps61
            go_wp2_with fail
            go_quiet (fail)
            go_wp2_with (go_at_call 102; refine (impl_patternOk _ _ _ _ (by omega)).mono ?_; rintro r w1 ⟨rfl, hb1⟩; rw [HP.out]; obtain ⟨hc1, hf1⟩ := bcell hb1; have hz1 : w.heap.size < w1.heap.size := (by have := hb1.size; (try simp at this); omega); have HB1 : Below w.heap.size w w1 := below_step (by repeat (first | exact Below.refl _ _ | assumption | (refine Below.drew ?_) | (refine below_drewN ?_ _) | (refine Below.alloc ?_ (by first | omega | (simp; done) | (simp; omega)) _) | (refine Below.setCell ?_ (by first | omega | (simp; done) | (simp; omega)) _))) hb1)
            exact bodyPost_ret (v := .agg #[.int .i64 (0), .int .i64 (0)]) (by simp [results, Try.results61, go_sem, hc1]) rfl ⟨by rw [HV.out], (HB1.setCell (p := ⟨w.heap.size + 2, 0, none⟩) (Nat.le_add_right _ _) _).setCell (p := ⟨w.heap.size + 2, 1, none⟩) (Nat.le_add_right _ _) _⟩
        · have d1 : decide ((s.size : Int) - x.size < at') = true := by simp; omega
          clear hp hok
          go_enter Try.func61, Try.ntmps61
          go_wp2_with fail
          go_quiet (fail)
          go_wp2_with (go_at_call 102; refine (impl_patternOk _ _ _ _ (by omega)).mono ?_; rintro r w1 ⟨rfl, hb1⟩; rw [HP.out]; obtain ⟨hc1, hf1⟩ := bcell hb1; have hz1 : w.heap.size < w1.heap.size := (by have := hb1.size; (try simp at this); omega); have HB1 : Below w.heap.size w w1 := below_step (by repeat (first | exact Below.refl _ _ | assumption | (refine Below.drew ?_) | (refine below_drewN ?_ _) | (refine Below.alloc ?_ (by first | omega | (simp; done) | (simp; omega)) _) | (refine Below.setCell ?_ (by first | omega | (simp; done) | (simp; omega)) _))) hb1)
          exact bodyPost_ret (v := .agg #[.int .i64 (0), .int .i64 (0)]) (by simp [results, Try.results61, go_sem, hc1]) rfl ⟨by rw [HV.out], (HB1.setCell (p := ⟨w.heap.size + 2, 0, none⟩) (Nat.le_add_right _ _) _).setCell (p := ⟨w.heap.size + 2, 1, none⟩) (Nat.le_add_right _ _) _⟩
      · have d0 : decide (at' < 0) = true := by simp; omega
        clear hp hok
        go_enter Try.func61, Try.ntmps61
        go_wp2_with fail
        go_quiet (fail)
        go_wp2_with (go_at_call 102; refine (impl_patternOk _ _ _ _ (by omega)).mono ?_; rintro r w1 ⟨rfl, hb1⟩; rw [HP.out]; obtain ⟨hc1, hf1⟩ := bcell hb1; have hz1 : w.heap.size < w1.heap.size := (by have := hb1.size; (try simp at this); omega); have HB1 : Below w.heap.size w w1 := below_step (by repeat (first | exact Below.refl _ _ | assumption | (refine Below.drew ?_) | (refine below_drewN ?_ _) | (refine Below.alloc ?_ (by first | omega | (simp; done) | (simp; omega)) _) | (refine Below.setCell ?_ (by first | omega | (simp; done) | (simp; omega)) _))) hb1)
        exact bodyPost_ret (v := .agg #[.int .i64 (0), .int .i64 (0)]) (by simp [results, Try.results61, go_sem, hc1]) rfl ⟨by rw [HV.out], (HB1.setCell (p := ⟨w.heap.size + 2, 0, none⟩) (Nat.le_add_right _ _) _).setCell (p := ⟨w.heap.size + 2, 1, none⟩) (Nat.le_add_right _ _) _⟩
set_option maxHeartbeats 2000000 in
theorem spec_l8Window (s : ByteArray) (k : Int) (f : Bool) (at' : Int) (x : ByteArray) (e : Int) (w : World) (hs : s.size ≤ 1048576) (hx : x.size ≤ 1048576) (h0 : 0 ≤ at') (h1 : at' ≤ (s.size : Int) - x.size) (h2 : (x.size : Int) ≤ e) (h3 : e ≤ 1000000) (hk0 : 0 ≤ k) (hk1 : k ≤ 4) :
    Calls Try.prog 105 #[.agg #[.string s, .int .i64 k, .bool f], .agg #[.int .i64 at', .string x], .int .i64 e] w fun r w' => r = .returned (.agg #[.int .i64 (winFrom k at' x e), .int .i64 (winTo s k at' x e)]) ∧ Below w.heap.size w w' := by
  have hT : winTo s k at' x e = e + s.size - at' - x.size + k := rfl
  rcases Int.lt_trichotomy (e - x.size - at' - k) 0 with hm | hm | hm
  · have HF := Lib.hid (show winFrom k at' x e = 0 from if_pos (by omega)); have HT := Lib.hid hT; clear hT
    go_enter Try.func105, Try.ntmps105
    go_wp2
    exact bodyPost_ret (v := .agg #[.int .i64 0, .int .i64 (e + s.size - at' - x.size + k)]) (by simp [results, Try.results105, go_sem]) rfl ⟨by rw [HF.out, HT.out], (by repeat (first | exact Below.refl _ _ | assumption | (refine Below.drew ?_) | (refine below_drewN ?_ _) | (refine Below.alloc ?_ (by first | omega | (simp; done) | (simp; omega)) _) | (refine Below.setCell ?_ (by first | omega | (simp; done) | (simp; omega)) _)))⟩
  · have HF := Lib.hid (show winFrom k at' x e = 0 from if_pos (by omega)); have HT := Lib.hid hT; clear hT
    go_enter Try.func105, Try.ntmps105
    go_wp2
    exact bodyPost_ret (v := .agg #[.int .i64 0, .int .i64 (e + s.size - at' - x.size + k)]) (by simp [results, Try.results105, go_sem]) rfl ⟨by rw [HF.out, HT.out], (by repeat (first | exact Below.refl _ _ | assumption | (refine Below.drew ?_) | (refine below_drewN ?_ _) | (refine Below.alloc ?_ (by first | omega | (simp; done) | (simp; omega)) _) | (refine Below.setCell ?_ (by first | omega | (simp; done) | (simp; omega)) _)))⟩
  · have HF := Lib.hid (show winFrom k at' x e = e - x.size - at' - k from if_neg (by omega)); have HT := Lib.hid hT; clear hT
    go_enter Try.func105, Try.ntmps105
    go_wp2
    exact bodyPost_ret (v := .agg #[.int .i64 (e - x.size - at' - k), .int .i64 (e + s.size - at' - x.size + k)]) (by simp [results, Try.results105, go_sem]) rfl ⟨by rw [HF.out, HT.out], (by repeat (first | exact Below.refl _ _ | assumption | (refine Below.drew ?_) | (refine below_drewN ?_ _) | (refine Below.alloc ?_ (by first | omega | (simp; done) | (simp; omega)) _) | (refine Below.setCell ?_ (by first | omega | (simp; done) | (simp; omega)) _)))⟩
end Go.Proofs.Ytgocfpdodbhcaab

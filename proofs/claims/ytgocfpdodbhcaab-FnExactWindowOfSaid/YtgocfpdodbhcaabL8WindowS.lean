/-
  Chapter 8: WindowOf's model.
-/
import Derived.Test.YtgocfpdodbhcaabL8Window
namespace Go.Proofs.Ytgocfpdodbhcaab
open Go.RowKit
set_option linter.unusedVariables false
set_option maxRecDepth 100000
theorem l1In_is {n lo hi : Int} {v : Bool} (h : inB n lo hi = v) (w : World) :
    Calls Try.prog 78 #[.int .i64 n, .int .i64 lo, .int .i64 hi] w fun e w' => e = .returned (.bool v) ∧ w = w' :=
  (spec_l1In n lo hi w).mono fun _ _ h2 => ⟨by rw [h2.1, h], h2.2⟩
set_option maxHeartbeats 4000000 in
theorem spec_windowOf (s : ByteArray) (k : Int) (f : Bool) (at' : Int) (x : ByteArray) (e : Int) (w : World) (hs : s.size ≤ 1048576) (hx : x.size ≤ 1048576) :
    Calls Try.prog 59 #[.agg #[.string s, .int .i64 k, .bool f], .agg #[.int .i64 at', .string x], .int .i64 e] w fun r w' => r = .returned (windowV s k at' x e) ∧ Below w.heap.size w w' := by
  by_cases hok : windowOk s k at' x e
  · have HV := Lib.hid (windowV_yes hok)
    obtain ⟨hp, h0, h1, h2, h3⟩ := hok
    obtain ⟨hs0, hs1, hk0, hk1⟩ := (patOk_iff s k).1 hp
    have HP := Lib.hid hp; clear hp
    have HI1 := Lib.hid (inB_yes (n := at') (lo := 0) (hi := (s.size : Int) - x.size) ⟨h0, h1⟩)
    have HI2 := Lib.hid (inB_yes (n := e) (lo := x.size) (hi := 1000000) ⟨h2, h3⟩)
    go_enter Try.func59, Try.ntmps59
    go_wp2_with (first | (go_at_call 101; refine (spec_patternOk _ _ _ _ (by omega)).mono ?_; rintro r w1 ⟨rfl, hb1⟩; rw [HP.out]; obtain ⟨hc1, hf1⟩ := bcell hb1; have hz1 : w.heap.size < w1.heap.size := (by have := hb1.size; (try simp at this); omega); have HB1 : Below w.heap.size w w1 := below_step (by repeat (first | exact Below.refl _ _ | assumption | (refine Below.drew ?_) | (refine below_drewN ?_ _) | (refine Below.alloc ?_ (by first | omega | (simp; done) | (simp; omega)) _) | (refine Below.setCell ?_ (by first | omega | (simp; done) | (simp; omega)) _))) hb1) | (go_at_call 78; first | ((with_reducible refine (l1In_is HI1.out _).mono ?_); rintro r w' ⟨rfl, rfl⟩) | ((with_reducible refine (l1In_is HI2.out _).mono ?_); rintro r w' ⟨rfl, rfl⟩)) | (go_at_call 105; refine (spec_l8Window s k f at' x e _ hs hx h0 h1 h2 h3 hk0 hk1).mono ?_; rintro r w2 ⟨rfl, hb2⟩; obtain ⟨hc2, hf2⟩ := bcell hb2; have HB2 := below_step HB1 hb2; have hz2 := hb2.size; have hz1 := HB1.size; have hy1 : w.heap.size + 2 < w1.heap.size := (by have h1 := hb1.size; (try simp at h1); omega)))
    exact bodyPost_ret (v := .agg #[.int .i64 (winFrom k at' x e), .int .i64 (winTo s k at' x e)]) (by simp [results, Try.results59, go_sem, hc1, hc2, hy1]) rfl ⟨by rw [HV.out], (HB2.setCell (p := ⟨w.heap.size + 2, 0, none⟩) (Nat.le_add_right _ _) _).setCell (p := ⟨w.heap.size + 2, 1, none⟩) (Nat.le_add_right _ _) _⟩
  · have HV := Lib.hid (windowV_no hok)
    cases hp : patOk s k
    · have HP := Lib.hid hp; clear hp hok
      go_enter Try.func59, Try.ntmps59
      go_wp2_with (first | (go_at_call 101; refine (spec_patternOk _ _ _ _ (by omega)).mono ?_; rintro r w1 ⟨rfl, hb1⟩; rw [HP.out]; obtain ⟨hc1, hf1⟩ := bcell hb1; have hz1 : w.heap.size < w1.heap.size := (by have := hb1.size; (try simp at this); omega); have HB1 : Below w.heap.size w w1 := below_step (by repeat (first | exact Below.refl _ _ | assumption | (refine Below.drew ?_) | (refine below_drewN ?_ _) | (refine Below.alloc ?_ (by first | omega | (simp; done) | (simp; omega)) _) | (refine Below.setCell ?_ (by first | omega | (simp; done) | (simp; omega)) _))) hb1))
      exact bodyPost_ret (v := .agg #[.int .i64 (0), .int .i64 (0)]) (by simp [results, Try.results59, go_sem, hc1]) rfl ⟨by rw [HV.out], (HB1.setCell (p := ⟨w.heap.size + 2, 0, none⟩) (Nat.le_add_right _ _) _).setCell (p := ⟨w.heap.size + 2, 1, none⟩) (Nat.le_add_right _ _) _⟩
    · have HP := Lib.hid hp
      by_cases h0 : 0 ≤ at' ∧ at' ≤ (s.size : Int) - x.size
      · have HI1 := Lib.hid (inB_yes (n := at') (lo := 0) (hi := (s.size : Int) - x.size) h0)
        have HI2 := Lib.hid (inB_no (n := e) (lo := x.size) (hi := 1000000) (fun h => hok ⟨hp, h0.1, h0.2, h.1, h.2⟩))
        clear hp hok
        go_enter Try.func59, Try.ntmps59
        go_wp2_with (first | (go_at_call 101; refine (spec_patternOk _ _ _ _ (by omega)).mono ?_; rintro r w1 ⟨rfl, hb1⟩; rw [HP.out]; obtain ⟨hc1, hf1⟩ := bcell hb1; have hz1 : w.heap.size < w1.heap.size := (by have := hb1.size; (try simp at this); omega); have HB1 : Below w.heap.size w w1 := below_step (by repeat (first | exact Below.refl _ _ | assumption | (refine Below.drew ?_) | (refine below_drewN ?_ _) | (refine Below.alloc ?_ (by first | omega | (simp; done) | (simp; omega)) _) | (refine Below.setCell ?_ (by first | omega | (simp; done) | (simp; omega)) _))) hb1) | (go_at_call 78; first | ((with_reducible refine (l1In_is HI1.out _).mono ?_); rintro r w' ⟨rfl, rfl⟩) | ((with_reducible refine (l1In_is HI2.out _).mono ?_); rintro r w' ⟨rfl, rfl⟩)))
        exact bodyPost_ret (v := .agg #[.int .i64 (0), .int .i64 (0)]) (by simp [results, Try.results59, go_sem, hc1]) rfl ⟨by rw [HV.out], (HB1.setCell (p := ⟨w.heap.size + 2, 0, none⟩) (Nat.le_add_right _ _) _).setCell (p := ⟨w.heap.size + 2, 1, none⟩) (Nat.le_add_right _ _) _⟩
      · have HI1 := Lib.hid (inB_no (n := at') (lo := 0) (hi := (s.size : Int) - x.size) h0)
        clear hp hok
        go_enter Try.func59, Try.ntmps59
        go_wp2_with (first | (go_at_call 101; refine (spec_patternOk _ _ _ _ (by omega)).mono ?_; rintro r w1 ⟨rfl, hb1⟩; rw [HP.out]; obtain ⟨hc1, hf1⟩ := bcell hb1; have hz1 : w.heap.size < w1.heap.size := (by have := hb1.size; (try simp at this); omega); have HB1 : Below w.heap.size w w1 := below_step (by repeat (first | exact Below.refl _ _ | assumption | (refine Below.drew ?_) | (refine below_drewN ?_ _) | (refine Below.alloc ?_ (by first | omega | (simp; done) | (simp; omega)) _) | (refine Below.setCell ?_ (by first | omega | (simp; done) | (simp; omega)) _))) hb1) | (go_at_call 78; (with_reducible refine (l1In_is HI1.out _).mono ?_); rintro r w' ⟨rfl, rfl⟩))
        exact bodyPost_ret (v := .agg #[.int .i64 (0), .int .i64 (0)]) (by simp [results, Try.results59, go_sem, hc1]) rfl ⟨by rw [HV.out], (HB1.setCell (p := ⟨w.heap.size + 2, 0, none⟩) (Nat.le_add_right _ _) _).setCell (p := ⟨w.heap.size + 2, 1, none⟩) (Nat.le_add_right _ _) _⟩
theorem laws_szPiece (at' : Int) (x : ByteArray) (n : Int) (w : World) (hx : x.size ≤ 9223372036854775807) (h0 : 0 ≤ n) (h1 : n ≤ 1048576) :
    Calls Try.prog 58 #[.agg #[.int .i64 at', .string x], .int .i64 n] w fun e w' => e = .returned (.int .i64 (szI n x.size)) ∧ Below w.heap.size w w' := by
  by_cases h : (x.size : Int) ≤ n
  · have H := Lib.hid (szI_yes h)
    go_enter Try.func58, Try.ntmps58
    go_wp2
    go_ret
    exact ⟨by rw [H.out]; rfl, (by repeat (first | exact Below.refl _ _ | assumption | (refine Below.drew ?_) | (refine below_drewN ?_ _) | (refine Below.alloc ?_ (by first | omega | (simp; done) | (simp; omega)) _) | (refine Below.setCell ?_ (by first | omega | (simp; done) | (simp; omega)) _)))⟩
  · have H := Lib.hid (szI_no h)
    go_enter Try.func58, Try.ntmps58
    go_wp2
    go_ret
    exact ⟨by rw [H.out]; rfl, (by repeat (first | exact Below.refl _ _ | assumption | (refine Below.drew ?_) | (refine below_drewN ?_ _) | (refine Below.alloc ?_ (by first | omega | (simp; done) | (simp; omega)) _) | (refine Below.setCell ?_ (by first | omega | (simp; done) | (simp; omega)) _)))⟩
theorem laws_toPiece (at' : Int) (x : ByteArray) (w : World) :
    Calls Try.prog 60 #[.agg #[.int .i64 at', .string x]] w fun e w' => e = .returned (.agg #[.int .i64 at', .string x]) ∧ Below w.heap.size w w' := by
  go_enter Try.func60, Try.ntmps60
  go_wp2
  exact bodyPost_ret (v := .agg #[.int .i64 at', .string x]) (by simp [results, Try.results60, go_sem]) rfl ⟨rfl, (by repeat (first | exact Below.refl _ _ | assumption | (refine Below.drew ?_) | (refine below_drewN ?_ _) | (refine Below.alloc ?_ (by first | omega | (simp; done) | (simp; omega)) _) | (refine Below.setCell ?_ (by first | omega | (simp; done) | (simp; omega)) _)))⟩
theorem laws_eqSpan (u d : Int) (w : World) :
    Calls Try.prog 62 #[.agg #[.int .i64 u, .int .i64 d], .agg #[.int .i64 u, .int .i64 d]] w fun e w' => e = .returned (.bool true) ∧ Below w.heap.size w w' := by
  have e0 : (u != u) = false := by simp
  have e1 : (d != d) = false := by simp
  go_enter Try.func62, Try.ntmps62
  go_wp2
  go_ret
  exact ⟨rfl, (by repeat (first | exact Below.refl _ _ | assumption | (refine Below.drew ?_) | (refine below_drewN ?_ _) | (refine Below.alloc ?_ (by first | omega | (simp; done) | (simp; omega)) _) | (refine Below.setCell ?_ (by first | omega | (simp; done) | (simp; omega)) _)))⟩
end Go.Proofs.Ytgocfpdodbhcaab

/-
  Chapter 4: contracts of MyersCol; FnExactMyersCol's walk.
-/
import Derived.Test.YtgocfpdodbhcaaaL4OkL
namespace Go.Proofs.Ytgocfpdodbhcaaa
open Go.RowKit
set_option linter.unusedVariables false
set_option maxRecDepth 100000
def myColL (s : ByteArray) (k : Int) (u d t : Int) : List Int := if myOkB s k u d t then tab (colF u d) (s.size + 1) else []
theorem myOkB_parts {s : ByteArray} {k u d t : Int} (h : myOkB s k u d t = true) : s.size ≤ 20 ∧ (0 ≤ u ∧ u ≤ 1048576) ∧ (0 ≤ d ∧ d ≤ 1048576) := by
  simp only [myOkB, Bool.and_eq_true] at h
  obtain ⟨⟨hp, ⟨hu, hd⟩, _⟩, _⟩ := h
  obtain ⟨_, hs1, _, _⟩ := (patOk_iff s k).1 hp
  have p2 := pow_small s.size hs1
  have h1 : 0 ≤ u ∧ u ≤ 2 ^ s.size - 1 := by simpa [inB] using hu
  have h2 : 0 ≤ d ∧ d ≤ 2 ^ s.size - 1 := by simpa [inB] using hd
  omega
theorem impl_myersCol (s : ByteArray) (k : Int) (f : Bool) (u d t : Int) (w : World) (hs : s.size ≤ 1048576) (hu : I64 u) (hd : I64 d) :
    Calls Try.prog 52 #[.agg #[.string s, .int .i64 k, .bool f], .agg #[.int .i64 u, .int .i64 d, .int .i64 t]] w fun e w' => ∃ a n cap, e = .returned (.slice a n cap) ∧ OwnN w' w.heap.size a n cap (myColL s k u d t) ∧ Below w.heap.size w w' := by
  cases hm : myOkB s k u d t
  · have HM := Lib.hid hm
    have HR := Lib.hid (show myColL s k u d t = [] by unfold myColL; rw [hm]; rfl)
    clear hm
    go_enter Try.func52, Try.ntmps52
    go_wp2_with fail
    refine (impl_myersRight s k f u d t _ hs hu hd).mono ?_
    rintro e w1 ⟨rfl, hb1⟩; rw [HM.out]
    obtain ⟨hc_w1, hf_w1⟩ := bcell hb1; have HT_w1 : Below w.heap.size w w1 := below_step (by repeat (first | exact Below.refl _ _ | assumption | (refine Below.drew ?_) | (refine below_drewN ?_ _) | (refine Below.alloc ?_ (by first | omega | (simp; done) | (simp; omega)) _) | (refine Below.setCell ?_ (by first | omega | (simp; done) | (simp; omega)) _))) hb1; have hy0_w1 : w.heap.size < w1.heap.size := (by have h1 := hb1.size; (try simp at h1); omega); have hy1_w1 : w.heap.size + 1 < w1.heap.size := (by have h1 := hb1.size; (try simp at h1); omega)
    go_wp2_with fail
    go_ret
    exact ⟨_, _, _, rfl, by rw [HR.out]; exact OwnN.nil _ _, HT_w1⟩
  · have HM := Lib.hid hm
    have HR := Lib.hid (show myColL s k u d t = tab (colF u d) (s.size + 1) by unfold myColL; rw [hm]; rfl)
    obtain ⟨hs1, hu2, hd2⟩ := myOkB_parts hm
    have HU := Lib.hid hu2; have HD := Lib.hid hd2
    clear hm hu2 hd2
    go_enter Try.func52, Try.ntmps52
    go_wp2_with fail
    refine (impl_myersRight s k f u d t _ hs hu hd).mono ?_
    rintro e w1 ⟨rfl, hb1⟩; rw [HM.out]
    obtain ⟨hc_w1, hf_w1⟩ := bcell hb1; have HT_w1 : Below w.heap.size w w1 := below_step (by repeat (first | exact Below.refl _ _ | assumption | (refine Below.drew ?_) | (refine below_drewN ?_ _) | (refine Below.alloc ?_ (by first | omega | (simp; done) | (simp; omega)) _) | (refine Below.setCell ?_ (by first | omega | (simp; done) | (simp; omega)) _))) hb1; have hy0_w1 : w.heap.size < w1.heap.size := (by have h1 := hb1.size; (try simp at h1); omega); have hy1_w1 : w.heap.size + 1 < w1.heap.size := (by have h1 := hb1.size; (try simp at h1); omega)
    go_wp2_with fail
    refine (impl_columnOf_myers s k f u d t _ hs1 HU.out HD.out).mono ?_
    rintro e w2 ⟨a, cap, rfl, hO, hb2⟩
    go_wp2_with fail
    go_ret
    exact ⟨_, _, _, rfl, by rw [HR.out]; exact hO.mono HT_w1.size, below_step HT_w1 hb2⟩
theorem spec_myersCol (s : ByteArray) (k : Int) (f : Bool) (u d t : Int) (w : World) (hs : s.size ≤ 1048576) (hu : I64 u) (hd : I64 d) :
    Calls Try.prog 54 #[.agg #[.string s, .int .i64 k, .bool f], .agg #[.int .i64 u, .int .i64 d, .int .i64 t]] w fun e w' => ∃ a n cap, e = .returned (.slice a n cap) ∧ OwnN w' w.heap.size a n cap (myColL s k u d t) ∧ Below w.heap.size w w' := by
  cases hm : myOkB s k u d t
  · have HM := Lib.hid hm
    have HR := Lib.hid (show myColL s k u d t = [] by unfold myColL; rw [hm]; rfl)
    clear hm
    go_enter Try.func54, Try.ntmps54
    go_wp2_with fail
    refine (spec_myersOk s k f u d t _ hs hu hd).mono ?_
    rintro e w1 ⟨rfl, hb1⟩; rw [HM.out]
    obtain ⟨hc_w1, hf_w1⟩ := bcell hb1; have HT_w1 : Below w.heap.size w w1 := below_step (by repeat (first | exact Below.refl _ _ | assumption | (refine Below.drew ?_) | (refine below_drewN ?_ _) | (refine Below.alloc ?_ (by first | omega | (simp; done) | (simp; omega)) _) | (refine Below.setCell ?_ (by first | omega | (simp; done) | (simp; omega)) _))) hb1; have hy0_w1 : w.heap.size < w1.heap.size := (by have h1 := hb1.size; (try simp at h1); omega); have hy1_w1 : w.heap.size + 1 < w1.heap.size := (by have h1 := hb1.size; (try simp at h1); omega)
    go_wp2_with fail
    go_ret
    exact ⟨_, _, _, rfl, by rw [HR.out]; exact ⟨rfl, World.ownsRow_made w1 #[] 0 (by omega) (by decide) rfl⟩, HT_w1.alloc HT_w1.size _⟩
  · have HM := Lib.hid hm
    have HR := Lib.hid (show myColL s k u d t = tab (colF u d) (s.size + 1) by unfold myColL; rw [hm]; rfl)
    obtain ⟨hs1, hu2, hd2⟩ := myOkB_parts hm
    have HU := Lib.hid hu2; have HD := Lib.hid hd2
    clear hm hu2 hd2
    go_enter Try.func54, Try.ntmps54
    go_wp2_with fail
    refine (spec_myersOk s k f u d t _ hs hu hd).mono ?_
    rintro e w1 ⟨rfl, hb1⟩; rw [HM.out]
    obtain ⟨hc_w1, hf_w1⟩ := bcell hb1; have HT_w1 : Below w.heap.size w w1 := below_step (by repeat (first | exact Below.refl _ _ | assumption | (refine Below.drew ?_) | (refine below_drewN ?_ _) | (refine Below.alloc ?_ (by first | omega | (simp; done) | (simp; omega)) _) | (refine Below.setCell ?_ (by first | omega | (simp; done) | (simp; omega)) _))) hb1; have hy0_w1 : w.heap.size < w1.heap.size := (by have h1 := hb1.size; (try simp at h1); omega); have hy1_w1 : w.heap.size + 1 < w1.heap.size := (by have h1 := hb1.size; (try simp at h1); omega)
    go_wp2_with fail
    refine (spec_l4Col s k f u d t _ hs1 HU.out HD.out).mono ?_
    rintro e w2 ⟨a, cap, rfl, hO, hb2⟩
    go_wp2_with fail
    go_ret
    exact ⟨_, _, _, rfl, by rw [HR.out]; exact hO.mono HT_w1.size, below_step HT_w1 hb2⟩
theorem myColL_len (s : ByteArray) (k : Int) (u d t : Int) : (myColL s k u d t).length ≤ 21 := by
  unfold myColL
  cases hm : myOkB s k u d t
  · simp
  · have := (myOkB_parts hm).1
    simp [tab_length]; omega
end Go.Proofs.Ytgocfpdodbhcaaa

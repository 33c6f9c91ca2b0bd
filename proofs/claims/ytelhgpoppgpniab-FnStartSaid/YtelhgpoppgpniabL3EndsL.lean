/-
  FnExactEndsOf: the walk.
-/
import Derived.Test.YtelhgpoppgpniabL3EndsS
import Derived.Test.YtelhgpoppgpniabEndLaw
namespace Go.Proofs.Ytelhgpoppgpniab
open Go.RowKit
set_option linter.unusedVariables false
set_option maxRecDepth 100000
theorem endsL_len (s : ByteArray) (K : Int) (f : Bool) (r : ByteArray) : (endsL s K f r).length ≤ 402 := by
  unfold endsL; split
  · rename_i h
    simp only [Bool.and_eq_true, decide_eq_true_eq] at h
    rw [endF_length]
    have := endN_le (lastD s r f) K (r.size + 1)
    omega
  · simp
set_option maxHeartbeats 1000000 in
theorem spec_endsOf (s : ByteArray) (K : Int) (f : Bool) (r : ByteArray) (w : World) (hs : s.size ≤ 1048576) (hr : r.size ≤ 1048576) :
    Calls Try.prog 60 #[.agg #[.string s, .int .i64 K, .bool f], .string r] w fun e w' => ∃ a n cap, e = .returned (.slice a n cap) ∧ OwnM 42 2 w' w.heap.size a n cap (endsL s K f r) ∧ Below w.heap.size w w' := by
  cases hp : patOk s K
  · have HR := Lib.hid (show endsL s K f r = [] by unfold endsL; rw [hp]; rfl)
    have HP := Lib.hid hp; clear hp
    go_enter Try.func60, Try.ntmps60
    go_wp2_with fail
    refine (spec_patternOk _ _ _ _ (by omega)).mono ?_
    rintro e w1 ⟨rfl, hb1⟩; rw [HP.out]; obtain ⟨hc1, hf1⟩ := bcell hb1; have hz1 : w.heap.size < w1.heap.size := (by have := hb1.size; (try simp at this); omega); have HB1 : Below w.heap.size w w1 := below_step (by repeat (first | exact Below.refl _ _ | assumption | (refine Below.drew ?_) | (refine below_drewN ?_ _) | (refine Below.alloc ?_ (by first | omega | (simp; done) | (simp; omega)) _) | (refine Below.setCell ?_ (by first | omega | (simp; done) | (simp; omega)) _))) hb1
    go_wp2_with fail
    go_ret
    exact ⟨_, _, _, rfl, by rw [HR.out]; exact ⟨rfl, World.ownsRow_made w1 #[] 0 (by omega) (by decide) rfl⟩, HB1.alloc HB1.size _⟩
  · by_cases h2 : r.size ≤ 200
    · obtain ⟨hs0, hs1, hk0, hk1⟩ := (patOk_iff s K).1 hp
      have HR := Lib.hid (show endsL s K f r = endF (lastD s r f) K (r.size + 1) by unfold endsL; rw [hp]; simp [h2])
      have HP := Lib.hid hp; clear hp
      have hd2 : decide (200 < (r.size : Int)) = false := by simp; omega
      go_enter Try.func60, Try.ntmps60
      go_wp2_with fail
      refine (spec_patternOk _ _ _ _ (by omega)).mono ?_
      rintro e w1 ⟨rfl, hb1⟩; rw [HP.out]; obtain ⟨hc1, hf1⟩ := bcell hb1; have hz1 : w.heap.size < w1.heap.size := (by have := hb1.size; (try simp at this); omega); have HB1 : Below w.heap.size w w1 := below_step (by repeat (first | exact Below.refl _ _ | assumption | (refine Below.drew ?_) | (refine below_drewN ?_ _) | (refine Below.alloc ?_ (by first | omega | (simp; done) | (simp; omega)) _) | (refine Below.setCell ?_ (by first | omega | (simp; done) | (simp; omega)) _))) hb1
      go_wp2_with fail
      refine (spec_l3Ends s K f r _ hs1 h2 hk0 hk1).mono ?_
      rintro e w2 ⟨a, n, cap, rfl, hO, hb2⟩
      go_wp2_with fail
      go_ret
      exact ⟨_, _, _, rfl, by rw [HR.out]; exact hO.mono HB1.size, below_step HB1 hb2⟩
    · have HR := Lib.hid (show endsL s K f r = [] by unfold endsL; simp [h2])
      have HP := Lib.hid hp; clear hp
      have hd2 : decide (200 < (r.size : Int)) = true := by simp; omega
      go_enter Try.func60, Try.ntmps60
      go_wp2_with fail
      refine (spec_patternOk _ _ _ _ (by omega)).mono ?_
      rintro e w1 ⟨rfl, hb1⟩; rw [HP.out]; obtain ⟨hc1, hf1⟩ := bcell hb1; have hz1 : w.heap.size < w1.heap.size := (by have := hb1.size; (try simp at this); omega); have HB1 : Below w.heap.size w w1 := below_step (by repeat (first | exact Below.refl _ _ | assumption | (refine Below.drew ?_) | (refine below_drewN ?_ _) | (refine Below.alloc ?_ (by first | omega | (simp; done) | (simp; omega)) _) | (refine Below.setCell ?_ (by first | omega | (simp; done) | (simp; omega)) _))) hb1
      go_wp2_with fail
      go_ret
      exact ⟨_, _, _, rfl, by rw [HR.out]; exact ⟨rfl, World.ownsRow_made w1 #[] 0 (by omega) (by decide) rfl⟩, HB1.alloc HB1.size _⟩
end Go.Proofs.Ytelhgpoppgpniab

/-
  FnExactStartOf: the walk.
-/
import Derived.Test.YtelhgpoppgpniaaL14StI
import Derived.Test.YtelhgpoppgpniaaL14StS
namespace Go.Proofs.Ytelhgpoppgpniaa
open Go.RowKit
set_option linter.unusedVariables false
set_option maxRecDepth 100000
set_option maxHeartbeats 2000000 in
theorem law_FnExactStartOf (s : ByteArray) (hs : s.size ≤ maxLen) (k : Int) (_wk : (Lit.int .i64 k).wf = true) (f : Bool) (r : ByteArray) (hr : r.size ≤ maxLen) (en : Int) (_we : (Lit.int .i64 en).wf = true) (w : World) :
    Calls Try.prog 5 #[.agg #[.string s, .int .i64 k, .bool f], .string r, .int .i64 en] w fun e w' => e = .returned (.bool true) ∧ Below w.heap.size w w' := by
  unfold maxLen at hs hr
  by_cases hrl : r.size ≤ 1048576
  · have hrd : ¬ (1048576 : Int) < (r.size : Int) := by omega
    by_cases hbig : (s.size : Int) ≤ 1048576
    · have H := Lib.hid (szI_yes hbig)
      have hs2 : s.size ≤ 1048576 := by omega
      obtain ⟨x, y, hxy⟩ : ∃ x y, startS s k f r en = (x, y) := ⟨_, _, rfl⟩
      have HX := Lib.hid hxy
      have x1 : (x != x) = false := by simp
      have y1 : (y != y) = false := by simp
      clear hxy
      go_enter Try.func5, Try.ntmps5
      go_wp2_with fail
      refine (laws_szPattern _ _ _ _ _ (by omega) (by omega) (by omega)).mono ?_
      rintro e w1 ⟨rfl, hb1⟩
      rw [H.out]
      have HA := hb1; obtain ⟨hc, hf⟩ := bcell HA; have hz : w.heap.size < w1.heap.size := (by have := HA.size; (try simp at this); omega)
      go_wp2_with fail
      refine (laws_toPattern _ _ _ _).mono ?_
      rintro e w2 ⟨rfl, hb2⟩; replace HA := below_step HA hb2; clear hc hf; obtain ⟨hc, hf⟩ := bcell HA; replace hz : w.heap.size < w2.heap.size := (by have := HA.size; (try simp at this); omega)
      go_wp2_with fail
      refine (spec_startOf _ _ _ _ _ _ hs2 hrl).mono ?_
      rintro e w3 ⟨rfl, hb3⟩; replace HA := below_step HA hb3; clear hc hf; obtain ⟨hc, hf⟩ := bcell HA; replace hz : w.heap.size < w3.heap.size := (by have := HA.size; (try simp at this); omega)
      rw [HX.out]
      go_wp2_with fail
      refine (laws_toPattern _ _ _ _).mono ?_
      rintro e w4 ⟨rfl, hb4⟩; replace HA := below_step HA hb4; clear hc hf; obtain ⟨hc, hf⟩ := bcell HA; replace hz : w.heap.size < w4.heap.size := (by have := HA.size; (try simp at this); omega)
      go_wp2_with fail
      refine (impl_startOf _ _ _ _ _ _ hs2 hrl).mono ?_
      rintro e w5 ⟨rfl, hb5⟩; replace HA := below_step HA hb5; clear hc hf; obtain ⟨hc, hf⟩ := bcell HA; replace hz : w.heap.size < w5.heap.size := (by have := HA.size; (try simp at this); omega)
      rw [HX.out]
      go_wp2
      go_ret
      exact ⟨rfl, below_step (by repeat (first | exact Below.refl _ _ | assumption | (refine Below.drew ?_) | (refine below_drewN ?_ _) | (refine Below.alloc ?_ (by first | omega | (simp; done) | (simp; omega)) _) | (refine Below.setCell ?_ (by first | omega | (simp; done) | (simp; omega)) _))) HA⟩
    · have H := Lib.hid (szI_no hbig)
      go_enter Try.func5, Try.ntmps5
      go_wp2_with fail
      refine (laws_szPattern _ _ _ _ _ (by omega) (by omega) (by omega)).mono ?_
      rintro e w1 ⟨rfl, hb1⟩
      rw [H.out]
      go_wp2
      go_ret
      exact ⟨rfl, below_step (by repeat (first | exact Below.refl _ _ | assumption | (refine Below.drew ?_) | (refine below_drewN ?_ _) | (refine Below.alloc ?_ (by first | omega | (simp; done) | (simp; omega)) _) | (refine Below.setCell ?_ (by first | omega | (simp; done) | (simp; omega)) _))) hb1⟩
  · have hrd : (1048576 : Int) < (r.size : Int) := by omega
    go_enter Try.func5, Try.ntmps5
    go_wp2
    go_ret
    exact ⟨rfl, (by repeat (first | exact Below.refl _ _ | assumption | (refine Below.drew ?_) | (refine below_drewN ?_ _) | (refine Below.alloc ?_ (by first | omega | (simp; done) | (simp; omega)) _) | (refine Below.setCell ?_ (by first | omega | (simp; done) | (simp; omega)) _)))⟩
end Go.Proofs.Ytelhgpoppgpniaa

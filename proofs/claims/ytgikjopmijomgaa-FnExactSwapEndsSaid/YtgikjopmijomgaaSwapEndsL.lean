/-
  FnExactSwapEnds: the walk (as XL3EndsL, by names).
-/
import Derived.Test.YtgikjopmijomgaaL18Es
import Derived.Test.YtgikjopmijomgaaEndLaw
namespace Go.Proofs.Ytgikjopmijomgaa
open Go.RowKit
set_option linter.unusedVariables false
set_option maxRecDepth 100000
theorem swEndsL_len (s : ByteArray) (K : Int) (f : Bool) (r : ByteArray) : (swEndsL s K f r).length ≤ 402 := by
  unfold swEndsL; split
  · rename_i h
    simp only [Bool.and_eq_true, decide_eq_true_eq] at h
    rw [endF_length]
    have := endN_le (swD s r f) K (r.size + 1)
    omega
  · simp
set_option maxHeartbeats 2000000 in
theorem law_FnExactSwapEnds (s : ByteArray) (hs : s.size ≤ maxLen) (k : Int) (_wk : (Lit.int .i64 k).wf = true) (f : Bool) (r : ByteArray) (hr : r.size ≤ maxLen) (w : World) :
    Calls Try.prog 4 #[.agg #[.string s, .int .i64 k, .bool f], .string r] w fun e w' => e = .returned (.bool true) ∧ Below w.heap.size w w' := by
  unfold maxLen at hs hr
  by_cases hrl : r.size ≤ 1048576
  · have hrd : ¬ (1048576 : Int) < (r.size : Int) := by omega
    by_cases hbig : (s.size : Int) ≤ 1048576
    · have H := Lib.hid (szI_yes hbig)
      have hs2 : s.size ≤ 1048576 := by omega
      have hl1 := swEndsL_len s k f r
      go_enter Try.func4, Try.ntmps4
      go_wp2_with fail
      refine (laws_szPattern _ _ _ _ _ (by omega) (by omega) (by omega)).mono ?_
      rintro e w1 ⟨rfl, hb1⟩
      rw [H.out]
      have HA := hb1; obtain ⟨hc, hf⟩ := bcell HA; have hz : w.heap.size < w1.heap.size := (by have := HA.size; (try simp at this); omega)
      go_wp2_with fail
      refine (laws_toPattern _ _ _ _).mono ?_
      rintro e w2 ⟨rfl, hb2⟩; replace HA := below_step HA hb2; clear hc hf; obtain ⟨hc, hf⟩ := bcell HA; replace hz : w.heap.size < w2.heap.size := (by have := HA.size; (try simp at this); omega)
      go_wp2_with fail
      refine (spec_swapEnds _ _ _ _ _ hs2 hrl).mono ?_
      rintro e w3 ⟨a0, n0, cap0, rfl, hO0, hb3⟩; replace HA := below_step HA hb3; clear hc hf; obtain ⟨hc, hf⟩ := bcell HA; replace hz : w.heap.size < w3.heap.size := (by have := HA.size; (try simp at this); omega)
      go_wp2_with fail
      refine (laws_toPattern _ _ _ _).mono ?_
      rintro e w4 ⟨rfl, hb4⟩; replace HA := below_step HA hb4; clear hc hf; obtain ⟨hc, hf⟩ := bcell HA; replace hz : w.heap.size < w4.heap.size := (by have := HA.size; (try simp at this); omega)
      have hO0 := hO0.kept hb4
      go_wp2_with fail
      refine (impl_swapEnds _ _ _ _ _ hs2 hrl).mono ?_
      rintro e w5 ⟨a1, n1, cap1, rfl, hO1, hb5⟩; have HB := hb5; clear hc hf; obtain ⟨hc, hf⟩ := bcell (below_step HA HB); replace hz : w.heap.size < w5.heap.size := (by have := (below_step HA HB).size; (try simp at this); omega)
      have hn0 : n1 = n0 := by have h1 := hO1.len; have h2 := hO0.len; omega
      subst hn0
      have hln2 : n1 ≤ 1048577 := by have := hO1.len; omega
      have hln3 : n1 ≤ 201 := by have := hO1.len; omega
      go_wp2_with fail
      refine (laws_eqEndS _ _ _ _ _ _ _ hO1.len hO1.ints (hO0.kept HB).ints hln2).mono ?_
      rintro e w6 ⟨rfl, hb6⟩; replace HB := below_step HB hb6; clear hc hf; obtain ⟨hc, hf⟩ := bcell (below_step HA HB); replace hz : w.heap.size < w6.heap.size := (by have := (below_step HA HB).size; (try simp at this); omega)
      replace hO1 := hO1.kept hb6
      go_wp2_with fail
      refine (laws_markEndS _ _ _ _ _ _ _ hO1 hln2 (by omega) (by omega)).mono ?_
      rintro e w7 ⟨M, rfl, hO2, hU, hg7⟩
      have hb7 := hO1.turn HB.size hg7
      replace HB := HB.trans hb7
      clear hc hf; obtain ⟨hc, hf⟩ := bcell (below_step HA HB); replace hz : w.heap.size < w7.heap.size := (by have := (below_step HA HB).size; (try simp at this); omega)
      replace hO1 := hO2
      clear hO2 hg7
      go_wp2_with fail
      refine (laws_heldEndS _ _ _ _ _ _ hO1.len hO1.ints hU hln2 (by omega) (by omega)).mono ?_
      rintro e w8 ⟨rfl, hb8⟩; replace HB := below_step HB hb8; clear hc hf; obtain ⟨hc, hf⟩ := bcell (below_step HA HB); replace hz : w.heap.size < w8.heap.size := (by have := (below_step HA HB).size; (try simp at this); omega)
      replace hO1 := hO1.kept hb8
      have e1 : ((1 : Int) + (n1 : Int) * 2 != 1 + (n1 : Int) * 2) = false := by simp
      go_wp2_with fail
      refine (laws_toPattern _ _ _ _).mono ?_
      rintro e w9 ⟨rfl, hb9⟩; replace HB := below_step HB hb9; clear hc hf; obtain ⟨hc, hf⟩ := bcell (below_step HA HB); replace hz : w.heap.size < w9.heap.size := (by have := (below_step HA HB).size; (try simp at this); omega)
      replace hO1 := hO1.kept hb9
      go_wp2_with fail
      refine (impl_swapEnds _ _ _ _ _ hs2 hrl).mono ?_
      rintro e w10 ⟨a2, n2, cap2, rfl, hO2, hb10⟩; replace HB := below_step HB hb10; clear hc hf; obtain ⟨hc, hf⟩ := bcell (below_step HA HB); replace hz : w.heap.size < w10.heap.size := (by have := (below_step HA HB).size; (try simp at this); omega)
      replace hO1 := hO1.kept hb10
      have hn2 : n2 = n1 := by have h1 := hO2.len; have h2 := hO0.len; omega
      subst hn2
      go_wp2_with fail
      refine (laws_eqEndS _ _ _ _ _ _ _ hO2.len hO2.ints (hO0.kept HB).ints hln2).mono ?_
      rintro e w11 ⟨rfl, hb11⟩; replace HB := below_step HB hb11; clear hc hf; obtain ⟨hc, hf⟩ := bcell (below_step HA HB); replace hz : w.heap.size < w11.heap.size := (by have := (below_step HA HB).size; (try simp at this); omega)
      replace hO1 := hO1.kept hb11
      go_wp2_with fail
      refine (laws_heldEndS _ _ _ _ _ _ hO1.len hO1.ints hU hln2 (by omega) (by omega)).mono ?_
      rintro e w12 ⟨rfl, hb12⟩; replace HB := below_step HB hb12; clear hc hf; obtain ⟨hc, hf⟩ := bcell (below_step HA HB); replace hz : w.heap.size < w12.heap.size := (by have := (below_step HA HB).size; (try simp at this); omega)
      go_wp2_with fail
      go_ret
      exact ⟨rfl, below_step (by repeat (first | exact Below.refl _ _ | assumption | (refine Below.drew ?_) | (refine below_drewN ?_ _) | (refine Below.alloc ?_ (by first | omega | (simp; done) | (simp; omega)) _) | (refine Below.setCell ?_ (by first | omega | (simp; done) | (simp; omega)) _))) (below_step HA HB)⟩
    · go_enter Try.func4, Try.ntmps4
      have H := Lib.hid (szI_no hbig)
      go_wp2_with fail
      refine (laws_szPattern _ _ _ _ _ (by omega) (by omega) (by omega)).mono ?_
      rintro e w1 ⟨rfl, hb1⟩
      rw [H.out]
      have HA := hb1; obtain ⟨hc, hf⟩ := bcell HA; have hz : w.heap.size < w1.heap.size := (by have := HA.size; (try simp at this); omega)
      go_wp2_with fail
      go_ret
      exact ⟨rfl, below_step (by repeat (first | exact Below.refl _ _ | assumption | (refine Below.drew ?_) | (refine below_drewN ?_ _) | (refine Below.alloc ?_ (by first | omega | (simp; done) | (simp; omega)) _) | (refine Below.setCell ?_ (by first | omega | (simp; done) | (simp; omega)) _))) HA⟩
  · have hrd : (1048576 : Int) < (r.size : Int) := by omega
    go_enter Try.func4, Try.ntmps4
    go_wp2_with fail
    go_ret
    exact ⟨rfl, (by repeat (first | exact Below.refl _ _ | assumption | (refine Below.drew ?_) | (refine below_drewN ?_ _) | (refine Below.alloc ?_ (by first | omega | (simp; done) | (simp; omega)) _) | (refine Below.setCell ?_ (by first | omega | (simp; done) | (simp; omega)) _)))⟩
end Go.Proofs.Ytgikjopmijomgaa

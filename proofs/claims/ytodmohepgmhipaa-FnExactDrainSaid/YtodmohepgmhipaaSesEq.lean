/-
  Sessions: the laws' comparison of two that read alike.
-/
import Derived.Test.YtodmohepgmhipaaSes
import Derived.Test.YtodmohepgmhipaaIntLaw
import Derived.Test.YtodmohepgmhipaaRecLaw
namespace Go.Proofs.Ytodmohepgmhipaa
open Go.RowKit
set_option linter.unusedVariables false
set_option maxRecDepth 100000
set_option maxHeartbeats 1000000 in
theorem laws_eqInt64SS (C : List (List Int)) (a1 a2 : Option Addr) (cap1 cap2 : Nat) (w : World) (h1 : Cols w a1 C) (h2 : Cols w a2 C) (hlen : C.length ≤ 1048576) (hts : ∀ i, i < C.length → (rowAt C i).length ≤ 1048576) :
    Calls Try.prog 79 #[.slice a1 C.length cap1, .slice a2 C.length cap2] w fun e w' => e = .returned (.bool true) ∧ Below w.heap.size w w' := by
  have e0 : ((C.length : Int) != (C.length : Int)) = false := by simp
  go_enter Try.func79, Try.ntmps79
  go_wp2
  go_loopw [5] (fun i wr => ∃ k : Nat, k ≤ C.length ∧ i = .int .i64 k ∧ Below w.heap.size w wr)
    (fun i _ => C.length - (intOf i).toNat)
  case atStart => exact ⟨0, by omega, rfl, Below.refl _ _⟩
  case round =>
    obtain ⟨k, hk, rfl, hb⟩ := hrel
    by_cases hlt : k < C.length
    · obtain ⟨b1, off1, rfl, hp1⟩ := (h1.kept hb).at k hlt
      obtain ⟨b2, off2, rfl, hp2⟩ := (h2.kept hb).at k hlt
      obtain ⟨a3, z3, c3, i3⟩ := hp1 k hlt
      obtain ⟨b3, y3, d3, j3⟩ := hp2 k hlt
      have hs3 := hts k hlt
      have hlb := block_lt_of_cell c3
      have hlb2 := block_lt_of_cell d3
      clear h1 h2 hp1 hp2 hts
      generalize rowAt C k = x at *
      go_wp2_with fail
      go_region_law ((go_simp; (go_at_call 40; refine (laws_eqInt64S x _ _ _ _ _ _ rfl (i3.kept (below_undrew (Below.refl _ _))) (j3.kept (below_undrew (Below.refl _ _))) (by omega)).mono ?_; rintro e w2 ⟨rfl, hb2⟩)))
      all_goals
        have hB := hb.trans ((below_undrew hb2).mono hb.size)
        go_wp2
        go_roundw
        case rel => exact ⟨k + 1, by omega, by go_num, hB⟩
        case measure => simp [intOf]; omega
    · obtain rfl : k = C.length := by omega
      go_wp2
      go_ret
      exact ⟨rfl, hb⟩
set_option maxHeartbeats 4000000 in
theorem laws_eqSession (s : Ses) (v1 v2 : Value) (w : World) (h1 : SesV w v1 s) (h2 : SesV w v2 s) (hB : SesB 1048576 s) :
    Calls Try.prog 30 #[v1, v2] w fun e w' => e = .returned (.bool true) ∧ Below w.heap.size w w' := by
  obtain ⟨ad, ac, aq, cd, cc, cq, nq, rfl, hn, hD, hC, hQ⟩ := h1
  obtain ⟨ad2, ac2, aq2, cd2, cc2, cq2, nq2, rfl, hn2, hD2, hC2, hQ2⟩ := h2
  obtain ⟨hd, ht, hc, hr, hq⟩ := hB
  obtain rfl : nq = nq2 := by omega
  have e1 : (s.r != s.r) = false := by simp
  have e2 : (s.b != s.b) = false := by simp
  have e3 : (s.a != s.a) = false := by simp
  have e4 : (s.z != s.z) = false := by simp
  unfold sesV
  go_enter Try.func30, Try.ntmps30
  go_wp2_with fail
  refine (laws_eqPatternS s.D _ _ _ _ _ (hD.kept (by repeat (first | exact Below.refl _ _ | assumption | (refine Below.drew ?_) | (refine below_drewN ?_ _) | (refine Below.alloc ?_ (by first | omega | (simp; done) | (simp; omega)) _) | (refine Below.setCell ?_ (by first | omega | (simp; done) | (simp; omega)) _)))) (hD2.kept (by repeat (first | exact Below.refl _ _ | assumption | (refine Below.drew ?_) | (refine below_drewN ?_ _) | (refine Below.alloc ?_ (by first | omega | (simp; done) | (simp; omega)) _) | (refine Below.setCell ?_ (by first | omega | (simp; done) | (simp; omega)) _)))) (by omega)).mono ?_
  rintro e w1 ⟨rfl, hb1⟩
  obtain ⟨hc_w1, hf_w1⟩ := bcell hb1; have HT_w1 : Below w.heap.size w w1 := below_step (by repeat (first | exact Below.refl _ _ | assumption | (refine Below.drew ?_) | (refine below_drewN ?_ _) | (refine Below.alloc ?_ (by first | omega | (simp; done) | (simp; omega)) _) | (refine Below.setCell ?_ (by first | omega | (simp; done) | (simp; omega)) _))) hb1; have hy0_w1 : w.heap.size < w1.heap.size := (by have h1 := hb1.size; (try simp at h1); omega); have hy1_w1 : w.heap.size + 1 < w1.heap.size := (by have h1 := hb1.size; (try simp at h1); omega)
  go_wp2_with fail
  refine (laws_eqInt64SS s.C _ _ _ _ _ (hC.kept HT_w1) (hC2.kept HT_w1) hc hr).mono ?_
  rintro e w2 ⟨rfl, hb2⟩
  obtain ⟨hc_w2, hf_w2⟩ := bcell hb2; have HT_w2 : Below w.heap.size w w2 := below_step (by repeat (first | exact Below.refl _ _ | assumption | (refine Below.drew ?_) | (refine below_drewN ?_ _) | (refine Below.alloc ?_ (by first | omega | (simp; done) | (simp; omega)) _) | (refine Below.setCell ?_ (by first | omega | (simp; done) | (simp; omega)) _))) hb2; have hy0_w2 : w.heap.size < w2.heap.size := (by have h1 := hb2.size; (try simp at h1); omega); have hy1_w2 : w.heap.size + 1 < w2.heap.size := (by have h1 := hb2.size; (try simp at h1); omega)
  go_wp2_with fail
  refine (laws_eqRecS s.Q _ _ _ _ _ _ hn (hQ.kept HT_w2) (hQ2.kept HT_w2) (by omega)).mono ?_
  rintro e w3 ⟨rfl, hb3⟩
  obtain ⟨hc_w3, hf_w3⟩ := bcell hb3; have HT_w3 : Below w.heap.size w w3 := below_step (by repeat (first | exact Below.refl _ _ | assumption | (refine Below.drew ?_) | (refine below_drewN ?_ _) | (refine Below.alloc ?_ (by first | omega | (simp; done) | (simp; omega)) _) | (refine Below.setCell ?_ (by first | omega | (simp; done) | (simp; omega)) _))) hb3; have hy0_w3 : w.heap.size < w3.heap.size := (by have h1 := hb3.size; (try simp at h1); omega); have hy1_w3 : w.heap.size + 1 < w3.heap.size := (by have h1 := hb3.size; (try simp at h1); omega)
  go_wp2_with fail
  go_ret
  exact ⟨rfl, HT_w3⟩
end Go.Proofs.Ytodmohepgmhipaa

/-
  Slices of nodes: the laws' comparison of them, and their copy of one.
-/
import Derived.Test.YtodmohepgmhipaaNodes
namespace Go.Proofs.Ytodmohepgmhipaa
open Go.RowKit
set_option linter.unusedVariables false
set_option maxRecDepth 100000
set_option maxHeartbeats 1000000 in
theorem laws_eqNode (x y z : Int) (K O : List Int) (k1 k2 o1 o2 : Option Addr) (ck1 ck2 co1 co2 : Nat) (w : World) (hk1 : Ints w k1 K) (hk2 : Ints w k2 K) (ho1 : Ints w o1 O) (ho2 : Ints w o2 O) (hK : K.length ≤ 1048576) (hO : O.length ≤ 1048576) :
    Calls Try.prog 59 #[.agg #[.int .i64 x, .int .i64 y, .int .i64 z, .slice k1 K.length ck1, .slice o1 O.length co1], .agg #[.int .i64 x, .int .i64 y, .int .i64 z, .slice k2 K.length ck2, .slice o2 O.length co2]] w fun e w' => e = .returned (.bool true) ∧ Below w.heap.size w w' := by
  have e1 : (x != x) = false := by simp
  have e2 : (y != y) = false := by simp
  have e3 : (z != z) = false := by simp
  go_enter Try.func59, Try.ntmps59
  go_wp2_with fail
  have hbz : Below w.heap.size w ((w.alloc (.cells #[.int .i64 x, .int .i64 y, .int .i64 z, .slice k1 K.length ck1, .slice o1 O.length co1] 87)).alloc (.cells #[.int .i64 x, .int .i64 y, .int .i64 z, .slice k2 K.length ck2, .slice o2 O.length co2] 87)) := (by repeat (first | exact Below.refl _ _ | assumption | (refine Below.drew ?_) | (refine below_drewN ?_ _) | (refine Below.alloc ?_ (by first | omega | (simp; done) | (simp; omega)) _) | (refine Below.setCell ?_ (by first | omega | (simp; done) | (simp; omega)) _)))
  refine (laws_eqInt64S K _ _ _ _ _ _ rfl (hk1.kept hbz) (hk2.kept hbz) (by omega)).mono ?_
  rintro e w1 ⟨rfl, hb1⟩
  obtain ⟨hc_w1, hf_w1⟩ := bcell hb1; have HT_w1 : Below w.heap.size w w1 := below_step (by repeat (first | exact Below.refl _ _ | assumption | (refine Below.drew ?_) | (refine below_drewN ?_ _) | (refine Below.alloc ?_ (by first | omega | (simp; done) | (simp; omega)) _) | (refine Below.setCell ?_ (by first | omega | (simp; done) | (simp; omega)) _))) hb1; have hz_w_w1 : w.heap.size < w1.heap.size := (by have h1 := hb1.size; (try simp at h1); omega)
  go_wp2_with fail
  refine (laws_eqInt64S O _ _ _ _ _ _ rfl (ho1.kept HT_w1) (ho2.kept HT_w1) (by omega)).mono ?_
  rintro e w2 ⟨rfl, hb2⟩
  obtain ⟨hc_w2, hf_w2⟩ := bcell hb2; have HT_w2 : Below w.heap.size w w2 := below_step (by repeat (first | exact Below.refl _ _ | assumption | (refine Below.drew ?_) | (refine below_drewN ?_ _) | (refine Below.alloc ?_ (by first | omega | (simp; done) | (simp; omega)) _) | (refine Below.setCell ?_ (by first | omega | (simp; done) | (simp; omega)) _))) hb2; have hz_w_w2 : w.heap.size < w2.heap.size := (by have h1 := hb2.size; (try simp at h1); omega)
  go_wp2_with fail
  go_ret
  exact ⟨rfl, HT_w2⟩
set_option maxHeartbeats 1000000 in
theorem laws_eqNodeS (L : List Nd) (a1 a2 : Option Addr) (cap1 cap2 : Nat) (w : World) (h1 : Nds w a1 L) (h2 : Nds w a2 L) (hlen : L.length ≤ 1048577) (hts : ∀ i, i < L.length → (ndAt L i).K.length ≤ 1048576 ∧ (ndAt L i).O.length ≤ 1048576) :
    Calls Try.prog 18 #[.slice a1 L.length cap1, .slice a2 L.length cap2] w fun e w' => e = .returned (.bool true) ∧ Below w.heap.size w w' := by
  have e0 : ((L.length : Int) != (L.length : Int)) = false := by simp
  go_enter Try.func18, Try.ntmps18
  go_wp2
  go_loopw [5] (fun i wr => ∃ k : Nat, k ≤ L.length ∧ i = .int .i64 k ∧ Below w.heap.size w wr)
    (fun i _ => L.length - (intOf i).toNat)
  case atStart => exact ⟨0, by omega, rfl, Below.refl _ _⟩
  case round =>
    obtain ⟨k, hk, rfl, hb⟩ := hrel
    by_cases hlt : k < L.length
    · obtain ⟨b1, off1, rfl, hp1⟩ := (h1.kept hb).at k hlt
      obtain ⟨b2, off2, rfl, hp2⟩ := (h2.kept hb).at k hlt
      obtain ⟨c0, c1, c2, ⟨a3, z3, c3, i3⟩, ⟨a4, z4, c4, i4⟩⟩ := hp1 k hlt
      obtain ⟨d0, d1, d2, ⟨b3, y3, d3, j3⟩, ⟨b4, y4, d4, j4⟩⟩ := hp2 k hlt
      obtain ⟨hs3, hs4⟩ := hts k hlt
      have hlb := block_lt_of_cell c0
      have hlb2 := block_lt_of_cell d0
      clear h1 h2 hp1 hp2 hts
      generalize ndAt L k = p at *
      obtain ⟨pb, pp, pf, pK, pO⟩ := p
      simp only at c0 c1 c2 c3 c4 d0 d1 d2 d3 d4 i3 i4 j3 j4 hs3 hs4
      go_wp2_with fail
      go_region_law ((go_simp; (go_at_call 59; refine (laws_eqNode pb pp pf pK pO _ _ _ _ _ _ _ _ _ (i3.kept (below_undrew (Below.refl _ _))) (j3.kept (below_undrew (Below.refl _ _))) (i4.kept (below_undrew (Below.refl _ _))) (j4.kept (below_undrew (Below.refl _ _))) hs3 hs4).mono ?_; rintro e w2 ⟨rfl, hb2⟩)))
      all_goals
        have hB := hb.trans ((below_undrew hb2).mono hb.size)
        go_wp2
        go_roundw
        case rel => exact ⟨k + 1, by omega, by go_num, hB⟩
        case measure => simp [intOf]; omega
    · obtain rfl : k = L.length := by omega
      go_wp2
      go_ret
      exact ⟨rfl, hb⟩
end Go.Proofs.Ytodmohepgmhipaa

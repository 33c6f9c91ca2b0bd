/-
  FnExactCutNew: the walk.
-/
import Derived.Test.YtbigcgamddimeafL6NewC
namespace Go.Proofs.Ytbigcgamddimeaf
open Go.RowKit
set_option linter.unusedVariables false
set_option maxHeartbeats 2000000 in
theorem law_FnExactCutNew (s : ByteArray) (hs : s.size ≤ maxLen) (k : Int) (_wk : (Lit.int .i64 k).wf = true) (f : Bool) (w : World) :
    Calls Try.prog 3 #[.agg #[.string s, .int .i64 k, .bool f]] w fun e w' => e = .returned (.bool true) ∧ Below w.heap.size w w' := by
  unfold maxLen at hs
  by_cases hbig : (s.size : Int) ≤ 1048576
  · have H := Lib.hid (szI_yes hbig)
    have hs2 : s.size ≤ 1048576 := by omega
    have hl1 := cutNewL_len s k
    go_enter Try.func3, Try.ntmps3
    go_wp2_with fail
    refine (laws_szPattern _ _ _ _ _ (by omega) (by omega) (by omega)).mono ?_
    rintro e w1 ⟨rfl, hb1⟩
    rw [H.out]
    obtain ⟨hc_w1, hf_w1⟩ := bcell hb1; have HT_w1 : Below w.heap.size w w1 := below_step (by repeat (first | exact Below.refl _ _ | assumption | (refine Below.drew ?_) | (refine below_drewN ?_ _) | (refine Below.alloc ?_ (by first | omega | (simp; done) | (simp; omega)) _) | (refine Below.setCell ?_ (by first | omega | (simp; done) | (simp; omega)) _))) hb1; have hz_w_w1 : w.heap.size < w1.heap.size := (by have h1 := hb1.size; (try simp at h1); omega)
    go_wp2_with fail
    refine (laws_toPattern _ _ _ _).mono ?_
    rintro e w2 ⟨rfl, hb2⟩
    obtain ⟨hc_w2, hf_w2⟩ := bcell hb2; have HT_w2 : Below w.heap.size w w2 := below_step (by repeat (first | exact Below.refl _ _ | assumption | (refine Below.drew ?_) | (refine below_drewN ?_ _) | (refine Below.alloc ?_ (by first | omega | (simp; done) | (simp; omega)) _) | (refine Below.setCell ?_ (by first | omega | (simp; done) | (simp; omega)) _))) hb2; have hz_w_w2 : w.heap.size < w2.heap.size := (by have h1 := hb2.size; (try simp at h1); omega)
    go_wp2_with fail
    refine (spec_cutNew _ _ _ _ hs2).mono ?_
    rintro e w3 ⟨a3, n3, cap3, rfl, hO3, hb3⟩
    obtain ⟨hc_w3, hf_w3⟩ := bcell hb3; have HT_w3 : Below w.heap.size w w3 := below_step (by repeat (first | exact Below.refl _ _ | assumption | (refine Below.drew ?_) | (refine below_drewN ?_ _) | (refine Below.alloc ?_ (by first | omega | (simp; done) | (simp; omega)) _) | (refine Below.setCell ?_ (by first | omega | (simp; done) | (simp; omega)) _))) hb3; have hz_w_w3 : w.heap.size < w3.heap.size := (by have h1 := hb3.size; (try simp at h1); omega)
    have hn3 : n3 ≤ 1048577 := by have := hO3.len; omega
    go_wp2_with fail
    refine (laws_toPattern _ _ _ _).mono ?_
    rintro e w4 ⟨rfl, hb4⟩
    obtain ⟨hc_w4, hf_w4⟩ := bcell hb4; have HT_w4 : Below w.heap.size w w4 := below_step (by repeat (first | exact Below.refl _ _ | assumption | (refine Below.drew ?_) | (refine below_drewN ?_ _) | (refine Below.alloc ?_ (by first | omega | (simp; done) | (simp; omega)) _) | (refine Below.setCell ?_ (by first | omega | (simp; done) | (simp; omega)) _))) hb4; have hz_w_w4 : w.heap.size < w4.heap.size := (by have h1 := hb4.size; (try simp at h1); omega); have hz_w3_w4 : w3.heap.size < w4.heap.size := (by have h1 := hb4.size; (try simp at h1); omega)
    have hK4 : Below w3.heap.size w3 w4 := below_step (by exact (Below.refl _ _).alloc (Nat.le_refl _) _) hb4
    go_wp2_with fail
    refine (impl_cutNew _ _ _ _ hs2).mono ?_
    rintro e w5 ⟨a5, n5, cap5, rfl, hO5, hb5⟩
    obtain ⟨hc_w5, hf_w5⟩ := bcell hb5; have HT_w5 : Below w.heap.size w w5 := below_step (by repeat (first | exact Below.refl _ _ | assumption | (refine Below.drew ?_) | (refine below_drewN ?_ _) | (refine Below.alloc ?_ (by first | omega | (simp; done) | (simp; omega)) _) | (refine Below.setCell ?_ (by first | omega | (simp; done) | (simp; omega)) _))) hb5; have hz_w_w5 : w.heap.size < w5.heap.size := (by have h1 := hb5.size; (try simp at h1); omega); have hz_w3_w5 : w3.heap.size < w5.heap.size := (by have h1 := hb5.size; (try simp at h1); omega)
    have hn5 : n5 = n3 := hO5.len.symm.trans hO3.len
    subst hn5
    have hK5 := below_step hK4 hb5
    go_wp2_with fail
    have hK5a := hK5.alloc hK5.size (.cells #[.slice a5 n5 cap5, .int .i64 (cutNewI s k)] 27)
    have hO5a := hO5.kept ((Below.refl w5.heap.size w5).alloc (Nat.le_refl _) (.cells #[.slice a5 n5 cap5, .int .i64 (cutNewI s k)] 27))
    refine (eqCut_eq _ _ _ _ _ _ _ _ hO5.len hO5a.ints (hO3.kept hK5a).ints hn3).mono ?_
    rintro e w6 ⟨rfl, hb6⟩
    obtain ⟨hc_w6, hf_w6⟩ := bcell hb6; have HT_w6 : Below w.heap.size w w6 := below_step (by repeat (first | exact Below.refl _ _ | assumption | (refine Below.drew ?_) | (refine below_drewN ?_ _) | (refine Below.alloc ?_ (by first | omega | (simp; done) | (simp; omega)) _) | (refine Below.setCell ?_ (by first | omega | (simp; done) | (simp; omega)) _))) hb6; have hz_w_w6 : w.heap.size < w6.heap.size := (by have h1 := hb6.size; (try simp at h1); omega); have hz_w3_w6 : w3.heap.size < w6.heap.size := (by have h1 := hb6.size; (try simp at h1); omega); have hz_w5_w6 : w5.heap.size < w6.heap.size := (by have h1 := hb6.size; (try simp at h1); omega)
    have hK6 := hK5a.trans (hb6.mono hK5a.size)
    replace hO5a := hO5a.kept hb6
    have hlt5 := hO5.turn_lt
    have s45 := hb5.size
    have s46 : w4.heap.size ≤ w6.heap.size := by omega
    have hge5 : ∀ k, (Value.slice a5 n5 cap5).ownBlock = some k → w4.heap.size ≤ k := fun k hk => (hO5.2.lt k hk).1
    have q0 : w6.cell? ⟨w.heap.size, 0, none⟩ = some (.string s) := by go_simp
    have q1 : w6.cell? ⟨w.heap.size, 1, none⟩ = some (.int .i64 k) := by go_simp
    have q2 : w6.cell? ⟨w.heap.size, 2, none⟩ = some (.bool f) := by go_simp
    have q3 : w6.cell? ⟨w3.heap.size, 0, none⟩ = some (.slice a3 n5 cap3) := by go_simp
    have q5 : w6.cell? ⟨w5.heap.size, 0, none⟩ = some (.slice a5 n5 cap5) := by go_simp
    have q3i : w6.cell? ⟨w3.heap.size, 1, none⟩ = some (.int .i64 (cutNewI s k)) := by go_simp
    have q5i : w6.cell? ⟨w5.heap.size, 1, none⟩ = some (.int .i64 (cutNewI s k)) := by go_simp
    go_wp2_with fail
    refine (markCut_any _ _ _ _ _ _ _ _ hO5a (by omega) hn3 (by omega) (by omega)).mono ?_
    rintro e w7 ⟨M, rfl, hO7, hU, hg7⟩
    have hne : ∀ b, (b < w4.heap.size ∨ w5.heap.size ≤ b) → some b ≠ (Value.slice a5 n5 cap5).ownBlock := fun b hb e => by
      have h1 := hlt5 b e.symm; have h2 := hge5 b e.symm; omega
    have r0 := hg7.cell q0 (hne _ (by left; show w.heap.size < _; omega))
    have r1 := hg7.cell q1 (hne _ (by left; show w.heap.size < _; omega))
    have r2 := hg7.cell q2 (hne _ (by left; show w.heap.size < _; omega))
    have r3 := hg7.cell q3 (hne _ (by left; show w3.heap.size < _; omega))
    have r5 := hg7.cell q5 (hne _ (by right; exact Nat.le_refl _))
    have r3i := hg7.cell q3i (hne _ (by left; show w3.heap.size < _; omega))
    have r5i := hg7.cell q5i (hne _ (by right; exact Nat.le_refl _))
    have hK7 := hK6.trans ((hO5a.mono (C := w3.heap.size) (by omega)).turn (by omega) hg7)
    have HT7 := HT_w6.trans ((hO5a.mono (C := w.heap.size) (by omega)).turn (by omega) hg7)
    have z0 : w.heap.size < w7.heap.size := by have := hg7.size; omega
    have z3 : w3.heap.size < w7.heap.size := by have := hg7.size; omega
    have z5 : w5.heap.size < w7.heap.size := by have := hg7.size; omega
    clear hc_w1 hc_w2 hc_w3 hc_w4 hc_w5 hc_w6 hf_w1 hf_w2 hf_w3 hf_w4 hf_w5 hf_w6 q0 q1 q2 q3 q5 q3i q5i hO5a hg7 hlt5 hge5 hne
    go_wp2_with fail
    refine (heldCut_any _ _ _ _ _ _ _ hO7.len hO7.ints hU hn3 (by omega) (by omega)).mono ?_
    rintro e w8 ⟨rfl, hb8⟩
    obtain ⟨hc8, hf8⟩ := bcell hb8; have HT8 := below_step HT7 hb8; have z80 : w.heap.size < w8.heap.size := (by have := hb8.size; omega); have z83 : w3.heap.size < w8.heap.size := (by have := hb8.size; omega); have z85 : w5.heap.size < w8.heap.size := (by have := hb8.size; omega)
    have hK8 := hK7.trans (hb8.mono hK7.size)
    replace hO7 := hO7.kept hb8
    go_wp2_with fail
    refine (laws_toPattern _ _ _ _).mono ?_
    rintro e w9 ⟨rfl, hb9⟩
    obtain ⟨hc9, hf9⟩ := bcell hb9; have HT9 := below_step HT8 hb9; have z90 : w.heap.size < w9.heap.size := (by have := hb9.size; omega); have z93 : w3.heap.size < w9.heap.size := (by have := hb9.size; omega); have z95 : w5.heap.size < w9.heap.size := (by have := hb9.size; omega)
    have hK9 := hK8.trans (hb9.mono hK8.size)
    replace hO7 := hO7.kept hb9
    go_wp2_with fail
    refine (impl_cutNew _ _ _ _ hs2).mono ?_
    rintro e w10 ⟨a10, n10, cap10, rfl, hO10, hb10⟩
    obtain ⟨hc10, hf10⟩ := bcell hb10; have HT10 := below_step HT9 hb10; have z100 : w.heap.size < w10.heap.size := (by have := hb10.size; omega); have z103 : w3.heap.size < w10.heap.size := (by have := hb10.size; omega); have z105 : w5.heap.size < w10.heap.size := (by have := hb10.size; omega)
    have hK10 := hK9.trans (hb10.mono hK9.size)
    replace hO7 := hO7.kept hb10
    have hn10 : n10 = n5 := hO10.len.symm.trans hO3.len
    subst hn10
    go_wp2_with fail
    have hKa := hK10.alloc hK10.size (.cells #[.slice a10 n10 cap10, .int .i64 (cutNewI s k)] 27)
    have hB10 := (Below.refl w10.heap.size w10).alloc (Nat.le_refl _) (.cells #[.slice a10 n10 cap10, .int .i64 (cutNewI s k)] 27)
    refine (eqCut_eq _ _ _ _ _ _ _ _ hO10.len (hO10.kept hB10).ints (hO3.kept hKa).ints hn3).mono ?_
    rintro e w11 ⟨rfl, hb11⟩
    obtain ⟨hc11, hf11⟩ := bcell hb11
    have HT11 : Below w.heap.size w w11 := below_step (HT10.alloc HT10.size _) hb11
    have z115 : w5.heap.size < w11.heap.size := (by have := hb11.size; (try simp at this); omega)
    replace hO7 := (hO7.kept hB10).kept hb11
    go_wp2_with fail
    refine (heldCut_any _ _ _ _ _ _ _ hO7.len hO7.ints hU hn3 (by omega) (by omega)).mono ?_
    rintro e w12 ⟨rfl, hb12⟩
    go_wp2_with fail
    go_ret
    exact ⟨rfl, below_step HT11 hb12⟩
  · go_enter Try.func3, Try.ntmps3
    have H := Lib.hid (szI_no hbig)
    go_wp2_with (first
      | (go_at_call 7; refine (laws_szPattern _ _ _ _ _ (by omega) (by omega) (by omega)).mono ?_; rintro e w1 ⟨rfl, hb1⟩; obtain ⟨hc1, hf1⟩ := bcell hb1; have hz1 : w.heap.size < w1.heap.size := (by have := hb1.size; (try simp at this); omega); have HB1 : Below w.heap.size w w1 := below_step (by repeat (first | exact Below.refl _ _ | assumption | (refine Below.drew ?_) | (refine below_drewN ?_ _) | (refine Below.alloc ?_ (by first | omega | (simp; done) | (simp; omega)) _) | (refine Below.setCell ?_ (by first | omega | (simp; done) | (simp; omega)) _))) hb1; rw [H.out]))
    go_ret
    exact ⟨rfl, HB1⟩
end Go.Proofs.Ytbigcgamddimeaf

/-
  FnExactPiecesOf: the walk.
-/
import Derived.Test.YtglldmfhjipacaaL8Pieces
namespace Go.Proofs.Ytglldmfhjipacaa
open Go.RowKit
set_option linter.unusedVariables false
set_option maxRecDepth 100000
/-- how many pieces -/
def pcN (s : ByteArray) (k : Int) : Nat := if patOk s k = true ∧ ¬ (s.size : Int) ≤ k then k.toNat + 1 else 0
theorem pcN_le (s : ByteArray) (k : Int) : pcN s k ≤ 5 := by
  unfold pcN
  split
  · next h => have := (patOk_iff s k).1 h.1; omega
  · omega
set_option maxHeartbeats 2000000 in
theorem impl_piecesOf (s : ByteArray) (k : Int) (f : Bool) (w : World) (hs : s.size ≤ 1048576) :
    Calls Try.prog 32 #[.agg #[.string s, .int .i64 k, .bool f]] w fun e w' => ∃ a cap, e = .returned (.slice a (pcN s k) cap) ∧ OwnV 54 2 w' w.heap.size a (pcN s k) cap (pcL s (pcN s k)) ∧ Below w.heap.size w w' := by
  by_cases h : patOk s k = true ∧ ¬ (s.size : Int) ≤ k
  · obtain ⟨h0, h1, h2, h3⟩ := (patOk_iff s k).1 h.1
    obtain ⟨K, rfl⟩ := Int.eq_ofNat_of_zero_le h2
    have hn : pcN s (K : Int) = K + 1 := by unfold pcN; rw [if_pos h]; simp
    rw [hn]
    exact impl_piecesOf_right s K f w h0 h1 (by omega) (by omega)
  · have hn : pcN s k = 0 := by unfold pcN; rw [if_neg h]
    rw [hn]
    cases hp : patOk s k
    · have HP := Lib.hid hp; clear hp h hn
      go_enter Try.func32, Try.ntmps32
      go_wp2_with (go_at_call 85; refine (impl_patternOk _ _ _ _ (by omega)).mono ?_; rintro e w1 ⟨rfl, hb1⟩; rw [HP.out]; obtain ⟨hc1, hf1⟩ := bcell hb1; have hz1 : w.heap.size < w1.heap.size := (by have := hb1.size; (try simp at this); omega); have HB1 : Below w.heap.size w w1 := below_step (by repeat (first | exact Below.refl _ _ | assumption | (refine Below.drew ?_) | (refine below_drewN ?_ _) | (refine Below.alloc ?_ (by first | omega | (simp; done) | (simp; omega)) _) | (refine Below.setCell ?_ (by first | omega | (simp; done) | (simp; omega)) _))) hb1)
      go_ret
      exact ⟨none, 0, rfl, OwnV.nil _ _, HB1⟩
    · have HA := Lib.hid (alwaysB_yes hp (by
        by_cases h5 : (s.size : Int) ≤ k
        · exact h5
        · exact absurd ⟨hp, h5⟩ h))
      have HP := Lib.hid hp; clear hp h hn
      go_enter Try.func32, Try.ntmps32
      go_wp2_with (first | (go_at_call 85; refine (impl_patternOk _ _ _ _ (by omega)).mono ?_; rintro e w1 ⟨rfl, hb1⟩; rw [HP.out]; obtain ⟨hc1, hf1⟩ := bcell hb1; have hz1 : w.heap.size < w1.heap.size := (by have := hb1.size; (try simp at this); omega); have HB1 : Below w.heap.size w w1 := below_step (by repeat (first | exact Below.refl _ _ | assumption | (refine Below.drew ?_) | (refine below_drewN ?_ _) | (refine Below.alloc ?_ (by first | omega | (simp; done) | (simp; omega)) _) | (refine Below.setCell ?_ (by first | omega | (simp; done) | (simp; omega)) _))) hb1) | (go_at_call 35; refine (impl_always _ _ _ _ (by omega)).mono ?_; rintro e w2 ⟨rfl, hb2⟩; rw [HA.out]; have HB2 := below_step HB1 hb2))
      go_ret
      exact ⟨none, 0, rfl, OwnV.nil _ _, HB2⟩
theorem made0 {w : World} {B : Nat} (h : Below B w (w.alloc (.cells #[] 54))) (hB : B ≤ w.heap.size) : OwnV 54 2 (w.alloc (.cells #[] 54)) B (some ⟨w.heap.size, 0, none⟩) 0 0 [] := by
  refine ⟨rfl, ?_⟩
  have := World.ownsRow_made (base := B) (e := 54) (size := 2) w #[] 0 hB (by decide) rfl
  simpa using this
set_option maxHeartbeats 2000000 in
theorem spec_piecesOf (s : ByteArray) (k : Int) (f : Bool) (w : World) (hs : s.size ≤ 1048576) :
    Calls Try.prog 33 #[.agg #[.string s, .int .i64 k, .bool f]] w fun e w' => ∃ a cap, e = .returned (.slice a (pcN s k) cap) ∧ OwnV 54 2 w' w.heap.size a (pcN s k) cap (pcL s (pcN s k)) ∧ Below w.heap.size w w' := by
  by_cases h : patOk s k = true ∧ ¬ (s.size : Int) ≤ k
  · obtain ⟨h0, h1, h2, h3⟩ := (patOk_iff s k).1 h.1
    obtain ⟨K, rfl⟩ := Int.eq_ofNat_of_zero_le h2
    have hn : pcN s (K : Int) = K + 1 := by unfold pcN; rw [if_pos h]; simp
    rw [hn]
    have HP := Lib.hid h.1
    have HA := Lib.hid (alwaysB_not h.2)
    have hK4 : K ≤ 4 := by omega
    clear h hn
    go_enter Try.func33, Try.ntmps33
    go_wp2_with (first | (go_at_call 37; refine (spec_patternOk _ _ _ _ (by omega)).mono ?_; rintro e w1 ⟨rfl, hb1⟩; rw [HP.out]; obtain ⟨hc1, hf1⟩ := bcell hb1; have hz1 : w.heap.size < w1.heap.size := (by have := hb1.size; (try simp at this); omega); have HB1 : Below w.heap.size w w1 := below_step (by repeat (first | exact Below.refl _ _ | assumption | (refine Below.drew ?_) | (refine below_drewN ?_ _) | (refine Below.alloc ?_ (by first | omega | (simp; done) | (simp; omega)) _) | (refine Below.setCell ?_ (by first | omega | (simp; done) | (simp; omega)) _))) hb1) | (go_at_call 36; refine (spec_always _ _ _ _ (by omega)).mono ?_; rintro e w2 ⟨rfl, hb2⟩; rw [HA.out]; obtain ⟨hc2, hf2⟩ := bcell hb2; have HB2 := below_step HB1 hb2; have hz2 := hb2.size; have hz1 := HB1.size; have hy1 : w.heap.size < w1.heap.size := (by have h1 := hb1.size; (try simp at h1); omega)) | (go_at_call 87; refine (spec_l8Pieces s K f _ h1 hK4).mono ?_; rintro e w3 ⟨a, cap, rfl, hO, hb3⟩; have HB3 := below_step HB2 hb3))
    go_ret
    exact ⟨a, cap, rfl, hO.mono (by omega), HB3⟩
  · have hn : pcN s k = 0 := by unfold pcN; rw [if_neg h]
    rw [hn]
    cases hp : patOk s k
    · have HP := Lib.hid hp; clear hp h hn
      go_enter Try.func33, Try.ntmps33
      go_wp2_with (go_at_call 37; refine (spec_patternOk _ _ _ _ (by omega)).mono ?_; rintro e w1 ⟨rfl, hb1⟩; rw [HP.out]; obtain ⟨hc1, hf1⟩ := bcell hb1; have hz1 : w.heap.size < w1.heap.size := (by have := hb1.size; (try simp at this); omega); have HB1 : Below w.heap.size w w1 := below_step (by repeat (first | exact Below.refl _ _ | assumption | (refine Below.drew ?_) | (refine below_drewN ?_ _) | (refine Below.alloc ?_ (by first | omega | (simp; done) | (simp; omega)) _) | (refine Below.setCell ?_ (by first | omega | (simp; done) | (simp; omega)) _))) hb1)
      go_ret
      exact ⟨_, _, rfl, made0 ((Below.refl _ _).alloc HB1.size _) HB1.size, HB1.alloc HB1.size _⟩
    · have HA := Lib.hid (alwaysB_yes hp (by
        by_cases h5 : (s.size : Int) ≤ k
        · exact h5
        · exact absurd ⟨hp, h5⟩ h))
      have HP := Lib.hid hp; clear hp h hn
      go_enter Try.func33, Try.ntmps33
      go_wp2_with (first | (go_at_call 37; refine (spec_patternOk _ _ _ _ (by omega)).mono ?_; rintro e w1 ⟨rfl, hb1⟩; rw [HP.out]; obtain ⟨hc1, hf1⟩ := bcell hb1; have hz1 : w.heap.size < w1.heap.size := (by have := hb1.size; (try simp at this); omega); have HB1 : Below w.heap.size w w1 := below_step (by repeat (first | exact Below.refl _ _ | assumption | (refine Below.drew ?_) | (refine below_drewN ?_ _) | (refine Below.alloc ?_ (by first | omega | (simp; done) | (simp; omega)) _) | (refine Below.setCell ?_ (by first | omega | (simp; done) | (simp; omega)) _))) hb1) | (go_at_call 36; refine (spec_always _ _ _ _ (by omega)).mono ?_; rintro e w2 ⟨rfl, hb2⟩; rw [HA.out]; have HB2 := below_step HB1 hb2))
      go_ret
      exact ⟨_, _, rfl, made0 ((Below.refl _ _).alloc HB2.size _) HB2.size, HB2.alloc HB2.size _⟩
set_option maxHeartbeats 2000000 in
theorem law_FnExactPiecesOf (s : ByteArray) (hs : s.size ≤ maxLen) (k : Int) (_wk : (Lit.int .i64 k).wf = true) (f : Bool) (w : World) :
    Calls Try.prog 10 #[.agg #[.string s, .int .i64 k, .bool f]] w fun e w' => e = .returned (.bool true) ∧ Below w.heap.size w w' := by
  unfold maxLen at hs
  by_cases hbig : (s.size : Int) ≤ 1048576
  · have H := Lib.hid (szI_yes hbig)
    have hs2 : s.size ≤ 1048576 := by omega
    obtain ⟨n, hn⟩ : ∃ n, pcN s k = n := ⟨_, rfl⟩
    have hn5 : n ≤ 5 := by rw [← hn]; exact pcN_le s k
    have HI := fun w => impl_piecesOf s k f w hs2
    have HS := fun w => spec_piecesOf s k f w hs2
    rw [hn] at HI HS
    have em : ((1 : Int) + (n : Int) * 2 != 1 + (n : Int) * 2) = false := by simp
    clear hn
    go_enter Try.func10, Try.ntmps10
    go_wp2_with fail
    refine (laws_szPattern _ _ _ _ _ (by omega) (by omega) (by omega)).mono ?_
    rintro e w1 ⟨rfl, hb1⟩
    rw [H.out]
    obtain ⟨hc_w1, hf_w1⟩ := bcell hb1; have HT_w1 : Below w.heap.size w w1 := below_step (by repeat (first | exact Below.refl _ _ | assumption | (refine Below.drew ?_) | (refine below_drewN ?_ _) | (refine Below.alloc ?_ (by first | omega | (simp; done) | (simp; omega)) _) | (refine Below.setCell ?_ (by first | omega | (simp; done) | (simp; omega)) _))) hb1; have hz_w_w1 : w.heap.size < w1.heap.size := (by have h1 := hb1.size; (try simp at h1); omega)
    go_wp2_with fail
    refine (laws_toPattern _ _ _ _).mono ?_
    rintro e w2 ⟨rfl, hb2⟩
    obtain ⟨hc_w2, hf_w2⟩ := bcell hb2; have HT_w2 : Below w.heap.size w w2 := below_step (by repeat (first | exact Below.refl _ _ | assumption | (refine Below.drew ?_) | (refine below_drewN ?_ _) | (refine Below.alloc ?_ (by first | omega | (simp; done) | (simp; omega)) _) | (refine Below.setCell ?_ (by first | omega | (simp; done) | (simp; omega)) _))) hb2; have hz_w_w2 : w.heap.size < w2.heap.size := (by have h1 := hb2.size; (try simp at h1); omega)
    go_wp2_with fail
    refine (HS _).mono ?_
    rintro e w3 ⟨a3, cap3, rfl, hO3, hb3⟩
    obtain ⟨hc_w3, hf_w3⟩ := bcell hb3; have HT_w3 : Below w.heap.size w w3 := below_step (by repeat (first | exact Below.refl _ _ | assumption | (refine Below.drew ?_) | (refine below_drewN ?_ _) | (refine Below.alloc ?_ (by first | omega | (simp; done) | (simp; omega)) _) | (refine Below.setCell ?_ (by first | omega | (simp; done) | (simp; omega)) _))) hb3; have hz_w_w3 : w.heap.size < w3.heap.size := (by have h1 := hb3.size; (try simp at h1); omega)
    go_wp2_with fail
    refine (laws_toPattern _ _ _ _).mono ?_
    rintro e w4 ⟨rfl, hb4⟩
    obtain ⟨hc_w4, hf_w4⟩ := bcell hb4; have HT_w4 : Below w.heap.size w w4 := below_step (by repeat (first | exact Below.refl _ _ | assumption | (refine Below.drew ?_) | (refine below_drewN ?_ _) | (refine Below.alloc ?_ (by first | omega | (simp; done) | (simp; omega)) _) | (refine Below.setCell ?_ (by first | omega | (simp; done) | (simp; omega)) _))) hb4; have hz_w_w4 : w.heap.size < w4.heap.size := (by have h1 := hb4.size; (try simp at h1); omega)
    have hK4 : Below w3.heap.size w3 w4 := below_step (Below.refl _ _) hb4
    go_wp2_with fail
    refine (HI _).mono ?_
    rintro e w5 ⟨a5, cap5, rfl, hO5, hb5⟩
    obtain ⟨hc_w5, hf_w5⟩ := bcell hb5; have HT_w5 : Below w.heap.size w w5 := below_step (by repeat (first | exact Below.refl _ _ | assumption | (refine Below.drew ?_) | (refine below_drewN ?_ _) | (refine Below.alloc ?_ (by first | omega | (simp; done) | (simp; omega)) _) | (refine Below.setCell ?_ (by first | omega | (simp; done) | (simp; omega)) _))) hb5; have hz_w_w5 : w.heap.size < w5.heap.size := (by have h1 := hb5.size; (try simp at h1); omega)
    have hK5 := below_step hK4 hb5
    go_wp2_with fail
    refine (laws_eqPieceS _ _ _ _ n _ _ _ hO5.vals (hO3.kept hK5).vals (by omega)).mono ?_
    rintro e w6 ⟨rfl, hb6⟩
    obtain ⟨hc_w6, hf_w6⟩ := bcell hb6; have HT_w6 : Below w.heap.size w w6 := below_step (by repeat (first | exact Below.refl _ _ | assumption | (refine Below.drew ?_) | (refine below_drewN ?_ _) | (refine Below.alloc ?_ (by first | omega | (simp; done) | (simp; omega)) _) | (refine Below.setCell ?_ (by first | omega | (simp; done) | (simp; omega)) _))) hb6; have hz_w_w6 : w.heap.size < w6.heap.size := (by have h1 := hb6.size; (try simp at h1); omega)
    have hK6 := hK5.trans (hb6.mono hK5.size)
    have hO6 := hO5.kept hb6
    have hlt5 := hO5.turn_lt
    have s23 := hb3.size
    have s34 := hb4.size
    have s45 := hb5.size
    have s56 := hb6.size
    have s46 : w4.heap.size ≤ w6.heap.size := by omega
    have hge5 : ∀ k, (Value.slice a5 n cap5).ownBlock = some k → w4.heap.size ≤ k := fun k hk => (hO5.2.lt k hk).1
    have q0 : w6.cell? ⟨w.heap.size, 0, none⟩ = some (.string s) := by go_simp
    have q1 : w6.cell? ⟨w.heap.size, 1, none⟩ = some (.int .i64 k) := by go_simp
    have q2 : w6.cell? ⟨w.heap.size, 2, none⟩ = some (.bool f) := by go_simp
    go_wp2_with fail
    refine (laws_markPieceS _ _ _ _ _ _ _ _ hO6 (by omega) (by omega) (by omega)).mono ?_
    rintro e w7 ⟨rfl, hO7, hg7⟩
    have hne : ∀ b, b < w4.heap.size → some b ≠ (Value.slice a5 n cap5).ownBlock := fun b hb e => by
      have h2 := hge5 b e.symm; omega
    have r0 := hg7.cell q0 (hne _ (by show w.heap.size < _; omega))
    have r1 := hg7.cell q1 (hne _ (by show w.heap.size < _; omega))
    have r2 := hg7.cell q2 (hne _ (by show w.heap.size < _; omega))
    have hK7 := hK6.trans ((hO6.mono (C := w3.heap.size) (by omega)).turn (by omega) hg7)
    have HT7 := HT_w6.trans ((hO6.mono (C := w.heap.size) (by omega)).turn (by omega) hg7)
    have z0 : w.heap.size < w7.heap.size := by have := hg7.size; omega
    clear hc_w1 hc_w2 hc_w3 hc_w4 hc_w5 hc_w6 hf_w1 hf_w2 hf_w3 hf_w4 hf_w5 hf_w6 q0 q1 q2 hO6 hg7 hlt5 hge5 hne
    go_wp2_with fail
    refine (laws_heldPieceS _ _ _ _ _ _ _ hO7.vals (by omega) (by omega) (by omega)).mono ?_
    rintro e w8 ⟨rfl, hb8⟩
    obtain ⟨hc8, hf8⟩ := bcell hb8; have HT8 := below_step HT7 hb8; have z80 : w.heap.size < w8.heap.size := (by have := hb8.size; omega)
    have hK8 := hK7.trans (hb8.mono hK7.size)
    have hO8 := hO7.kept hb8
    go_wp2_with fail
    refine (laws_toPattern _ _ _ _).mono ?_
    rintro e w9 ⟨rfl, hb9⟩
    obtain ⟨hc9, hf9⟩ := bcell hb9; have HT9 := below_step HT8 hb9; have z90 : w.heap.size < w9.heap.size := (by have := hb9.size; omega)
    have hK9 := hK8.trans (hb9.mono hK8.size)
    have hO9 := hO8.kept hb9
    go_wp2_with fail
    refine (HI _).mono ?_
    rintro e w10 ⟨a10, cap10, rfl, hO10, hb10⟩
    obtain ⟨hc10, hf10⟩ := bcell hb10; have HT10 := below_step HT9 hb10; have z100 : w.heap.size < w10.heap.size := (by have := hb10.size; omega)
    have hK10 := hK9.trans (hb10.mono hK9.size)
    have hO11 := hO9.kept hb10
    go_wp2_with fail
    refine (laws_eqPieceS _ _ _ _ n _ _ _ hO10.vals (hO3.kept hK10).vals (by omega)).mono ?_
    rintro e w11 ⟨rfl, hb11⟩
    have HT11 : Below w.heap.size w w11 := below_step HT10 hb11
    have hO12 := hO11.kept hb11
    go_wp2_with fail
    refine (laws_heldPieceS _ _ _ _ _ _ _ hO12.vals (by omega) (by omega) (by omega)).mono ?_
    rintro e w12 ⟨rfl, hb12⟩
    go_wp2_with fail
    go_ret
    exact ⟨rfl, below_step HT11 hb12⟩
  · go_enter Try.func10, Try.ntmps10
    have H := Lib.hid (szI_no hbig)
    go_wp2_with (first
      | (go_at_call 38; refine (laws_szPattern _ _ _ _ _ (by omega) (by omega) (by omega)).mono ?_; rintro e w1 ⟨rfl, hb1⟩; obtain ⟨hc1, hf1⟩ := bcell hb1; have hz1 : w.heap.size < w1.heap.size := (by have := hb1.size; (try simp at this); omega); have HB1 : Below w.heap.size w w1 := below_step (by repeat (first | exact Below.refl _ _ | assumption | (refine Below.drew ?_) | (refine below_drewN ?_ _) | (refine Below.alloc ?_ (by first | omega | (simp; done) | (simp; omega)) _) | (refine Below.setCell ?_ (by first | omega | (simp; done) | (simp; omega)) _))) hb1; rw [H.out]))
    go_ret
    exact ⟨rfl, HB1⟩
end Go.Proofs.Ytglldmfhjipacaa

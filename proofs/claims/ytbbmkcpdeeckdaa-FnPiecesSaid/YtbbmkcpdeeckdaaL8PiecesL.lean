/-
  FnExactPiecesOf: the walk.
-/
import Derived.Test.YtbbmkcpdeeckdaaL8Pieces
namespace Go.Proofs.Ytbbmkcpdeeckdaa
open Go.RowKit
set_option linter.unusedVariables false
set_option maxRecDepth 100000
/-- how many pieces -/
def pcN (s : ByteArray) (k : Int) : Nat := if patOk s k = true ∧ ¬ (s.size : Int) ≤ k then k.toNat + 1 else 0
theorem pcN_le (s : ByteArray) (k : Int) : pcN s k ≤ 5 := by
  unfold pcN
  split
  · next h => have := (patOk_iff s k).1 h.1; omega
  · omega
set_option maxHeartbeats 2000000 in
theorem impl_piecesOf (s : ByteArray) (k : Int) (f : Bool) (w : World) (hs : s.size ≤ 1048576) :
    Calls Try.prog 63 #[.agg #[.string s, .int .i64 k, .bool f]] w fun e w' => ∃ a cap, e = .returned (.slice a (pcN s k) cap) ∧ OwnV 84 2 w' w.heap.size a (pcN s k) cap (pcL s (pcN s k)) ∧ Below w.heap.size w w' := by
  by_cases h : patOk s k = true ∧ ¬ (s.size : Int) ≤ k
  · obtain ⟨h0, h1, h2, h3⟩ := (patOk_iff s k).1 h.1
    obtain ⟨K, rfl⟩ := Int.eq_ofNat_of_zero_le h2
    have hn : pcN s (K : Int) = K + 1 := by unfold pcN; rw [if_pos h]; simp
    rw [hn]
    exact impl_piecesOf_right s K f w h0 h1 (by omega) (by omega)
  · have hn : pcN s k = 0 := by unfold pcN; rw [if_neg h]
    rw [hn]
    cases hp : patOk s k
    · have HP := Lib.hid hp; clear hp h hn
      go_enter Try.func63, Try.ntmps63
      go_wp2_with (go_at_call 89; refine (impl_patternOk _ _ _ _ (by omega)).mono ?_; rintro e w1 ⟨rfl, hb1⟩; rw [HP.out]; obtain ⟨hc1, hf1⟩ := bcell hb1; have hz1 : w.heap.size < w1.heap.size := (by have := hb1.size; (try simp at this); omega); have HB1 : Below w.heap.size w w1 := below_step (by repeat (first | exact Below.refl _ _ | assumption | (refine Below.drew ?_) | (refine below_drewN ?_ _) | (refine Below.alloc ?_ (by first | omega | (simp; done) | (simp; omega)) _) | (refine Below.setCell ?_ (by first | omega | (simp; done) | (simp; omega)) _))) hb1)
      go_ret
      exact ⟨none, 0, rfl, OwnV.nil _ _, HB1⟩
    · have HA := Lib.hid (alwaysB_yes hp (by
        by_cases h5 : (s.size : Int) ≤ k
        · exact h5
        · exact absurd ⟨hp, h5⟩ h))
      have HP := Lib.hid hp; clear hp h hn
      go_enter Try.func63, Try.ntmps63
      go_wp2_with (first | (go_at_call 89; refine (impl_patternOk _ _ _ _ (by omega)).mono ?_; rintro e w1 ⟨rfl, hb1⟩; rw [HP.out]; obtain ⟨hc1, hf1⟩ := bcell hb1; have hz1 : w.heap.size < w1.heap.size := (by have := hb1.size; (try simp at this); omega); have HB1 : Below w.heap.size w w1 := below_step (by repeat (first | exact Below.refl _ _ | assumption | (refine Below.drew ?_) | (refine below_drewN ?_ _) | (refine Below.alloc ?_ (by first | omega | (simp; done) | (simp; omega)) _) | (refine Below.setCell ?_ (by first | omega | (simp; done) | (simp; omega)) _))) hb1) | (go_at_call 66; refine (impl_always _ _ _ _ (by omega)).mono ?_; rintro e w2 ⟨rfl, hb2⟩; rw [HA.out]; have HB2 := below_step HB1 hb2))
      go_ret
      exact ⟨none, 0, rfl, OwnV.nil _ _, HB2⟩
theorem made0 {w : World} {B : Nat} (h : Below B w (w.alloc (.cells #[] 84))) (hB : B ≤ w.heap.size) : OwnV 84 2 (w.alloc (.cells #[] 84)) B (some ⟨w.heap.size, 0, none⟩) 0 0 [] := by
  refine ⟨rfl, ?_⟩
  have := World.ownsRow_made (base := B) (e := 84) (size := 2) w #[] 0 hB (by decide) rfl
  simpa using this
set_option maxHeartbeats 2000000 in
theorem spec_piecesOf (s : ByteArray) (k : Int) (f : Bool) (w : World) (hs : s.size ≤ 1048576) :
    Calls Try.prog 64 #[.agg #[.string s, .int .i64 k, .bool f]] w fun e w' => ∃ a cap, e = .returned (.slice a (pcN s k) cap) ∧ OwnV 84 2 w' w.heap.size a (pcN s k) cap (pcL s (pcN s k)) ∧ Below w.heap.size w w' := by
  by_cases h : patOk s k = true ∧ ¬ (s.size : Int) ≤ k
  · obtain ⟨h0, h1, h2, h3⟩ := (patOk_iff s k).1 h.1
    obtain ⟨K, rfl⟩ := Int.eq_ofNat_of_zero_le h2
    have hn : pcN s (K : Int) = K + 1 := by unfold pcN; rw [if_pos h]; simp
    rw [hn]
    have HP := Lib.hid h.1
    have HA := Lib.hid (alwaysB_not h.2)
    have hK4 : K ≤ 4 := by omega
    clear h hn
    go_enter Try.func64, Try.ntmps64
    go_wp2_with (first | (go_at_call 28; refine (spec_patternOk _ _ _ _ (by omega)).mono ?_; rintro e w1 ⟨rfl, hb1⟩; rw [HP.out]; obtain ⟨hc1, hf1⟩ := bcell hb1; have hz1 : w.heap.size < w1.heap.size := (by have := hb1.size; (try simp at this); omega); have HB1 : Below w.heap.size w w1 := below_step (by repeat (first | exact Below.refl _ _ | assumption | (refine Below.drew ?_) | (refine below_drewN ?_ _) | (refine Below.alloc ?_ (by first | omega | (simp; done) | (simp; omega)) _) | (refine Below.setCell ?_ (by first | omega | (simp; done) | (simp; omega)) _))) hb1) | (go_at_call 67; refine (spec_always _ _ _ _ (by omega)).mono ?_; rintro e w2 ⟨rfl, hb2⟩; rw [HA.out]; obtain ⟨hc2, hf2⟩ := bcell hb2; have HB2 := below_step HB1 hb2; have hz2 := hb2.size; have hz1 := HB1.size; have hy1 : w.heap.size < w1.heap.size := (by have h1 := hb1.size; (try simp at h1); omega)) | (go_at_call 126; refine (spec_l8Pieces s K f _ h1 hK4).mono ?_; rintro e w3 ⟨a, cap, rfl, hO, hb3⟩; have HB3 := below_step HB2 hb3))
    go_ret
    exact ⟨a, cap, rfl, hO.mono (by omega), HB3⟩
  · have hn : pcN s k = 0 := by unfold pcN; rw [if_neg h]
    rw [hn]
    cases hp : patOk s k
    · have HP := Lib.hid hp; clear hp h hn
      go_enter Try.func64, Try.ntmps64
      go_wp2_with (go_at_call 28; refine (spec_patternOk _ _ _ _ (by omega)).mono ?_; rintro e w1 ⟨rfl, hb1⟩; rw [HP.out]; obtain ⟨hc1, hf1⟩ := bcell hb1; have hz1 : w.heap.size < w1.heap.size := (by have := hb1.size; (try simp at this); omega); have HB1 : Below w.heap.size w w1 := below_step (by repeat (first | exact Below.refl _ _ | assumption | (refine Below.drew ?_) | (refine below_drewN ?_ _) | (refine Below.alloc ?_ (by first | omega | (simp; done) | (simp; omega)) _) | (refine Below.setCell ?_ (by first | omega | (simp; done) | (simp; omega)) _))) hb1)
      go_ret
      exact ⟨_, _, rfl, made0 ((Below.refl _ _).alloc HB1.size _) HB1.size, HB1.alloc HB1.size _⟩
    · have HA := Lib.hid (alwaysB_yes hp (by
        by_cases h5 : (s.size : Int) ≤ k
        · exact h5
        · exact absurd ⟨hp, h5⟩ h))
      have HP := Lib.hid hp; clear hp h hn
      go_enter Try.func64, Try.ntmps64
      go_wp2_with (first | (go_at_call 28; refine (spec_patternOk _ _ _ _ (by omega)).mono ?_; rintro e w1 ⟨rfl, hb1⟩; rw [HP.out]; obtain ⟨hc1, hf1⟩ := bcell hb1; have hz1 : w.heap.size < w1.heap.size := (by have := hb1.size; (try simp at this); omega); have HB1 : Below w.heap.size w w1 := below_step (by repeat (first | exact Below.refl _ _ | assumption | (refine Below.drew ?_) | (refine below_drewN ?_ _) | (refine Below.alloc ?_ (by first | omega | (simp; done) | (simp; omega)) _) | (refine Below.setCell ?_ (by first | omega | (simp; done) | (simp; omega)) _))) hb1) | (go_at_call 67; refine (spec_always _ _ _ _ (by omega)).mono ?_; rintro e w2 ⟨rfl, hb2⟩; rw [HA.out]; have HB2 := below_step HB1 hb2))
      go_ret
      exact ⟨_, _, rfl, made0 ((Below.refl _ _).alloc HB2.size _) HB2.size, HB2.alloc HB2.size _⟩
end Go.Proofs.Ytbbmkcpdeeckdaa

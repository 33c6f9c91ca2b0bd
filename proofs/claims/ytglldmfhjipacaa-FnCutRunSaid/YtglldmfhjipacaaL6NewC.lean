/-
  Chapter 6: contracts of CutNew, in the program and in its model.
-/
import Derived.Test.YtglldmfhjipacaaL6New
import Derived.Deep.RegionLaw
namespace Go.Proofs.Ytglldmfhjipacaa
open Go.RowKit
set_option linter.unusedVariables false
set_option maxRecDepth 100000
def firstI (n : Nat) : Nat → Int := intAt (tab idI (n + 1))
def cutNewL (s : ByteArray) (k : Int) : List Int := if patOk s k then cutL (firstI s.size) k (s.size + 1) else []
def cutNewI (s : ByteArray) (k : Int) : Int := if patOk s k then (lastLe (firstI s.size) k (s.size + 1) : Int) else 0
theorem lastLe_congr {C D : Nat → Int} {k : Int} {n : Nat} (h : ∀ i, i < n → C i = D i) : lastLe C k n = lastLe D k n := by
  induction n with
  | zero => rfl
  | succ n ih => simp only [lastLe]; rw [h n (by omega), ih (fun i hi => h i (by omega))]
theorem lastLe_tabCap (C : Nat → Int) (k : Int) (n : Nat) : lastLe (intAt (tab (capI C k) n)) k n = lastLe C k n := by
  rw [← lastLe_cap C k n]
  exact lastLe_congr fun i hi => intAt_tab _ _ _ hi
theorem cutNewL_len (s : ByteArray) (k : Int) : (cutNewL s k).length ≤ 21 := by
  unfold cutNewL
  cases hp : patOk s k
  · simp
  · have := (patOk_iff s k).1 hp
    have h2 := lastLe_lt (firstI s.size) k (s.size + 1) (by omega)
    simp [cutL, tab_length]; omega
set_option maxHeartbeats 1000000 in
theorem impl_cutNew (s : ByteArray) (k : Int) (f : Bool) (w : World) (hs : s.size ≤ 1048576) :
    Calls Try.prog 65 #[.agg #[.string s, .int .i64 k, .bool f]] w fun e w' => ∃ a n cap, e = .returned (.agg #[.slice a n cap, .int .i64 (cutNewI s k)]) ∧ OwnN w' w.heap.size a n cap (cutNewL s k) ∧ Below w.heap.size w w' := by
  cases hp : patOk s k
  · have HR := Lib.hid (show cutNewL s k = [] by unfold cutNewL; rw [hp]; rfl)
    have HI := Lib.hid (show cutNewI s k = 0 by unfold cutNewI; rw [hp]; rfl)
    have HP := Lib.hid hp; clear hp
    go_enter Try.func65, Try.ntmps65
    go_wp2_with fail
    refine (impl_patternOk _ _ _ _ (by omega)).mono ?_
    rintro e w1 ⟨rfl, hb1⟩; rw [HP.out]
    obtain ⟨hc_w1, hf_w1⟩ := bcell hb1; have HT_w1 : Below w.heap.size w w1 := below_step (by repeat (first | exact Below.refl _ _ | assumption | (refine Below.drew ?_) | (refine below_drewN ?_ _) | (refine Below.alloc ?_ (by first | omega | (simp; done) | (simp; omega)) _) | (refine Below.setCell ?_ (by first | omega | (simp; done) | (simp; omega)) _))) hb1; have hy0_w1 : w.heap.size < w1.heap.size := (by have h1 := hb1.size; (try simp at h1); omega); have hy1_w1 : w.heap.size + 1 < w1.heap.size := (by have h1 := hb1.size; (try simp at h1); omega)
    go_wp2_with fail
    exact bodyPost_ret (v := .agg #[.slice none 0 0, .int .i64 0]) (by simp [results, Try.results65, go_sem, hc_w1]) rfl ⟨_, _, _, by rw [HI.out], by rw [HR.out]; exact OwnN.nil _ _, below_set2 HT_w1 (by omega) _ _⟩
  · obtain ⟨hs0, hs1, hk0, hk1⟩ := (patOk_iff s k).1 hp
    have HR := Lib.hid (show cutNewL s k = cutL (firstI s.size) k (s.size + 1) by unfold cutNewL; rw [hp]; rfl)
    have HI := Lib.hid (show cutNewI s k = (lastLe (firstI s.size) k (s.size + 1) : Int) by unfold cutNewI; rw [hp]; rfl)
    have HP := Lib.hid hp; clear hp
    go_enter Try.func65, Try.ntmps65
    go_wp2_with fail
    refine (impl_patternOk _ _ _ _ (by omega)).mono ?_
    rintro e w1 ⟨rfl, hb1⟩; rw [HP.out]
    obtain ⟨hc_w1, hf_w1⟩ := bcell hb1; have HT_w1 : Below w.heap.size w w1 := below_step (by repeat (first | exact Below.refl _ _ | assumption | (refine Below.drew ?_) | (refine below_drewN ?_ _) | (refine Below.alloc ?_ (by first | omega | (simp; done) | (simp; omega)) _) | (refine Below.setCell ?_ (by first | omega | (simp; done) | (simp; omega)) _))) hb1; have hy0_w1 : w.heap.size < w1.heap.size := (by have h1 := hb1.size; (try simp at h1); omega); have hy1_w1 : w.heap.size + 1 < w1.heap.size := (by have h1 := hb1.size; (try simp at h1); omega)
    go_wp2_with fail
    go_region_law ((go_simp; first | (go_at_call 103; refine (impl_firstColumn s _ hs).mono ?_; rintro e w2 ⟨a, cap, rfl, hO, hb2d⟩; have hb2 := below_undrew hb2d; obtain ⟨hc_w2, hf_w2⟩ := bcell hb2; have HT_w2 : Below w.heap.size w w2 := below_step (by repeat (first | exact Below.refl _ _ | assumption | (refine Below.drew ?_) | (refine below_drewN ?_ _) | (refine Below.alloc ?_ (by first | omega | (simp; done) | (simp; omega)) _) | (refine Below.setCell ?_ (by first | omega | (simp; done) | (simp; omega)) _))) hb2; have hy0_w2 : w.heap.size < w2.heap.size := (by have h1 := hb2.size; (try simp at h1); omega); have hy1_w2 : w.heap.size + 1 < w2.heap.size := (by have h1 := hb2.size; (try simp at h1); omega)) | (go_at_call 114; refine (impl_cutOff _ a _ cap k _ (tab_length _ _) hO.ints (by omega) (by omega) hk0 (by omega)).mono ?_; rintro e w3 ⟨a3, cap3, rfl, hO3, hb3⟩; obtain ⟨hc_w3, hf_w3⟩ := bcell hb3; have HT_w3 : Below w.heap.size w w3 := below_step (by repeat (first | exact Below.refl _ _ | assumption | (refine Below.drew ?_) | (refine below_drewN ?_ _) | (refine Below.alloc ?_ (by first | omega | (simp; done) | (simp; omega)) _) | (refine Below.setCell ?_ (by first | omega | (simp; done) | (simp; omega)) _))) hb3; have hy0_w3 : w.heap.size < w3.heap.size := (by have h1 := hb3.size; (try simp at h1); omega); have hy1_w3 : w.heap.size + 1 < w3.heap.size := (by have h1 := hb3.size; (try simp at h1); omega))))
    all_goals
      go_wp2
      exact bodyPost_ret (v := .agg #[.slice a3 (lastLe (firstI s.size) k (s.size + 1) + 1) cap3, .int .i64 (lastLe (firstI s.size) k (s.size + 1))]) (by simp [results, Try.results65, go_sem, hc_w3, hc_w2, hc_w1, hy1_w1, hy1_w2, firstI]) rfl ⟨_, _, _, by rw [HI.out], by rw [HR.out]; exact (hO3.set2 (g := w.heap.size + 1) (by omega) _ _).mono (by omega), below_set2 HT_w3 (by omega) _ _⟩
set_option maxHeartbeats 1000000 in
theorem spec_cutNew (s : ByteArray) (k : Int) (f : Bool) (w : World) (hs : s.size ≤ 1048576) :
    Calls Try.prog 66 #[.agg #[.string s, .int .i64 k, .bool f]] w fun e w' => ∃ a n cap, e = .returned (.agg #[.slice a n cap, .int .i64 (cutNewI s k)]) ∧ OwnN w' w.heap.size a n cap (cutNewL s k) ∧ Below w.heap.size w w' := by
  cases hp : patOk s k
  · have HR := Lib.hid (show cutNewL s k = [] by unfold cutNewL; rw [hp]; rfl)
    have HI := Lib.hid (show cutNewI s k = 0 by unfold cutNewI; rw [hp]; rfl)
    have HP := Lib.hid hp; clear hp
    go_enter Try.func66, Try.ntmps66
    go_wp2_with fail
    refine (spec_patternOk _ _ _ _ (by omega)).mono ?_
    rintro e w1 ⟨rfl, hb1⟩; rw [HP.out]
    obtain ⟨hc_w1, hf_w1⟩ := bcell hb1; have HT_w1 : Below w.heap.size w w1 := below_step (by repeat (first | exact Below.refl _ _ | assumption | (refine Below.drew ?_) | (refine below_drewN ?_ _) | (refine Below.alloc ?_ (by first | omega | (simp; done) | (simp; omega)) _) | (refine Below.setCell ?_ (by first | omega | (simp; done) | (simp; omega)) _))) hb1; have hy0_w1 : w.heap.size < w1.heap.size := (by have h1 := hb1.size; (try simp at h1); omega); have hy1_w1 : w.heap.size + 1 < w1.heap.size := (by have h1 := hb1.size; (try simp at h1); omega)
    go_wp2_with fail
    exact bodyPost_ret (v := .agg #[.slice none 0 0, .int .i64 0]) (by simp [results, Try.results66, go_sem, hc_w1]) rfl ⟨_, _, _, by rw [HI.out], by rw [HR.out]; exact OwnN.nil _ _, below_set2 HT_w1 (by omega) _ _⟩
  · obtain ⟨hs0, hs1, hk0, hk1⟩ := (patOk_iff s k).1 hp
    have HR := Lib.hid (show cutNewL s k = cutL (firstI s.size) k (s.size + 1) by unfold cutNewL; rw [hp]; rfl)
    have HI := Lib.hid (show cutNewI s k = (lastLe (firstI s.size) k (s.size + 1) : Int) by unfold cutNewI; rw [hp]; rfl)
    have HP := Lib.hid hp; clear hp
    have hwf : ∀ i, i < s.size + 1 → -9223372036854775808 ≤ intAt (tab idI (s.size + 1)) i ∧ intAt (tab idI (s.size + 1)) i ≤ 9223372036854775807 := by
      intro i hi; rw [intAt_tab _ _ _ hi]; unfold idI; omega
    have HW := Lib.hid hwf; clear hwf
    have HL := Lib.hid (lastLe_tabCap (firstI s.size) k (s.size + 1))
    have hll := lastLe_lt (firstI s.size) k (s.size + 1) (by omega)
    go_enter Try.func66, Try.ntmps66
    go_wp2_with fail
    refine (spec_patternOk _ _ _ _ (by omega)).mono ?_
    rintro e w1 ⟨rfl, hb1⟩; rw [HP.out]
    obtain ⟨hc_w1, hf_w1⟩ := bcell hb1; have HT_w1 : Below w.heap.size w w1 := below_step (by repeat (first | exact Below.refl _ _ | assumption | (refine Below.drew ?_) | (refine below_drewN ?_ _) | (refine Below.alloc ?_ (by first | omega | (simp; done) | (simp; omega)) _) | (refine Below.setCell ?_ (by first | omega | (simp; done) | (simp; omega)) _))) hb1; have hy0_w1 : w.heap.size < w1.heap.size := (by have h1 := hb1.size; (try simp at h1); omega); have hy1_w1 : w.heap.size + 1 < w1.heap.size := (by have h1 := hb1.size; (try simp at h1); omega)
    go_wp2_with fail
    go_region_law ((go_simp; first | (go_at_call 97; refine (spec_l3First s _ hs).mono ?_; rintro e w2 ⟨a, cap, rfl, hO, hb2d⟩; have hb2 := below_undrew hb2d; obtain ⟨hc_w2, hf_w2⟩ := bcell hb2; have HT_w2 : Below w.heap.size w w2 := below_step (by repeat (first | exact Below.refl _ _ | assumption | (refine Below.drew ?_) | (refine below_drewN ?_ _) | (refine Below.alloc ?_ (by first | omega | (simp; done) | (simp; omega)) _) | (refine Below.setCell ?_ (by first | omega | (simp; done) | (simp; omega)) _))) hb2; have hy0_w2 : w.heap.size < w2.heap.size := (by have h1 := hb2.size; (try simp at h1); omega); have hy1_w2 : w.heap.size + 1 < w2.heap.size := (by have h1 := hb2.size; (try simp at h1); omega)) | (go_at_call 111; refine (spec_l6Cap s k f _ a _ cap _ (tab_length _ _) hO.ints (by omega) hk0 (by omega) HW.out).mono ?_; rintro e w3 ⟨a3, cap3, rfl, hO3, hb3⟩; have hcap3 := hO3.cap_le (by omega); obtain ⟨hc_w3, hf_w3⟩ := bcell hb3; have HT_w3 : Below w.heap.size w w3 := below_step (by repeat (first | exact Below.refl _ _ | assumption | (refine Below.drew ?_) | (refine below_drewN ?_ _) | (refine Below.alloc ?_ (by first | omega | (simp; done) | (simp; omega)) _) | (refine Below.setCell ?_ (by first | omega | (simp; done) | (simp; omega)) _))) hb3; have hy0_w3 : w.heap.size < w3.heap.size := (by have h1 := hb3.size; (try simp at h1); omega); have hy1_w3 : w.heap.size + 1 < w3.heap.size := (by have h1 := hb3.size; (try simp at h1); omega)) | (go_at_call 110; refine (spec_l6Of s k f _ a3 _ cap3 _ (tab_length _ _) hO3.ints (by omega) (by omega) hcap3).mono ?_; rintro e w4 ⟨a4, cap4, rfl, hO4, hb4⟩; obtain ⟨hc_w4, hf_w4⟩ := bcell hb4; have HT_w4 : Below w.heap.size w w4 := below_step (by repeat (first | exact Below.refl _ _ | assumption | (refine Below.drew ?_) | (refine below_drewN ?_ _) | (refine Below.alloc ?_ (by first | omega | (simp; done) | (simp; omega)) _) | (refine Below.setCell ?_ (by first | omega | (simp; done) | (simp; omega)) _))) hb4; have hy0_w4 : w.heap.size < w4.heap.size := (by have h1 := hb4.size; (try simp at h1); omega); have hy1_w4 : w.heap.size + 1 < w4.heap.size := (by have h1 := hb4.size; (try simp at h1); omega))))
    all_goals
      rw [show lastLe (intAt (tab (capI (intAt (tab idI (s.size + 1))) k) (s.size + 1))) k (s.size + 1) = lastLe (firstI s.size) k (s.size + 1) from HL.out] at hO4 ⊢
      go_wp2
      exact bodyPost_ret (v := .agg #[.slice a4 (lastLe (firstI s.size) k (s.size + 1) + 1) cap4, .int .i64 (lastLe (firstI s.size) k (s.size + 1))]) (by simp [results, Try.results66, go_sem, hc_w4, hc_w3, hc_w2, hc_w1, hy1_w1, hy1_w2, hy1_w3]) rfl ⟨_, _, _, by rw [HI.out], by rw [HR.out]; exact (by rw [tab_take _ _ _ (by omega)] at hO4; exact (hO4.set2 (g := w.heap.size + 1) (by omega) _ _).mono (by omega)), below_set2 HT_w4 (by omega) _ _⟩
end Go.Proofs.Ytglldmfhjipacaa

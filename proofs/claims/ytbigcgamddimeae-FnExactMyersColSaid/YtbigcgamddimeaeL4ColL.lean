/-
  Chapter 4: contracts of MyersCol; FnExactMyersCol's walk.
-/
import Derived.Test.YtbigcgamddimeaeL4OkL
namespace Go.Proofs.Ytbigcgamddimeae
open Go.RowKit
set_option linter.unusedVariables false
def myColL (s : ByteArray) (k : Int) (u d t : Int) : List Int := if myOkB s k u d t then tab (colF u d) (s.size + 1) else []
theorem myOkB_parts {s : ByteArray} {k u d t : Int} (h : myOkB s k u d t = true) : s.size ≤ 20 ∧ (0 ≤ u ∧ u ≤ 1048576) ∧ (0 ≤ d ∧ d ≤ 1048576) := by
  simp only [myOkB, Bool.and_eq_true] at h
  obtain ⟨⟨hp, ⟨hu, hd⟩, _⟩, _⟩ := h
  obtain ⟨_, hs1, _, _⟩ := (patOk_iff s k).1 hp
  have p2 := pow_small s.size hs1
  have h1 : 0 ≤ u ∧ u ≤ 2 ^ s.size - 1 := by simpa [inB] using hu
  have h2 : 0 ≤ d ∧ d ≤ 2 ^ s.size - 1 := by simpa [inB] using hd
  omega
theorem impl_myersCol (s : ByteArray) (k : Int) (f : Bool) (u d t : Int) (w : World) (hs : s.size ≤ 1048576) (hu : I64 u) (hd : I64 d) :
    Calls Try.prog 15 #[.agg #[.string s, .int .i64 k, .bool f], .agg #[.int .i64 u, .int .i64 d, .int .i64 t]] w fun e w' => ∃ a n cap, e = .returned (.slice a n cap) ∧ OwnN w' w.heap.size a n cap (myColL s k u d t) ∧ Below w.heap.size w w' := by
  cases hm : myOkB s k u d t
  · have HM := Lib.hid hm
    have HR := Lib.hid (show myColL s k u d t = [] by unfold myColL; rw [hm]; rfl)
    clear hm
    go_enter Try.func15, Try.ntmps15
    go_wp2_with fail
    refine (impl_myersRight s k f u d t _ hs hu hd).mono ?_
    rintro e w1 ⟨rfl, hb1⟩; rw [HM.out]
    obtain ⟨hc_w1, hf_w1⟩ := bcell hb1; have HT_w1 : Below w.heap.size w w1 := below_step (by repeat (first | exact Below.refl _ _ | assumption | (refine Below.drew ?_) | (refine below_drewN ?_ _) | (refine Below.alloc ?_ (by first | omega | (simp; done) | (simp; omega)) _) | (refine Below.setCell ?_ (by first | omega | (simp; done) | (simp; omega)) _))) hb1; have hy0_w1 : w.heap.size < w1.heap.size := (by have h1 := hb1.size; (try simp at h1); omega); have hy1_w1 : w.heap.size + 1 < w1.heap.size := (by have h1 := hb1.size; (try simp at h1); omega)
    go_wp2_with fail
    go_ret
    exact ⟨_, _, _, rfl, by rw [HR.out]; exact OwnN.nil _ _, HT_w1⟩
  · have HM := Lib.hid hm
    have HR := Lib.hid (show myColL s k u d t = tab (colF u d) (s.size + 1) by unfold myColL; rw [hm]; rfl)
    obtain ⟨hs1, hu2, hd2⟩ := myOkB_parts hm
    have HU := Lib.hid hu2; have HD := Lib.hid hd2
    clear hm hu2 hd2
    go_enter Try.func15, Try.ntmps15
    go_wp2_with fail
    refine (impl_myersRight s k f u d t _ hs hu hd).mono ?_
    rintro e w1 ⟨rfl, hb1⟩; rw [HM.out]
    obtain ⟨hc_w1, hf_w1⟩ := bcell hb1; have HT_w1 : Below w.heap.size w w1 := below_step (by repeat (first | exact Below.refl _ _ | assumption | (refine Below.drew ?_) | (refine below_drewN ?_ _) | (refine Below.alloc ?_ (by first | omega | (simp; done) | (simp; omega)) _) | (refine Below.setCell ?_ (by first | omega | (simp; done) | (simp; omega)) _))) hb1; have hy0_w1 : w.heap.size < w1.heap.size := (by have h1 := hb1.size; (try simp at h1); omega); have hy1_w1 : w.heap.size + 1 < w1.heap.size := (by have h1 := hb1.size; (try simp at h1); omega)
    go_wp2_with fail
    refine (impl_columnOf_myers s k f u d t _ hs1 HU.out HD.out).mono ?_
    rintro e w2 ⟨a, cap, rfl, hO, hb2⟩
    go_wp2_with fail
    go_ret
    exact ⟨_, _, _, rfl, by rw [HR.out]; exact hO.mono HT_w1.size, below_step HT_w1 hb2⟩
theorem spec_myersCol (s : ByteArray) (k : Int) (f : Bool) (u d t : Int) (w : World) (hs : s.size ≤ 1048576) (hu : I64 u) (hd : I64 d) :
    Calls Try.prog 14 #[.agg #[.string s, .int .i64 k, .bool f], .agg #[.int .i64 u, .int .i64 d, .int .i64 t]] w fun e w' => ∃ a n cap, e = .returned (.slice a n cap) ∧ OwnN w' w.heap.size a n cap (myColL s k u d t) ∧ Below w.heap.size w w' := by
  cases hm : myOkB s k u d t
  · have HM := Lib.hid hm
    have HR := Lib.hid (show myColL s k u d t = [] by unfold myColL; rw [hm]; rfl)
    clear hm
    go_enter Try.func14, Try.ntmps14
    go_wp2_with fail
    refine (spec_myersOk s k f u d t _ hs hu hd).mono ?_
    rintro e w1 ⟨rfl, hb1⟩; rw [HM.out]
    obtain ⟨hc_w1, hf_w1⟩ := bcell hb1; have HT_w1 : Below w.heap.size w w1 := below_step (by repeat (first | exact Below.refl _ _ | assumption | (refine Below.drew ?_) | (refine below_drewN ?_ _) | (refine Below.alloc ?_ (by first | omega | (simp; done) | (simp; omega)) _) | (refine Below.setCell ?_ (by first | omega | (simp; done) | (simp; omega)) _))) hb1; have hy0_w1 : w.heap.size < w1.heap.size := (by have h1 := hb1.size; (try simp at h1); omega); have hy1_w1 : w.heap.size + 1 < w1.heap.size := (by have h1 := hb1.size; (try simp at h1); omega)
    go_wp2_with fail
    go_ret
    exact ⟨_, _, _, rfl, by rw [HR.out]; exact ⟨rfl, World.ownsRow_made w1 #[] 0 (by omega) (by decide) rfl⟩, HT_w1.alloc HT_w1.size _⟩
  · have HM := Lib.hid hm
    have HR := Lib.hid (show myColL s k u d t = tab (colF u d) (s.size + 1) by unfold myColL; rw [hm]; rfl)
    obtain ⟨hs1, hu2, hd2⟩ := myOkB_parts hm
    have HU := Lib.hid hu2; have HD := Lib.hid hd2
    clear hm hu2 hd2
    go_enter Try.func14, Try.ntmps14
    go_wp2_with fail
    refine (spec_myersOk s k f u d t _ hs hu hd).mono ?_
    rintro e w1 ⟨rfl, hb1⟩; rw [HM.out]
    obtain ⟨hc_w1, hf_w1⟩ := bcell hb1; have HT_w1 : Below w.heap.size w w1 := below_step (by repeat (first | exact Below.refl _ _ | assumption | (refine Below.drew ?_) | (refine below_drewN ?_ _) | (refine Below.alloc ?_ (by first | omega | (simp; done) | (simp; omega)) _) | (refine Below.setCell ?_ (by first | omega | (simp; done) | (simp; omega)) _))) hb1; have hy0_w1 : w.heap.size < w1.heap.size := (by have h1 := hb1.size; (try simp at h1); omega); have hy1_w1 : w.heap.size + 1 < w1.heap.size := (by have h1 := hb1.size; (try simp at h1); omega)
    go_wp2_with fail
    refine (spec_l4Col s k f u d t _ hs1 HU.out HD.out).mono ?_
    rintro e w2 ⟨a, cap, rfl, hO, hb2⟩
    go_wp2_with fail
    go_ret
    exact ⟨_, _, _, rfl, by rw [HR.out]; exact hO.mono HT_w1.size, below_step HT_w1 hb2⟩
theorem myColL_len (s : ByteArray) (k : Int) (u d t : Int) : (myColL s k u d t).length ≤ 21 := by
  unfold myColL
  cases hm : myOkB s k u d t
  · simp
  · have := (myOkB_parts hm).1
    simp [tab_length]; omega
set_option maxHeartbeats 8000000 in
theorem law_FnExactMyersCol (s : ByteArray) (hs : s.size ≤ maxLen) (k : Int) (_wk : (Lit.int .i64 k).wf = true) (f : Bool) (u : Int) (wu : (Lit.int .i64 u).wf = true) (d : Int) (wd : (Lit.int .i64 d).wf = true) (t : Int) (wt : (Lit.int .i64 t).wf = true) (w : World) :
    Calls Try.prog 4 #[.agg #[.string s, .int .i64 k, .bool f], .agg #[.int .i64 u, .int .i64 d, .int .i64 t]] w fun e w' => e = .returned (.bool true) ∧ Below w.heap.size w w' := by
  have hu := Lib.hid (i64_of_wf wu)
  have hd := Lib.hid (i64_of_wf wd)
  have hl := myColL_len s k u d t
  clear wu wd wt
  unfold maxLen at hs
  by_cases hbig : (s.size : Int) ≤ 1048576
  · have H := Lib.hid (szI_yes hbig)
    have hs2 : s.size ≤ 1048576 := by omega
    go_enter Try.func4, Try.ntmps4
    go_wp2_with fail
    refine (laws_szPattern _ _ _ _ _ (by omega) (by omega) (by omega)).mono ?_
    rintro e w1 ⟨rfl, hb1⟩
    rw [H.out]
    obtain ⟨hc_w1, hf_w1⟩ := bcell hb1; have HT_w1 : Below w.heap.size w w1 := below_step (by repeat (first | exact Below.refl _ _ | assumption | (refine Below.drew ?_) | (refine below_drewN ?_ _) | (refine Below.alloc ?_ (by first | omega | (simp; done) | (simp; omega)) _) | (refine Below.setCell ?_ (by first | omega | (simp; done) | (simp; omega)) _))) hb1; have hy0_w1 : w.heap.size < w1.heap.size := (by have h1 := hb1.size; (try simp at h1); omega); have hy1_w1 : w.heap.size + 1 < w1.heap.size := (by have h1 := hb1.size; (try simp at h1); omega)
    go_wp2_with fail
    go_region_law ((go_simp; first | (go_at_call 11; refine (laws_toPattern _ _ _ _).mono ?_; rintro e w2 ⟨rfl, hb2d⟩; have hb2 := below_undrew hb2d; obtain ⟨hc_w2, hf_w2⟩ := bcell hb2; have HT_w2 : Below w.heap.size w w2 := below_step (by repeat (first | exact Below.refl _ _ | assumption | (refine Below.drew ?_) | (refine below_drewN ?_ _) | (refine Below.alloc ?_ (by first | omega | (simp; done) | (simp; omega)) _) | (refine Below.setCell ?_ (by first | omega | (simp; done) | (simp; omega)) _))) hb2; have hy0_w2 : w.heap.size < w2.heap.size := (by have h1 := hb2.size; (try simp at h1); omega); have hy1_w2 : w.heap.size + 1 < w2.heap.size := (by have h1 := hb2.size; (try simp at h1); omega)) | (go_at_call 12; refine (toMyers_any _ _ _ _).mono ?_; rintro e w3 ⟨rfl, hb3⟩; obtain ⟨hc_w3, hf_w3⟩ := bcell hb3; have HT_w3 : Below w.heap.size w w3 := below_step (by repeat (first | exact Below.refl _ _ | assumption | (refine Below.drew ?_) | (refine below_drewN ?_ _) | (refine Below.alloc ?_ (by first | omega | (simp; done) | (simp; omega)) _) | (refine Below.setCell ?_ (by first | omega | (simp; done) | (simp; omega)) _))) hb3; have hy0_w3 : w.heap.size < w3.heap.size := (by have h1 := hb3.size; (try simp at h1); omega); have hy1_w3 : w.heap.size + 1 < w3.heap.size := (by have h1 := hb3.size; (try simp at h1); omega)) | (go_at_call 14; refine (spec_myersCol s k f u d t _ hs2 hu.out hd.out).mono ?_; rintro e w4 ⟨a4, n4, cap4, rfl, hO4, hb4⟩; obtain ⟨hc_w4, hf_w4⟩ := bcell hb4; have HT_w4 : Below w.heap.size w w4 := below_step (by repeat (first | exact Below.refl _ _ | assumption | (refine Below.drew ?_) | (refine below_drewN ?_ _) | (refine Below.alloc ?_ (by first | omega | (simp; done) | (simp; omega)) _) | (refine Below.setCell ?_ (by first | omega | (simp; done) | (simp; omega)) _))) hb4; have hy0_w4 : w.heap.size < w4.heap.size := (by have h1 := hb4.size; (try simp at h1); omega); have hy1_w4 : w.heap.size + 1 < w4.heap.size := (by have h1 := hb4.size; (try simp at h1); omega))))
    all_goals
      have hn4 : n4 ≤ 1048577 := by have := hO4.len; omega
      go_wp2_with fail
      go_region_law ((go_simp; first | (go_at_call 11; refine (laws_toPattern _ _ _ _).mono ?_; rintro e w5 ⟨rfl, hb5d⟩; have hb5 := below_undrew hb5d; obtain ⟨hc_w5, hf_w5⟩ := bcell hb5; have HT_w5 : Below w.heap.size w w5 := below_step (by repeat (first | exact Below.refl _ _ | assumption | (refine Below.drew ?_) | (refine below_drewN ?_ _) | (refine Below.alloc ?_ (by first | omega | (simp; done) | (simp; omega)) _) | (refine Below.setCell ?_ (by first | omega | (simp; done) | (simp; omega)) _))) hb5; have hy0_w5 : w.heap.size < w5.heap.size := (by have h1 := hb5.size; (try simp at h1); omega); have hy1_w5 : w.heap.size + 1 < w5.heap.size := (by have h1 := hb5.size; (try simp at h1); omega)) | (go_at_call 12; refine (toMyers_any _ _ _ _).mono ?_; rintro e w6 ⟨rfl, hb6⟩; obtain ⟨hc_w6, hf_w6⟩ := bcell hb6; have HT_w6 : Below w.heap.size w w6 := below_step (by repeat (first | exact Below.refl _ _ | assumption | (refine Below.drew ?_) | (refine below_drewN ?_ _) | (refine Below.alloc ?_ (by first | omega | (simp; done) | (simp; omega)) _) | (refine Below.setCell ?_ (by first | omega | (simp; done) | (simp; omega)) _))) hb6; have hy0_w6 : w.heap.size < w6.heap.size := (by have h1 := hb6.size; (try simp at h1); omega); have hy1_w6 : w.heap.size + 1 < w6.heap.size := (by have h1 := hb6.size; (try simp at h1); omega)) | (go_at_call 15; refine (impl_myersCol s k f u d t _ hs2 hu.out hd.out).mono ?_; rintro e w7 ⟨a7, n7, cap7, rfl, hO7, hb7⟩; obtain ⟨hc_w7, hf_w7⟩ := bcell hb7; have HT_w7 : Below w.heap.size w w7 := below_step (by repeat (first | exact Below.refl _ _ | assumption | (refine Below.drew ?_) | (refine below_drewN ?_ _) | (refine Below.alloc ?_ (by first | omega | (simp; done) | (simp; omega)) _) | (refine Below.setCell ?_ (by first | omega | (simp; done) | (simp; omega)) _))) hb7; have hy0_w7 : w.heap.size < w7.heap.size := (by have h1 := hb7.size; (try simp at h1); omega); have hy1_w7 : w.heap.size + 1 < w7.heap.size := (by have h1 := hb7.size; (try simp at h1); omega))))
      all_goals
        have hK6 := below_step hb5 hb6
        have hK7 := below_step hK6 hb7
        have hn7 : n7 = n4 := hO7.len.symm.trans hO4.len
        subst hn7
        go_wp2_with fail
        refine (laws_eqInt64S _ _ _ _ _ _ _ hO7.len hO7.ints (hO4.kept hK7).ints hn4).mono ?_
        rintro e w8 ⟨rfl, hb8⟩
        have hK8 := below_step hK7 hb8
        have hO8 := (hO7.mono (C := w4.heap.size) hK6.size).kept hb8
        obtain ⟨hc_w8, hf_w8⟩ := bcell hb8; have HT_w8 : Below w.heap.size w w8 := below_step (by repeat (first | exact Below.refl _ _ | assumption | (refine Below.drew ?_) | (refine below_drewN ?_ _) | (refine Below.alloc ?_ (by first | omega | (simp; done) | (simp; omega)) _) | (refine Below.setCell ?_ (by first | omega | (simp; done) | (simp; omega)) _))) hb8; have hy0_w8 : w.heap.size < w8.heap.size := (by have h1 := hb8.size; (try simp at h1); omega); have hy1_w8 : w.heap.size + 1 < w8.heap.size := (by have h1 := hb8.size; (try simp at h1); omega)
        go_wp2_with fail
        refine (laws_markInt64S _ _ _ _ _ _ _ hO8 hK8.size hn4 (by omega) (by omega)).mono ?_
        rintro e w9 ⟨M, rfl, hO9, hU, hb9⟩
        have hK9 := hK8.trans hb9
        obtain ⟨hc_w9, hf_w9⟩ := bcell hK9
        have HT_w9 := below_step HT_w4 hK9
        have hy0_w9 : w.heap.size < w9.heap.size := by have := hK9.size; omega
        have hy1_w9 : w.heap.size + 1 < w9.heap.size := by have := hK9.size; omega
        clear hc_w5 hc_w6 hc_w7 hc_w8 hf_w5 hf_w6 hf_w7 hf_w8
        go_wp2_with fail
        refine (laws_heldInt64S _ _ _ _ _ _ hO9.len hO9.ints hU hn4 (by omega) (by omega)).mono ?_
        rintro e w10 ⟨rfl, hb10⟩
        have hK10 := below_step hK9 hb10
        replace hO9 := hO9.kept hb10
        obtain ⟨hc_w10, hf_w10⟩ := bcell hb10; have HT_w10 : Below w.heap.size w w10 := below_step (by repeat (first | exact Below.refl _ _ | assumption | (refine Below.drew ?_) | (refine below_drewN ?_ _) | (refine Below.alloc ?_ (by first | omega | (simp; done) | (simp; omega)) _) | (refine Below.setCell ?_ (by first | omega | (simp; done) | (simp; omega)) _))) hb10; have hy0_w10 : w.heap.size < w10.heap.size := (by have h1 := hb10.size; (try simp at h1); omega); have hy1_w10 : w.heap.size + 1 < w10.heap.size := (by have h1 := hb10.size; (try simp at h1); omega)
        go_wp2_with fail
        go_region_law ((go_simp; first | (go_at_call 11; refine (laws_toPattern _ _ _ _).mono ?_; rintro e w11 ⟨rfl, hb11d⟩; have hb11 := below_undrew hb11d; obtain ⟨hc_w11, hf_w11⟩ := bcell hb11; have HT_w11 : Below w.heap.size w w11 := below_step (by repeat (first | exact Below.refl _ _ | assumption | (refine Below.drew ?_) | (refine below_drewN ?_ _) | (refine Below.alloc ?_ (by first | omega | (simp; done) | (simp; omega)) _) | (refine Below.setCell ?_ (by first | omega | (simp; done) | (simp; omega)) _))) hb11; have hy0_w11 : w.heap.size < w11.heap.size := (by have h1 := hb11.size; (try simp at h1); omega); have hy1_w11 : w.heap.size + 1 < w11.heap.size := (by have h1 := hb11.size; (try simp at h1); omega)) | (go_at_call 12; refine (toMyers_any _ _ _ _).mono ?_; rintro e w12 ⟨rfl, hb12⟩; obtain ⟨hc_w12, hf_w12⟩ := bcell hb12; have HT_w12 : Below w.heap.size w w12 := below_step (by repeat (first | exact Below.refl _ _ | assumption | (refine Below.drew ?_) | (refine below_drewN ?_ _) | (refine Below.alloc ?_ (by first | omega | (simp; done) | (simp; omega)) _) | (refine Below.setCell ?_ (by first | omega | (simp; done) | (simp; omega)) _))) hb12; have hy0_w12 : w.heap.size < w12.heap.size := (by have h1 := hb12.size; (try simp at h1); omega); have hy1_w12 : w.heap.size + 1 < w12.heap.size := (by have h1 := hb12.size; (try simp at h1); omega)) | (go_at_call 15; refine (impl_myersCol s k f u d t _ hs2 hu.out hd.out).mono ?_; rintro e w13 ⟨a13, n13, cap13, rfl, hO13, hb13⟩; obtain ⟨hc_w13, hf_w13⟩ := bcell hb13; have HT_w13 : Below w.heap.size w w13 := below_step (by repeat (first | exact Below.refl _ _ | assumption | (refine Below.drew ?_) | (refine below_drewN ?_ _) | (refine Below.alloc ?_ (by first | omega | (simp; done) | (simp; omega)) _) | (refine Below.setCell ?_ (by first | omega | (simp; done) | (simp; omega)) _))) hb13; have hy0_w13 : w.heap.size < w13.heap.size := (by have h1 := hb13.size; (try simp at h1); omega); have hy1_w13 : w.heap.size + 1 < w13.heap.size := (by have h1 := hb13.size; (try simp at h1); omega))))
        all_goals
          have hK13 := below_step (below_step (below_step hK10 hb11) hb12) hb13
          have hOg := ((hO9.kept hb11).kept hb12).kept hb13
          have hn13 : n13 = n7 := hO13.len.symm.trans hO4.len
          subst hn13
          go_wp2_with fail
          refine (laws_eqInt64S _ _ _ _ _ _ _ hO13.len hO13.ints (hO4.kept hK13).ints hn4).mono ?_
          rintro e w14 ⟨rfl, hb14⟩
          obtain ⟨hc_w14, hf_w14⟩ := bcell hb14; have HT_w14 : Below w.heap.size w w14 := below_step (by repeat (first | exact Below.refl _ _ | assumption | (refine Below.drew ?_) | (refine below_drewN ?_ _) | (refine Below.alloc ?_ (by first | omega | (simp; done) | (simp; omega)) _) | (refine Below.setCell ?_ (by first | omega | (simp; done) | (simp; omega)) _))) hb14; have hy0_w14 : w.heap.size < w14.heap.size := (by have h1 := hb14.size; (try simp at h1); omega)
          replace hOg := hOg.kept hb14
          go_wp2_with fail
          refine (laws_heldInt64S _ _ _ _ _ _ hOg.len hOg.ints hU hn4 (by omega) (by omega)).mono ?_
          rintro e w15 ⟨rfl, hb15⟩
          go_wp2_with fail
          go_ret
          exact ⟨rfl, below_step HT_w14 hb15⟩
  · go_enter Try.func4, Try.ntmps4
    have H := Lib.hid (szI_no hbig)
    go_wp2_with fail
    refine (laws_szPattern _ _ _ _ _ (by omega) (by omega) (by omega)).mono ?_
    rintro e w1 ⟨rfl, hb1⟩
    rw [H.out]
    obtain ⟨hc_w1, hf_w1⟩ := bcell hb1; have HT_w1 : Below w.heap.size w w1 := below_step (by repeat (first | exact Below.refl _ _ | assumption | (refine Below.drew ?_) | (refine below_drewN ?_ _) | (refine Below.alloc ?_ (by first | omega | (simp; done) | (simp; omega)) _) | (refine Below.setCell ?_ (by first | omega | (simp; done) | (simp; omega)) _))) hb1; have hy0_w1 : w.heap.size < w1.heap.size := (by have h1 := hb1.size; (try simp at h1); omega)
    go_wp2_with fail
    go_ret
    exact ⟨rfl, HT_w1⟩
end Go.Proofs.Ytbigcgamddimeae

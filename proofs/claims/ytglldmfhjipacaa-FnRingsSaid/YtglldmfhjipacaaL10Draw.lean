/-
  Chapter 10: what is drawn: rings.
-/
import Derived.Test.YtglldmfhjipacaaL10Cut
import Derived.Test.YtglldmfhjipacaaL3Draw
import Derived.StillTailTactics
namespace Go.Proofs.Ytglldmfhjipacaa
open Go.RowKit
set_option linter.unusedVariables false
set_option maxRecDepth 100000
theorem wf_i64 {e : Int} (h : i64B e) : (Lit.int .i64 e).wf = true := by
  unfold i64B at h
  have h1 : IntKind.i64.max = 9223372036854775807 := rfl
  have h2 : IntKind.i64.min = -9223372036854775808 := rfl
  simp [Lit.wf, h1, h2]; omega
def RingFine (z e : Int) (d : ByteArray) : Prop := i64B z ∧ i64B e ∧ d.size ≤ 200
theorem i64_zero : i64B 0 := by unfold i64B; omega
theorem fine_new (z e : Int) : RingFine (rnZ z e) (rnE z e) ⟨#[]⟩ := by
  unfold RingFine rnZ rnE i64B
  cases h : ringB z e 0
  · exact ⟨by simp, by simp, by decide⟩
  · have := (ringB_iff _ _ _).1 h
    exact ⟨by simp; omega, by simp; omega, by decide⟩
theorem tailB_size (z : Int) (t : ByteArray) : (tailB z t).size = min t.size z.toNat := by
  unfold tailB; rw [ByteArray.size_extract]; omega
theorem fine_put (z e : Int) (d s : ByteArray) : RingFine (rpZ z e d s) (rpE z e d s) (rpD z e d s) := by
  unfold RingFine i64B
  cases h : putB z e d s
  · obtain ⟨h1, h2, h3⟩ := putB_no h
    rw [h1, h2, h3]; exact ⟨by omega, by omega, by decide⟩
  · obtain ⟨h1, h2, h3⟩ := putB_yes h
    rw [h1, h2, h3]
    unfold putB at h
    simp only [Bool.and_eq_true, decide_eq_true_eq] at h
    have := (ringB_iff _ _ _).1 h.1
    refine ⟨by omega, by omega, by rw [tailB_size]; omega⟩
theorem grown_drewD {w w1 : World} {r : Option Nat} (h : w.grownBy w1 r) : w.grownBy w1.drew r := ⟨h.os, h.tape, h.output, h.size, h.block⟩
theorem set3_far' {X : World} {b r : Nat} (h : r ≠ b) (x y v : Value) : (((X.setCell ⟨b, 0, none⟩ x).setCell ⟨b, 1, none⟩ y).setCell ⟨b, 2, none⟩ v).heap[r]? = X.heap[r]? :=
  (Below.heap_setCell _ ⟨b, 2, none⟩ _ r h).trans ((Below.heap_setCell _ ⟨b, 1, none⟩ _ r h).trans (Below.heap_setCell _ ⟨b, 0, none⟩ _ r h))
theorem set3_row' {X : World} {b : Nat} {c0 c1 c2 : Value} {t : TypeId} {fr : Nat × Nat} (h : X.heap[b]? = some (.cells #[c0, c1, c2] t fr)) (x y v : Value) : (((X.setCell ⟨b, 0, none⟩ x).setCell ⟨b, 1, none⟩ y).setCell ⟨b, 2, none⟩ v).heap[b]? = some (.cells #[x, y, v] t fr) := by
  have h1 := heap_setCell_mark X b 0 _ t fr x h
  have h2 := heap_setCell_mark _ b 1 _ t fr y h1
  have h3 := heap_setCell_mark _ b 2 _ t fr v h2
  rw [h3]; rfl
set_option maxHeartbeats 4000000 in
theorem rd_ring (w : World) (R : Nat) (a : Option Addr) (len cap : Nat) (z : List Int) (h : RdOk w R a len cap z) :
    Calls Try.prog 73 #[.pointer (some ⟨R, 0, none⟩)] w fun r w' => ∃ (y e : Int) (d : ByteArray), r = .returned (.agg #[.int .i64 y, .int .i64 e, .string d]) ∧ RingFine y e d ∧ RdOk w' R a len cap z ∧ w.grownBy w' (some R) := by
  have hR := h.lt
  go_enter Try.func73, Try.ntmps73
  go_wp2_with fail
  have rM := heap_alloc_new w (.cells #[.int .i64 0, .int .i64 0, .string ⟨#[]⟩] 25)
  have hok0 := h.alloc (.cells #[.int .i64 0, .int .i64 0, .string ⟨#[]⟩] 25)
  have hw0 := World.grownBy_alloc w (.cells #[.int .i64 0, .int .i64 0, .string ⟨#[]⟩] 25) (some R)
  have z0 : w.heap.size < (w.alloc (.cells #[.int .i64 0, .int .i64 0, .string ⟨#[]⟩] 25)).heap.size := by simp
  generalize w.alloc (.cells #[.int .i64 0, .int .i64 0, .string ⟨#[]⟩] 25) = w0 at *
  refine (rd_below _ _ _ _ _ _ hok0 _).mono ?_
  rintro r w1 ⟨q1, rfl, _, hok1, hg1⟩
  replace rM := (hg1.block w.heap.size (by omega) (by simp; omega)).trans rM
  have hw1 := grownBy_trans hw0 hg1
  have z1 := hg1.size
  clear hok0 hw0 hg1
  go_wp2_with fail
  refine (rd_below _ _ _ _ _ _ hok1 _).mono ?_
  rintro r w2 ⟨q2, rfl, _, hok2, hg2⟩
  replace rM := (hg2.block w.heap.size (by omega) (by simp; omega)).trans rM
  have hw2 := grownBy_trans hw1 hg2
  have z2 := hg2.size
  clear hok1 hw1 hg2
  go_wp2_with fail
  refine (spec_ringNew _ _ _).mono ?_
  rintro r w3 ⟨rfl, hb3⟩
  replace rM := (hb3.block w.heap.size (by omega)).trans rM
  have hw3 := grownBy_trans hw2 (grown_of_below hb3 (some R))
  have hok3 := hok2.below hb3
  have z3 := hb3.size
  have hF := fine_new q1 q2
  generalize rnZ q1 q2 = y3 at *
  generalize rnE q1 q2 = e3 at *
  generalize ringB q1 q2 0 = o3 at *
  clear hok2 hw2 hb3
  go_wp2_with fail
  have rX := heap_alloc_new w3 (.cells #[.int .i64 y3, .int .i64 e3, .string ⟨#[]⟩] 25)
  replace rM := (Below.heap_alloc w3 (.cells #[.int .i64 y3, .int .i64 e3, .string ⟨#[]⟩] 25) w.heap.size (by omega)).trans rM
  have hok4 := hok3.alloc (.cells #[.int .i64 y3, .int .i64 e3, .string ⟨#[]⟩] 25)
  have hw4 := grownBy_alloc hw3 (.cells #[.int .i64 y3, .int .i64 e3, .string ⟨#[]⟩] 25)
  have z4 : w3.heap.size < (w3.alloc (.cells #[.int .i64 y3, .int .i64 e3, .string ⟨#[]⟩] 25)).heap.size := by simp
  generalize w3.alloc (.cells #[.int .i64 y3, .int .i64 e3, .string ⟨#[]⟩] 25) = w4 at *
  have hWX : w.heap.size < w3.heap.size := by omega
  generalize w3.heap.size = X at *
  clear hok3 hw3
  refine (rd_below _ _ _ _ _ _ hok4 _).mono ?_
  rintro r w5 ⟨q5, rfl, ⟨hq0, _, _, hq1⟩, hok5, hg5⟩
  replace rM := (hg5.block w.heap.size (by omega) (by simp; omega)).trans rM
  replace rX := (hg5.block X (by omega) (by simp; omega)).trans rX
  have hw5 := grownBy_trans hw4 hg5
  have z5 : X < w5.heap.size := Nat.lt_of_lt_of_le z4 hg5.size
  clear hok4 hw4 hg5 z0 z1 z2 z3 z4
  obtain ⟨q, rfl⟩ := Int.eq_ofNat_of_zero_le hq0
  clear hq0
  have HF := Lib.hid hF; clear hF
  go_wp2_with fail
  go_loopw [4, 5] (fun o i wr => ∃ (j : Nat) (y e : Int) (d : ByteArray) (b : Bool), o = .bool b ∧ i = .int .i64 j ∧ j ≤ 65535 ∧ RingFine y e d ∧ RdOk wr R a len cap z ∧ w.grownBy wr (some R) ∧ wr.heap[w.heap.size]? = some (.cells #[.int .i64 0, .int .i64 0, .string ⟨#[]⟩] 25 (0, 0)) ∧ wr.heap[X]? = some (.cells #[.int .i64 y, .int .i64 e, .string d] 25 (0, 0)) ∧ X < wr.heap.size)
    (fun _ i _ => (intOf i).toNat)
  case atStart => exact ⟨q, _, _, _, _, rfl, rfl, by omega, HF.out, hok5, hw5, rM, rX, z5⟩
  case round =>
    obtain ⟨j, y, e, d, b, rfl, rfl, hj, hF, hok, hgr, cM, cX, hz⟩ := hrel
    clear rM rX hok5 hw5 HF z5 hq1
    have HF := Lib.hid hF
    by_cases hgo : j ≠ 0 ∧ b = true
    · obtain ⟨hj0, rfl⟩ := hgo
      have j3 : (0 : Int) < (j : Int) := by omega
      have hd2 : d.size ≤ 1048576 := by have := hF.2.2; omega
      have he2 := Lib.hid (wf_i64 hF.2.1)
      obtain ⟨x0, x1, x2⟩ := box3r (show wr.drew.heap[X]? = _ from cX)
      have cMd : wr.drew.heap[w.heap.size]? = _ := cM
      have cXd : wr.drew.heap[X]? = _ := cX
      have hokd : RdOk wr.drew R a len cap z := hok.below ((Below.refl wr.heap.size wr).drew)
      have hgd := grown_drewD hgr
      have hzd : X < wr.drew.heap.size := hz
      clear hok hgr cM cX hz hF
      go_wp2_with fail
      go_region_law ((go_simp; first
        | (go_at_call 76; refine (rd_term _ _ _ _ _ _ hokd 5 (by omega)).mono ?_; rintro r w6 ⟨t, rfl, ht, hok6, hg6⟩; have cM6 := (hg6.block w.heap.size (by omega) (by simp; omega)).trans cMd; have cX6 := (hg6.block X (by omega) (by simp; omega)).trans cXd; have hw6 := grownBy_trans hgd hg6; have hz6 : X < w6.heap.size := (Nat.lt_of_lt_of_le hzd hg6.size); obtain ⟨y0, y1, y2⟩ := box3r cX6)
        | (go_at_call 18; refine (spec_ringPut y e d t _ hd2 (by omega) he2.out).mono ?_; rintro r w7 ⟨rfl, hb7⟩; have cM7 := (hb7.block w.heap.size (by omega)).trans cM6; have cX7 := (hb7.block X hz6).trans cX6; have hw7 := grownBy_trans hw6 (grown_of_below hb7 (some R)); have hok7 := hok6.below hb7; have hz7 : X < w7.heap.size := (Nat.lt_of_lt_of_le hz6 hb7.size); have g0 := frozen_of_row _ _ 0 _ _ cX7; have g1 := frozen_of_row _ _ 1 _ _ cX7; have g2 := frozen_of_row _ _ 2 _ _ cX7; obtain ⟨u0, u1, u2⟩ := box3r cX7)))
      all_goals
        go_wp2_with fail
        go_roundw
        case rel => exact ⟨j - 1, _, _, _, _, rfl, by go_num, by omega, fine_put y e d t, set3_ok hok7 (by omega) _ _ _, set3_grown hw7 (by omega) _ _ _, (set3_far' (by omega) _ _ _).trans cM7, set3_row' cX7 _ _ _, by simp [World.setCell]; omega⟩
        case measure => simp [intOf]; omega
    · have hend : j = 0 ∨ (¬ j = 0 ∧ b = false) := by
        by_cases h0 : j = 0
        · exact .inl h0
        · refine .inr ⟨h0, ?_⟩
          cases b
          · rfl
          · exact absurd ⟨h0, rfl⟩ hgo
      clear hgo hF
      rcases hend with rfl | ⟨hj0, rfl⟩
      all_goals
        (try have j3 : (0 : Int) < (j : Int) := by omega)
        go_wp2_with fail
        refine (rd_below _ _ _ _ _ _ hok _).mono ?_
        rintro r w8 ⟨m, rfl, ⟨hm0, _, hm1, _⟩, hok8, hg8⟩
        replace cM := (hg8.block w.heap.size (by omega) (by simp; omega)).trans cM
        replace cX := (hg8.block X (by omega) (by simp; omega)).trans cX
        have hw8 := grownBy_trans hgr hg8
        have hz8 : X < w8.heap.size := Nat.lt_of_lt_of_le hz hg8.size
        clear hok hgr hg8 hz hm1
        by_cases c0 : m = 18
        · subst c0
          go_wp2_with fail
          refine (rd_off _ _ _ _ _ _ hok8 _ _ (by omega) (by omega) (by omega) (by omega)).mono ?_
          rintro r w9 ⟨n, rfl, hn, hok9, hg9⟩
          have cM9 := (hg9.block w.heap.size (by omega) (by simp; omega)).trans cM
          have cX9 := (hg9.block X (by omega) (by simp; omega)).trans cX
          have hw9 := grownBy_trans hw8 hg9
          obtain ⟨x0, x1, x2⟩ := box3r cX9
          have f1 := frozen_of_row _ _ 1 _ _ cX9
          obtain ⟨p0, p1, p2⟩ := box3r cM9
          have g0 := frozen_of_row _ _ 0 _ _ cM9; have g1 := frozen_of_row _ _ 1 _ _ cM9; have g2 := frozen_of_row _ _ 2 _ _ cM9
          have HK := Lib.hid (hok9.grown (grownBy_setCell w9 X 1 (.int .i64 n)) (fun q e => by cases e; omega))
          have HG := Lib.hid (grownBy_own hw9 (grownBy_setCell w9 X 1 (.int .i64 n)) (fun q e => by cases e; omega))
          have n0 : ¬ X = w.heap.size := by omega
          have n1 : ¬ w.heap.size = X := by omega
          clear cM cX cM9 cX9 hok8 hok9 hw8 hw9 hg9
          go_wp2_with fail
          exact bodyPost_ret (v := .agg #[.int .i64 y, .int .i64 n, .string d]) (by simp [results, Try.results73, go_sem, p0, p1, p2]) rfl ⟨_, _, _, rfl, ⟨HF.out.1, hn, HF.out.2.2⟩, set3_ok HK.out (by omega) _ _ _, set3_grown HG.out (Nat.le_refl _) _ _ _⟩
        · by_cases c1 : m = 19
          · subst c1
            go_wp2_with fail
            refine (rd_off _ _ _ _ _ _ hok8 _ _ (by omega) (by omega) (by omega) (by omega)).mono ?_
            rintro r w9 ⟨n, rfl, hn, hok9, hg9⟩
            have cM9 := (hg9.block w.heap.size (by omega) (by simp; omega)).trans cM
            have cX9 := (hg9.block X (by omega) (by simp; omega)).trans cX
            have hw9 := grownBy_trans hw8 hg9
            obtain ⟨x0, x1, x2⟩ := box3r cX9
            have f1 := frozen_of_row _ _ 0 _ _ cX9
            obtain ⟨p0, p1, p2⟩ := box3r cM9
            have g0 := frozen_of_row _ _ 0 _ _ cM9; have g1 := frozen_of_row _ _ 1 _ _ cM9; have g2 := frozen_of_row _ _ 2 _ _ cM9
            have HK := Lib.hid (hok9.grown (grownBy_setCell w9 X 0 (.int .i64 n)) (fun q e => by cases e; omega))
            have HG := Lib.hid (grownBy_own hw9 (grownBy_setCell w9 X 0 (.int .i64 n)) (fun q e => by cases e; omega))
            have n0 : ¬ X = w.heap.size := by omega
            have n1 : ¬ w.heap.size = X := by omega
            clear cM cX cM9 cX9 hok8 hok9 hw8 hw9 hg9
            go_wp2_with fail
            exact bodyPost_ret (v := .agg #[.int .i64 n, .int .i64 e, .string d]) (by simp [results, Try.results73, go_sem, p0, p1, p2]) rfl ⟨_, _, _, rfl, ⟨hn, HF.out.2.1, HF.out.2.2⟩, set3_ok HK.out (by omega) _ _ _, set3_grown HG.out (Nat.le_refl _) _ _ _⟩
          · have d0 : (m == 18) = false := by simpa using c0
            have d1 : (m == 19) = false := by simpa using c1
            obtain ⟨x0, x1, x2⟩ := box3r cX
            obtain ⟨p0, p1, p2⟩ := box3r cM
            have g0 := frozen_of_row _ _ 0 _ _ cM; have g1 := frozen_of_row _ _ 1 _ _ cM; have g2 := frozen_of_row _ _ 2 _ _ cM
            clear cX cM
            go_wp2_with fail
            exact bodyPost_ret (v := .agg #[.int .i64 y, .int .i64 e, .string d]) (by simp [results, Try.results73, go_sem, p0, p1, p2]) rfl ⟨_, _, _, rfl, HF.out, set3_ok hok8 (by omega) _ _ _, set3_grown hw8 (Nat.le_refl _) _ _ _⟩
end Go.Proofs.Ytglldmfhjipacaa

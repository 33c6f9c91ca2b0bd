/-
  Chapter 10: rings: contracts of RingCut, in the program and in its model; the walks of FnExactRingPut and FnExactRingCut.
-/
import Derived.Test.YtglldmfhjipacaaL10PutL
namespace Go.Proofs.Ytglldmfhjipacaa
open Go.RowKit
set_option linter.unusedVariables false
set_option maxRecDepth 100000
def rcB (z e : Int) (d : ByteArray) (x y : Int) : Bool := ringB z e d.size && decide (e - d.size ≤ x ∧ x ≤ y ∧ y ≤ e)
def rcD (z e : Int) (d : ByteArray) (x y : Int) : ByteArray := if rcB z e d x y then d.extract (x - (e - d.size)).toNat (y - (e - d.size)).toNat else ⟨#[]⟩
set_option maxHeartbeats 4000000 in
theorem impl_ringCut_yes (z : Int) (e st x n : Nat) (d : ByteArray) (w : World) (hr : ringB z (e : Int) d.size = true) (hst : e = st + d.size) (hx : st ≤ x) (hy : x + n ≤ e) :
    Calls Try.prog 25 #[.agg #[.int .i64 z, .int .i64 (e : Int), .string d], .int .i64 (x : Int), .int .i64 ((x : Int) + (n : Int))] w fun r w' => r = .returned (.tuple #[.string (d.extract (x - st) (x - st + n)), .bool true]) ∧ Below w.heap.size w w' := by
  obtain ⟨r0, r1, r2, r3, r4, r5⟩ := (ringB_iff _ _ _).1 hr
  have HP := Lib.hid hr; clear hr
  have hz := wheel_zero
  have hD : (⟨(cutL (ringF d ⟨#[]⟩ st) x n).toArray⟩ : ByteArray) = d.extract (x - st) (x - st + n) := by
    rw [cutL_ring d ⟨#[]⟩ st x n (by omega) (by show x + n ≤ st + (d.size + 0); omega)]
    congr 1
    exact ByteArray.append_empty
  have hW := wh_one (cs := zeros200) d st zeros200_size
  have HC := Lib.hid (show Wh (putC zeros200 st d d.size) x (x + n) (ringF d ⟨#[]⟩ st) from fun p h1 h2 h3 => hW p (by omega) (by omega) (by omega))
  have HD := Lib.hid hD
  have hd2 : d.size ≤ 1048576 := by omega
  have he2 : e ≤ 1000000 := by omega
  have hst2 : st ≤ 1000000 := by omega
  generalize d.extract (x - st) (x - st + n) = D at *
  have HST := Lib.hid hst
  have i1 : ¬ (x : Int) < (st : Int) := by omega
  have i2 : ¬ ((x : Int) + (n : Int) < (x : Int)) := by omega
  have i3 : ¬ ((e : Int) < (x : Int) + (n : Int)) := by omega
  have HL := Lib.hid (show x + n ≤ 1000000 by omega)
  have HN := Lib.hid (show n ≤ 200 by omega)
  clear hW hD hst hx hy
  go_enter Try.func25, Try.ntmps25
  go_wp2_with fail
  refine (impl_ringOk _ _ _ _ (by omega)).mono ?_
  rintro r w1 ⟨rfl, hb1⟩
  rw [HP.out]
  have rR := (hb1.block w.heap.size (by simp)).trans (heap_alloc_new w _)
  have HB : Below w.heap.size w w1 := below_step (by repeat (first | exact Below.refl _ _ | assumption | (refine Below.drew ?_) | (refine below_drewN ?_ _) | (refine Below.alloc ?_ (by first | omega | (simp; done) | (simp; omega)) _) | (refine Below.setCell ?_ (by first | omega | (simp; done) | (simp; omega)) _))) hb1
  have hz1 : w.heap.size < w1.heap.size := by have h1 := hb1.size; (try simp at h1); omega
  obtain ⟨a0, a1, a2⟩ := box3r rR
  clear hb1
  go_wp2_with fail
  refine (start_is z e st d _ HST.out hd2 he2).mono ?_
  rintro r w2 ⟨rfl, hb2⟩
  replace rR := (hb2.block w.heap.size hz1).trans rR
  replace HB := HB.trans (hb2.mono HB.size)
  replace hz1 := Nat.lt_of_lt_of_le hz1 hb2.size
  obtain ⟨a0, a1, a2⟩ := box3r rR
  clear hb2
  go_wp2_with fail
  have rW := heap_alloc_new w2 (.cells zeros200 96)
  replace rR := (Below.heap_alloc w2 (.cells zeros200 96) w.heap.size (by omega)).trans rR
  replace HB := HB.alloc HB.size (.cells zeros200 96)
  have hz2 : w2.heap.size < (w2.alloc (.cells zeros200 96)).heap.size := by simp
  generalize w2.alloc (.cells zeros200 96) = w3 at *
  generalize w2.heap.size = g at *
  have hwg : w.heap.size < g := hz1
  have rRd : w3.drew.heap[w.heap.size]? = some (.cells #[.int .i64 z, .int .i64 (e : Int), .string d] 25 (0, 0)) := rR
  have rWd : w3.drew.heap[g]? = some (.cells zeros200 96 (0, 0)) := rW
  have HBd := HB.drew
  have hzd : g < w3.drew.heap.size := hz2
  have hS0 : w3.drew.cell? ⟨w.heap.size, 0, none⟩ = some (.int .i64 z) ∧ w3.drew.cell? ⟨w.heap.size, 1, none⟩ = some (.int .i64 (e : Int)) ∧ w3.drew.cell? ⟨w.heap.size, 2, none⟩ = some (.string d) := box3r rRd
  clear rR rW HB hz2 a0 a1 a2 hz1
  go_region_held3 (fun W => W.cell? ⟨w.heap.size, 0, none⟩ = some (.int .i64 z) ∧ W.cell? ⟨w.heap.size, 1, none⟩ = some (.int .i64 (e : Int)) ∧ W.cell? ⟨w.heap.size, 2, none⟩ = some (.string d)) (first | with_reducible exact hS0 | with_reducible exact hS1 | with_reducible exact hS2 | go_keep)
    (first
      | (go_at_call 78; (with_reducible refine (start_is z e st d _ HST.out hd2 he2).mono ?_); rintro r w4 ⟨rfl, hb4⟩; have hz4 : g < w4.heap.size := (Nat.lt_of_lt_of_le hzd hb4.size); have rW4 := (hb4.block g hzd).trans rWd; have rR4 := (hb4.block w.heap.size (by omega)).trans rRd; have HB4 := HBd.trans (hb4.mono HBd.size); have hS1 : w4.cell? ⟨w.heap.size, 0, none⟩ = some (.int .i64 z) ∧ w4.cell? ⟨w.heap.size, 1, none⟩ = some (.int .i64 (e : Int)) ∧ w4.cell? ⟨w.heap.size, 2, none⟩ = some (.string d) := box3r rR4)
      | (go_at_call 77; (with_reducible refine (wheel_put g zeros200 st d _ rW4 zeros200_size hst2 hd2).mono ?_); rintro r w5 ⟨rfl, rW5, hg5⟩; have rR5 := (hg5.block w.heap.size (by omega) (by simp; omega)).trans rR4; have HB5 := HB4.grown hg5 HB4.size (fun q e => by cases e; omega); have hz5 : g < w5.heap.size := Nat.lt_of_lt_of_le hz4 hg5.size; have hS2 : w5.cell? ⟨w.heap.size, 0, none⟩ = some (.int .i64 z) ∧ w5.cell? ⟨w.heap.size, 1, none⟩ = some (.int .i64 (e : Int)) ∧ w5.cell? ⟨w.heap.size, 2, none⟩ = some (.string d) := box3r rR5))
  clear hS0 hS1 hS2 rRd rWd HBd hzd rW4 rR4 HB4 hz4 hb4 hg5
  go_wp2_with fail
  refine (cut_is g _ _ _ x n (ringF d ⟨#[]⟩ st) D _ rW5 rfl rfl HL.out HC.out HN.out HD.out).mono ?_
  rintro r w6 ⟨rfl, hb6⟩
  go_wp2_with fail
  exact bodyPost_ret (v := .tuple #[.string D, .bool true]) (by simp [results, Try.results25, go_sem]) rfl ⟨rfl, HB5.trans (hb6.mono HB5.size)⟩
theorem rcB_no {z e : Int} {d : ByteArray} {x y : Int} (h : rcB z e d x y = false) : rcD z e d x y = ⟨#[]⟩ := by unfold rcD; rw [h]; rfl
set_option maxHeartbeats 2000000 in
theorem impl_ringCut (z e x y : Int) (d : ByteArray) (w : World) (hd : d.size ≤ 1048576) :
    Calls Try.prog 25 #[.agg #[.int .i64 z, .int .i64 e, .string d], .int .i64 x, .int .i64 y] w fun r w' => r = .returned (.tuple #[.string (rcD z e d x y), .bool (rcB z e d x y)]) ∧ Below w.heap.size w w' := by
  cases hp : rcB z e d x y
  · rw [rcB_no hp]
    cases hr : ringB z e d.size
    · have HP := Lib.hid hr; clear hr hp
      go_enter Try.func25, Try.ntmps25
      go_wp2_with fail
      refine (impl_ringOk _ _ _ _ (by omega)).mono ?_
      rintro r w1 ⟨rfl, hb1⟩
      rw [HP.out]
      have HB : Below w.heap.size w w1 := below_step (by repeat (first | exact Below.refl _ _ | assumption | (refine Below.drew ?_) | (refine below_drewN ?_ _) | (refine Below.alloc ?_ (by first | omega | (simp; done) | (simp; omega)) _) | (refine Below.setCell ?_ (by first | omega | (simp; done) | (simp; omega)) _))) hb1
      go_wp2_with fail
      exact bodyPost_ret (v := .tuple #[.string ⟨#[]⟩, .bool false]) (by simp [results, Try.results25, go_sem]) rfl ⟨rfl, HB⟩
    · obtain ⟨r0, r1, r2, r3, r4, r5⟩ := (ringB_iff _ _ _).1 hr
      have hn : ¬ (e - d.size ≤ x ∧ x ≤ y ∧ y ≤ e) := by intro h; unfold rcB at hp; rw [hr] at hp; simp at hp; omega
      obtain ⟨E, rfl⟩ := Int.eq_ofNat_of_zero_le r2
      obtain ⟨st, hst⟩ : ∃ st : Nat, E = st + d.size := ⟨E - d.size, by omega⟩
      have HST := Lib.hid hst
      have hn2 : x < (st : Int) ∨ (¬ x < (st : Int) ∧ y < x) ∨ (¬ x < (st : Int) ∧ ¬ y < x ∧ (E : Int) < y) := by omega
      have HP := Lib.hid hr; clear hr hp hst hn
      have hE : E ≤ 1000000 := by omega
      go_enter Try.func25, Try.ntmps25
      go_wp2_with fail
      refine (impl_ringOk _ _ _ _ (by omega)).mono ?_
      rintro r w1 ⟨rfl, hb1⟩
      rw [HP.out]
      have rR := (hb1.block w.heap.size (by simp)).trans (heap_alloc_new w _)
      have HB : Below w.heap.size w w1 := below_step (by repeat (first | exact Below.refl _ _ | assumption | (refine Below.drew ?_) | (refine below_drewN ?_ _) | (refine Below.alloc ?_ (by first | omega | (simp; done) | (simp; omega)) _) | (refine Below.setCell ?_ (by first | omega | (simp; done) | (simp; omega)) _))) hb1
      have hz1 : w.heap.size < w1.heap.size := by have h1 := hb1.size; (try simp at h1); omega
      obtain ⟨a0, a1, a2⟩ := box3r rR
      clear hb1
      go_wp2_with fail
      refine (start_is z E st d _ HST.out hd hE).mono ?_
      rintro r w2 ⟨rfl, hb2⟩
      replace rR := (hb2.block w.heap.size hz1).trans rR
      replace HB := HB.trans (hb2.mono HB.size)
      obtain ⟨a0, a1, a2⟩ := box3r rR
      clear hb2
      rcases hn2 with h | ⟨h, h2⟩ | ⟨h, h2, h3⟩
      all_goals
        go_wp2_with fail
        exact bodyPost_ret (v := .tuple #[.string ⟨#[]⟩, .bool false]) (by simp [results, Try.results25, go_sem]) rfl ⟨rfl, HB⟩
  · have hD : rcD z e d x y = d.extract (x - (e - d.size)).toNat (y - (e - d.size)).toNat := by unfold rcD; rw [hp]; rfl
    unfold rcB at hp
    simp only [Bool.and_eq_true, decide_eq_true_eq] at hp
    obtain ⟨hr, h1, h2, h3⟩ := hp
    obtain ⟨r0, r1, r2, r3, r4, r5⟩ := (ringB_iff _ _ _).1 hr
    obtain ⟨E, rfl⟩ := Int.eq_ofNat_of_zero_le r2
    obtain ⟨X, rfl⟩ := Int.eq_ofNat_of_zero_le (show 0 ≤ x by omega)
    obtain ⟨n, rfl⟩ : ∃ n : Nat, y = (X : Int) + (n : Int) := ⟨(y - X).toNat, by omega⟩
    rw [hD, show ((X : Int) - ((E : Int) - d.size)).toNat = X - (E - d.size) by omega, show ((X : Int) + (n : Int) - ((E : Int) - d.size)).toNat = X - (E - d.size) + n by omega]
    exact impl_ringCut_yes z E (E - d.size) X n d w hr (by omega) (by omega) (by omega)
set_option maxHeartbeats 2000000 in
theorem spec_ringCut (z e x y : Int) (d : ByteArray) (w : World) (hd : d.size ≤ 1048576) (he : (Lit.int .i64 e).wf = true) :
    Calls Try.prog 27 #[.agg #[.int .i64 z, .int .i64 e, .string d], .int .i64 x, .int .i64 y] w fun r w' => r = .returned (.tuple #[.string (rcD z e d x y), .bool (rcB z e d x y)]) ∧ Below w.heap.size w w' := by
  cases hp : rcB z e d x y
  · rw [rcB_no hp]
    cases hr : ringB z e d.size
    · have HP := Lib.hid hr; clear hr hp
      go_enter Try.func27, Try.ntmps27
      go_wp2_with fail
      refine (spec_ringOk _ _ _ _ (by omega)).mono ?_
      rintro r w1 ⟨rfl, hb1⟩
      rw [HP.out]
      have HB : Below w.heap.size w w1 := below_step (by repeat (first | exact Below.refl _ _ | assumption | (refine Below.drew ?_) | (refine below_drewN ?_ _) | (refine Below.alloc ?_ (by first | omega | (simp; done) | (simp; omega)) _) | (refine Below.setCell ?_ (by first | omega | (simp; done) | (simp; omega)) _))) hb1
      go_wp2_with fail
      exact bodyPost_ret (v := .tuple #[.string ⟨#[]⟩, .bool false]) (by simp [results, Try.results27, go_sem]) rfl ⟨rfl, HB⟩
    · obtain ⟨r0, r1, r2, r3, r4, r5⟩ := (ringB_iff _ _ _).1 hr
      have hn : ¬ (e - d.size ≤ x ∧ x ≤ y ∧ y ≤ e) := by intro h; unfold rcB at hp; rw [hr] at hp; simp at hp; omega
      have HP := Lib.hid hr; clear hr hp
      cases h1 : inB x (e - d.size) e
      · have H1 := Lib.hid h1; clear h1
        go_enter Try.func27, Try.ntmps27
        go_wp2_with fail
        refine (spec_ringOk _ _ _ _ (by omega)).mono ?_
        rintro r w1 ⟨rfl, hb1⟩
        rw [HP.out]
        have rR := (hb1.block w.heap.size (by simp)).trans (heap_alloc_new w _)
        have HB : Below w.heap.size w w1 := below_step (by repeat (first | exact Below.refl _ _ | assumption | (refine Below.drew ?_) | (refine below_drewN ?_ _) | (refine Below.alloc ?_ (by first | omega | (simp; done) | (simp; omega)) _) | (refine Below.setCell ?_ (by first | omega | (simp; done) | (simp; omega)) _))) hb1
        obtain ⟨a0, a1, a2⟩ := box3r rR
        clear hb1
        go_wp2_with fail
        refine (spec_l1In _ _ _ _).mono ?_
        rintro r w2 ⟨rfl, rfl⟩
        rw [H1.out]
        go_wp2_with fail
        exact bodyPost_ret (v := .tuple #[.string ⟨#[]⟩, .bool false]) (by simp [results, Try.results27, go_sem]) rfl ⟨rfl, HB⟩
      · have g1 := inB_iff.1 h1
        have H1 := Lib.hid h1; clear h1
        have H2 := Lib.hid (inB_no (n := y) (lo := x) (hi := e) (by omega))
        go_enter Try.func27, Try.ntmps27
        go_wp2_with fail
        refine (spec_ringOk _ _ _ _ (by omega)).mono ?_
        rintro r w1 ⟨rfl, hb1⟩
        rw [HP.out]
        have rR := (hb1.block w.heap.size (by simp)).trans (heap_alloc_new w _)
        have HB : Below w.heap.size w w1 := below_step (by repeat (first | exact Below.refl _ _ | assumption | (refine Below.drew ?_) | (refine below_drewN ?_ _) | (refine Below.alloc ?_ (by first | omega | (simp; done) | (simp; omega)) _) | (refine Below.setCell ?_ (by first | omega | (simp; done) | (simp; omega)) _))) hb1
        obtain ⟨a0, a1, a2⟩ := box3r rR
        clear hb1
        go_wp2_with fail
        refine (spec_l1In _ _ _ _).mono ?_
        rintro r w2 ⟨rfl, rfl⟩
        rw [H1.out]
        go_wp2_with fail
        refine (spec_l1In _ _ _ _).mono ?_
        rintro r w2 ⟨rfl, rfl⟩
        rw [H2.out]
        go_wp2_with fail
        exact bodyPost_ret (v := .tuple #[.string ⟨#[]⟩, .bool false]) (by simp [results, Try.results27, go_sem]) rfl ⟨rfl, HB⟩
  · have hD : rcD z e d x y = d.extract (x - (e - d.size)).toNat (y - (e - d.size)).toNat := by unfold rcD; rw [hp]; rfl
    unfold rcB at hp
    simp only [Bool.and_eq_true, decide_eq_true_eq] at hp
    obtain ⟨hr, h1, h2, h3⟩ := hp
    obtain ⟨r0, r1, r2, r3, r4, r5⟩ := (ringB_iff _ _ _).1 hr
    have H1 := Lib.hid (inB_yes (n := x) (lo := e - d.size) (hi := e) (by omega))
    have H2 := Lib.hid (inB_yes (n := y) (lo := x) (hi := e) (by omega))
    obtain ⟨p, hp⟩ := Int.eq_ofNat_of_zero_le (show 0 ≤ x - (e - d.size) by omega)
    obtain ⟨q, hq⟩ := Int.eq_ofNat_of_zero_le (show 0 ≤ y - (e - d.size) by omega)
    have w1' : IntKind.i64.wrap (x - (e - d.size)) = (p : Int) := by rw [IntKind.wrap_i64]; omega
    have w2' : IntKind.i64.wrap (y - (e - d.size)) = (q : Int) := by rw [IntKind.wrap_i64]; omega
    rw [hD, hp, hq]
    have j1 : p ≤ q := by omega
    have j2 : q ≤ d.size := by omega
    have HP := Lib.hid hr; clear hr hD hp hq
    go_enter Try.func27, Try.ntmps27
    go_wp2_with fail
    refine (spec_ringOk _ _ _ _ (by omega)).mono ?_
    rintro r w1 ⟨rfl, hb1⟩
    rw [HP.out]
    have rR := (hb1.block w.heap.size (by simp)).trans (heap_alloc_new w _)
    have HB : Below w.heap.size w w1 := below_step (by repeat (first | exact Below.refl _ _ | assumption | (refine Below.drew ?_) | (refine below_drewN ?_ _) | (refine Below.alloc ?_ (by first | omega | (simp; done) | (simp; omega)) _) | (refine Below.setCell ?_ (by first | omega | (simp; done) | (simp; omega)) _))) hb1
    obtain ⟨a0, a1, a2⟩ := box3r rR
    clear hb1
    go_wp2_with fail
    refine (spec_l1In _ _ _ _).mono ?_
    rintro r w2 ⟨rfl, rfl⟩
    rw [H1.out]
    go_wp2_with fail
    refine (spec_l1In _ _ _ _).mono ?_
    rintro r w2 ⟨rfl, rfl⟩
    rw [H2.out]
    go_wp2_with fail
    exact bodyPost_ret (v := .tuple #[.string (d.extract p q), .bool true]) (by simp [results, Try.results27, go_sem]) rfl ⟨rfl, HB⟩
set_option maxHeartbeats 2000000 in
theorem law_FnExactRingPut (z : Int) (_wz : (Lit.int .i64 z).wf = true) (e : Int) (we : (Lit.int .i64 e).wf = true) (d : ByteArray) (hd : d.size ≤ maxLen) (s : ByteArray) (hs : s.size ≤ maxLen) (w : World) :
    Calls Try.prog 7 #[.agg #[.int .i64 z, .int .i64 e, .string d], .string s] w fun r w' => r = .returned (.bool true) ∧ Below w.heap.size w w' := by
  unfold maxLen at hd hs
  by_cases hsz : s.size ≤ 1048576
  · by_cases hbig : (d.size : Int) ≤ 1048576
    · have H := Lib.hid (szI_yes hbig)
      have hd2 : d.size ≤ 1048576 := by omega
      obtain ⟨Z, hZ⟩ : ∃ Z, rpZ z e d s = Z := ⟨_, rfl⟩
      obtain ⟨E, hE⟩ : ∃ E, rpE z e d s = E := ⟨_, rfl⟩
      obtain ⟨D, hD⟩ : ∃ D, rpD z e d s = D := ⟨_, rfl⟩
      obtain ⟨B, hB⟩ : ∃ B, putB z e d s = B := ⟨_, rfl⟩
      have HI := Lib.hid (fun w => impl_ringPut z e d s w hd2 hsz we)
      have HS := Lib.hid (fun w => spec_ringPut z e d s w hd2 hsz we)
      rw [hZ, hE, hD, hB] at HI HS
      have eb : (B != B) = false := by simp
      clear hZ hE hD hB
      go_enter Try.func7, Try.ntmps7
      go_wp2_with fail
      refine (laws_szRing _ _ _ _ _ (by omega) (by omega) (by omega)).mono ?_
      rintro r w1 ⟨rfl, hb1⟩
      rw [H.out]
      obtain ⟨hc_w1, hf_w1⟩ := bcell hb1; have HT_w1 : Below w.heap.size w w1 := below_step (by repeat (first | exact Below.refl _ _ | assumption | (refine Below.drew ?_) | (refine below_drewN ?_ _) | (refine Below.alloc ?_ (by first | omega | (simp; done) | (simp; omega)) _) | (refine Below.setCell ?_ (by first | omega | (simp; done) | (simp; omega)) _))) hb1; have hz_w_w1 : w.heap.size < w1.heap.size := (by have h1 := hb1.size; (try simp at h1); omega)
      go_wp2_with fail
      refine (laws_toRing _ _ _ _).mono ?_
      rintro r w2 ⟨rfl, hb2⟩
      obtain ⟨hc_w2, hf_w2⟩ := bcell hb2; have HT_w2 : Below w.heap.size w w2 := below_step (by repeat (first | exact Below.refl _ _ | assumption | (refine Below.drew ?_) | (refine below_drewN ?_ _) | (refine Below.alloc ?_ (by first | omega | (simp; done) | (simp; omega)) _) | (refine Below.setCell ?_ (by first | omega | (simp; done) | (simp; omega)) _))) hb2; have hz_w_w2 : w.heap.size < w2.heap.size := (by have h1 := hb2.size; (try simp at h1); omega)
      go_wp2_with fail
      refine (HS.out _).mono ?_
      rintro r w3 ⟨rfl, hb3⟩
      obtain ⟨hc_w3, hf_w3⟩ := bcell hb3; have HT_w3 : Below w.heap.size w w3 := below_step (by repeat (first | exact Below.refl _ _ | assumption | (refine Below.drew ?_) | (refine below_drewN ?_ _) | (refine Below.alloc ?_ (by first | omega | (simp; done) | (simp; omega)) _) | (refine Below.setCell ?_ (by first | omega | (simp; done) | (simp; omega)) _))) hb3; have hz_w_w3 : w.heap.size < w3.heap.size := (by have h1 := hb3.size; (try simp at h1); omega)
      go_wp2_with fail
      refine (laws_toRing _ _ _ _).mono ?_
      rintro r w4 ⟨rfl, hb4⟩
      obtain ⟨hc_w4, hf_w4⟩ := bcell hb4; have HT_w4 : Below w.heap.size w w4 := below_step (by repeat (first | exact Below.refl _ _ | assumption | (refine Below.drew ?_) | (refine below_drewN ?_ _) | (refine Below.alloc ?_ (by first | omega | (simp; done) | (simp; omega)) _) | (refine Below.setCell ?_ (by first | omega | (simp; done) | (simp; omega)) _))) hb4; have hz_w_w4 : w.heap.size < w4.heap.size := (by have h1 := hb4.size; (try simp at h1); omega); have hz_w3_w4 : w3.heap.size < w4.heap.size := (by have h1 := hb4.size; (try simp at h1); omega)
      go_wp2_with fail
      refine (HI.out _).mono ?_
      rintro r w5 ⟨rfl, hb5⟩
      obtain ⟨hc_w5, hf_w5⟩ := bcell hb5; have HT_w5 : Below w.heap.size w w5 := below_step (by repeat (first | exact Below.refl _ _ | assumption | (refine Below.drew ?_) | (refine below_drewN ?_ _) | (refine Below.alloc ?_ (by first | omega | (simp; done) | (simp; omega)) _) | (refine Below.setCell ?_ (by first | omega | (simp; done) | (simp; omega)) _))) hb5; have hz_w_w5 : w.heap.size < w5.heap.size := (by have h1 := hb5.size; (try simp at h1); omega); have hz_w3_w5 : w3.heap.size < w5.heap.size := (by have h1 := hb5.size; (try simp at h1); omega)
      go_wp2_with fail
      refine (laws_eqRing _ _ _ _).mono ?_
      rintro r w6 ⟨rfl, hb6⟩
      obtain ⟨hc_w6, hf_w6⟩ := bcell hb6; have HT_w6 : Below w.heap.size w w6 := below_step (by repeat (first | exact Below.refl _ _ | assumption | (refine Below.drew ?_) | (refine below_drewN ?_ _) | (refine Below.alloc ?_ (by first | omega | (simp; done) | (simp; omega)) _) | (refine Below.setCell ?_ (by first | omega | (simp; done) | (simp; omega)) _))) hb6; have hz_w_w6 : w.heap.size < w6.heap.size := (by have h1 := hb6.size; (try simp at h1); omega)
      go_wp2_with fail
      go_ret
      exact ⟨rfl, HT_w6⟩
    · go_enter Try.func7, Try.ntmps7
      have H := Lib.hid (szI_no hbig)
      go_wp2_with (go_at_call 28; refine (laws_szRing _ _ _ _ _ (by omega) (by omega) (by omega)).mono ?_; rintro r w1 ⟨rfl, hb1⟩; obtain ⟨hc1, hf1⟩ := bcell hb1; have hz1 : w.heap.size < w1.heap.size := (by have := hb1.size; (try simp at this); omega); have HB1 : Below w.heap.size w w1 := below_step (by repeat (first | exact Below.refl _ _ | assumption | (refine Below.drew ?_) | (refine below_drewN ?_ _) | (refine Below.alloc ?_ (by first | omega | (simp; done) | (simp; omega)) _) | (refine Below.setCell ?_ (by first | omega | (simp; done) | (simp; omega)) _))) hb1; rw [H.out])
      go_ret
      exact ⟨rfl, HB1⟩
  · go_enter Try.func7, Try.ntmps7
    go_wp2
    go_ret
    exact ⟨rfl, (by repeat (first | exact Below.refl _ _ | assumption | (refine Below.drew ?_) | (refine below_drewN ?_ _) | (refine Below.alloc ?_ (by first | omega | (simp; done) | (simp; omega)) _) | (refine Below.setCell ?_ (by first | omega | (simp; done) | (simp; omega)) _)))⟩
set_option maxHeartbeats 2000000 in
theorem law_FnExactRingCut (z : Int) (_wz : (Lit.int .i64 z).wf = true) (e : Int) (we : (Lit.int .i64 e).wf = true) (d : ByteArray) (hd : d.size ≤ maxLen) (x : Int) (_wx : (Lit.int .i64 x).wf = true) (y : Int) (_wy : (Lit.int .i64 y).wf = true) (w : World) :
    Calls Try.prog 8 #[.agg #[.int .i64 z, .int .i64 e, .string d], .int .i64 x, .int .i64 y] w fun r w' => r = .returned (.bool true) ∧ Below w.heap.size w w' := by
  unfold maxLen at hd
  by_cases hbig : (d.size : Int) ≤ 1048576
  · have H := Lib.hid (szI_yes hbig)
    have hd2 : d.size ≤ 1048576 := by omega
    obtain ⟨D, hD⟩ : ∃ D, rcD z e d x y = D := ⟨_, rfl⟩
    obtain ⟨B, hB⟩ : ∃ B, rcB z e d x y = B := ⟨_, rfl⟩
    have HI := Lib.hid (fun w => impl_ringCut z e x y d w hd2)
    have HS := Lib.hid (fun w => spec_ringCut z e x y d w hd2 we)
    rw [hD, hB] at HI HS
    have eb : (B != B) = false := by simp
    have ed : (D.toList != D.toList) = false := by simp
    clear hD hB
    go_enter Try.func8, Try.ntmps8
    go_wp2_with fail
    refine (laws_szRing _ _ _ _ _ (by omega) (by omega) (by omega)).mono ?_
    rintro r w1 ⟨rfl, hb1⟩
    rw [H.out]
    obtain ⟨hc_w1, hf_w1⟩ := bcell hb1; have HT_w1 : Below w.heap.size w w1 := below_step (by repeat (first | exact Below.refl _ _ | assumption | (refine Below.drew ?_) | (refine below_drewN ?_ _) | (refine Below.alloc ?_ (by first | omega | (simp; done) | (simp; omega)) _) | (refine Below.setCell ?_ (by first | omega | (simp; done) | (simp; omega)) _))) hb1; have hz_w_w1 : w.heap.size < w1.heap.size := (by have h1 := hb1.size; (try simp at h1); omega)
    go_wp2_with fail
    refine (laws_toRing _ _ _ _).mono ?_
    rintro r w2 ⟨rfl, hb2⟩
    obtain ⟨hc_w2, hf_w2⟩ := bcell hb2; have HT_w2 : Below w.heap.size w w2 := below_step (by repeat (first | exact Below.refl _ _ | assumption | (refine Below.drew ?_) | (refine below_drewN ?_ _) | (refine Below.alloc ?_ (by first | omega | (simp; done) | (simp; omega)) _) | (refine Below.setCell ?_ (by first | omega | (simp; done) | (simp; omega)) _))) hb2; have hz_w_w2 : w.heap.size < w2.heap.size := (by have h1 := hb2.size; (try simp at h1); omega)
    go_wp2_with fail
    refine (HS.out _).mono ?_
    rintro r w3 ⟨rfl, hb3⟩
    obtain ⟨hc_w3, hf_w3⟩ := bcell hb3; have HT_w3 : Below w.heap.size w w3 := below_step (by repeat (first | exact Below.refl _ _ | assumption | (refine Below.drew ?_) | (refine below_drewN ?_ _) | (refine Below.alloc ?_ (by first | omega | (simp; done) | (simp; omega)) _) | (refine Below.setCell ?_ (by first | omega | (simp; done) | (simp; omega)) _))) hb3; have hz_w_w3 : w.heap.size < w3.heap.size := (by have h1 := hb3.size; (try simp at h1); omega)
    go_wp2_with fail
    refine (laws_toRing _ _ _ _).mono ?_
    rintro r w4 ⟨rfl, hb4⟩
    obtain ⟨hc_w4, hf_w4⟩ := bcell hb4; have HT_w4 : Below w.heap.size w w4 := below_step (by repeat (first | exact Below.refl _ _ | assumption | (refine Below.drew ?_) | (refine below_drewN ?_ _) | (refine Below.alloc ?_ (by first | omega | (simp; done) | (simp; omega)) _) | (refine Below.setCell ?_ (by first | omega | (simp; done) | (simp; omega)) _))) hb4; have hz_w_w4 : w.heap.size < w4.heap.size := (by have h1 := hb4.size; (try simp at h1); omega)
    go_wp2_with fail
    refine (HI.out _).mono ?_
    rintro r w5 ⟨rfl, hb5⟩
    obtain ⟨hc_w5, hf_w5⟩ := bcell hb5; have HT_w5 : Below w.heap.size w w5 := below_step (by repeat (first | exact Below.refl _ _ | assumption | (refine Below.drew ?_) | (refine below_drewN ?_ _) | (refine Below.alloc ?_ (by first | omega | (simp; done) | (simp; omega)) _) | (refine Below.setCell ?_ (by first | omega | (simp; done) | (simp; omega)) _))) hb5; have hz_w_w5 : w.heap.size < w5.heap.size := (by have h1 := hb5.size; (try simp at h1); omega)
    go_wp2_with fail
    go_ret
    exact ⟨rfl, HT_w5⟩
  · go_enter Try.func8, Try.ntmps8
    have H := Lib.hid (szI_no hbig)
    go_wp2_with (go_at_call 28; refine (laws_szRing _ _ _ _ _ (by omega) (by omega) (by omega)).mono ?_; rintro r w1 ⟨rfl, hb1⟩; obtain ⟨hc1, hf1⟩ := bcell hb1; have hz1 : w.heap.size < w1.heap.size := (by have := hb1.size; (try simp at this); omega); have HB1 : Below w.heap.size w w1 := below_step (by repeat (first | exact Below.refl _ _ | assumption | (refine Below.drew ?_) | (refine below_drewN ?_ _) | (refine Below.alloc ?_ (by first | omega | (simp; done) | (simp; omega)) _) | (refine Below.setCell ?_ (by first | omega | (simp; done) | (simp; omega)) _))) hb1; rw [H.out])
    go_ret
    exact ⟨rfl, HB1⟩
end Go.Proofs.Ytglldmfhjipacaa

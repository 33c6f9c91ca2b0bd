/-
  Chapter 14: StartOf's model.
-/
import Derived.Test.YtelhgpoppgpniabStartB
import Derived.Test.YtelhgpoppgpniabL3DistS
import Derived.Test.YtelhgpoppgpniabL2Pat
import Derived.Deep.RegionLaw
namespace Go.Proofs.Ytelhgpoppgpniab
open Go.RowKit
set_option linter.unusedVariables false
set_option maxRecDepth 100000
theorem sdist_of (s t : ByteArray) (f : Bool) (d : Int) (hs : s.size ≤ 1048576) (ht : t.size ≤ 1048576) (hd : distI s t f = d) (w : World) :
    Calls Try.prog 65 #[.string s, .string t, .bool f] w fun e w' => e = .returned (.int .i64 d) ∧ Below w.heap.size w w' :=
  (spec_distance s t f w hs ht).mono fun _ _ h => ⟨by rw [h.1, hd], h.2⟩
set_option maxHeartbeats 4000000 in
theorem spec_startOf_yes (s : ByteArray) (K : Int) (f : Bool) (r : ByteArray) (en : Nat) (w : World) (hp : patOk s K = true) (hr : r.size ≤ 200) (he : en ≤ r.size) :
    Calls Try.prog 21 #[.agg #[.string s, .int .i64 K, .bool f], .string r, .int .i64 (en : Int)] w fun e w' => e = .returned (.tuple #[.int .i64 (startTo s r f en (en + 1)).1, .int .i64 (startTo s r f en (en + 1)).2]) ∧ Below w.heap.size w w' := by
  obtain ⟨p1, p2, p3, p4⟩ := (patOk_iff s K).1 hp
  have HP := Lib.hid hp
  have HI := Lib.hid (inB_yes (n := (en : Int)) (lo := 0) (hi := (r.size : Int)) ⟨by omega, by omega⟩)
  have HB := Lib.hid (startTo_bnd s r f en (by omega) he hr)
  have d1 : decide (200 < (r.size : Int)) = false := by simp; omega
  have d2 : ¬ (200 : Int) < (r.size : Int) := by omega
  clear hp
  go_enter Try.func21, Try.ntmps21
  go_wp2_with fail
  have hbx : Below w.heap.size w (w.alloc (.cells #[.string s, .int .i64 K, .bool f] 34)) := (by repeat (first | exact Below.refl _ _ | assumption | (refine Below.drew ?_) | (refine below_drewN ?_ _) | (refine Below.alloc ?_ (by first | omega | (simp; done) | (simp; omega)) _) | (refine Below.setCell ?_ (by first | omega | (simp; done) | (simp; omega)) _)))
  have q0 : (w.alloc (.cells #[.string s, .int .i64 K, .bool f] 34)).cell? ⟨w.heap.size, 0, none⟩ = some (.string s) := by go_simp
  have q1 : (w.alloc (.cells #[.string s, .int .i64 K, .bool f] 34)).cell? ⟨w.heap.size, 1, none⟩ = some (.int .i64 K) := by go_simp
  have q2 : (w.alloc (.cells #[.string s, .int .i64 K, .bool f] 34)).cell? ⟨w.heap.size, 2, none⟩ = some (.bool f) := by go_simp
  have hsz : (w.alloc (.cells #[.string s, .int .i64 K, .bool f] 34)).heap.size = w.heap.size + 1 := by simp
  generalize (w.alloc (.cells #[.string s, .int .i64 K, .bool f] 34)) = V at *
  refine (spec_patternOk s K f _ (by omega)).mono ?_
  rintro e w1 ⟨rfl, hb1⟩
  rw [HP.out]
  have p0' := (hb1.cell (p := ⟨w.heap.size, 0, none⟩) (by show w.heap.size < _; omega)).trans q0
  have p2' := (hb1.cell (p := ⟨w.heap.size, 2, none⟩) (by show w.heap.size < _; omega)).trans q2
  have hB1 := hbx.trans (hb1.mono hbx.size)
  have hs1 := hb1.size
  have hl1 : w.heap.size < w1.heap.size := by omega
  clear q0 q1 q2 hb1 hbx hsz hs1
  go_wp2_with (go_at_call 64; refine (spec_l1In _ _ _ _).mono ?_; rintro e w2 ⟨rfl, rfl⟩; rw [HI.out])
  go_loopw [8, 9, 10] (fun b d x wr => ∃ k : Nat, k ≤ en + 1 ∧ x = .int .i64 ((en : Int) - (k : Int)) ∧ b = .int .i64 (startTo s r f en k).1 ∧ d = .int .i64 (startTo s r f en k).2 ∧ Below w1.heap.size w1 wr)
    (fun _ _ x _ => (intOf x + 1).toNat)
  case atStart => exact ⟨0, by omega, by go_num, rfl, rfl, Below.refl _ _⟩
  case round =>
    obtain ⟨k, hk, rfl, rfl, rfl, hb⟩ := hrel
    have c0 := (hb.cell (p := ⟨w.heap.size, 0, none⟩) hl1).trans p0'
    have c2 := (hb.cell (p := ⟨w.heap.size, 2, none⟩) hl1).trans p2'
    have hsb := hb.size
    by_cases hlt : k ≤ en
    · have hx : ((en : Int) - (k : Int)) = ((en - k : Nat) : Int) := by omega
      have hx2 : ((en : Int) - ((k + 1 : Nat) : Int)) = ((en - k : Nat) : Int) - 1 := by omega
      have HB1 := Lib.hid (HB.out k (by omega))
      have hyes := startTo_yes (s := s) (r := r) (f := f) (e := en) (k := k)
      have hno := startTo_no (s := s) (r := r) (f := f) (e := en) (k := k)
      have hdb := backD_bnd s r f en k (by omega) he hr
      have hde : backD s r f en k = distI s (r.extract (en - k) en) f := rfl
      rw [hx] at hyes ⊢
      have hje : en - k ≤ en := by omega
      obtain ⟨j, hj⟩ : ∃ j, en - k = j := ⟨_, rfl⟩
      rw [hj] at hx2 hyes hje hde ⊢
      obtain ⟨d, hd⟩ : ∃ d, backD s r f en k = d := ⟨_, rfl⟩
      rw [hd] at hyes hno hdb hde
      obtain ⟨B, x, hbx⟩ : ∃ B x, startTo s r f en k = (B, x) := ⟨_, _, rfl⟩
      rw [hbx] at hyes hno ⊢
      simp only at hyes hno ⊢
      have hAz : (r.extract j en).size ≤ 200 := by rw [extract_len r j en he]; omega
      have C1 := Lib.hid (fun W => sdist_of s (r.extract j en) f d (by omega) (by omega) hde.symm W)
      have HX2 := Lib.hid hx2; have HJ := Lib.hid hj
      have j0 : (0 : Int) ≤ (j : Int) := by omega
      have j1 : (j : Int) ≤ (en : Int) := by omega
      have j2 : (en : Int) ≤ (r.size : Int) := by omega
      have hbl : w.heap.size < wr.heap.size := by omega
      replace c0 := cell_regrown c0
      replace c2 := cell_regrown c2
      clear hd hde hbx hx hx2 hj p0' p2' HB
      by_cases hdx : d < x
      · have HS := Lib.hid (hyes hdx)
        clear hyes hno
        go_wp2_with fail
        refine wp_region_quiet_below (by kernel_rfl) (by kernel_rfl) ?_
        repeat (go_big_quiet_step (((go_at_call 65; with_reducible exact Calls.regrown_of (C1.out _)))))
        refine wpQuiet_nil ?_
        intro _ hw'
        obtain ⟨⟨dq, osq⟩, hw''⟩ := hw'
        subst hw''
        go_wp2
        go_roundw
        case rel => exact ⟨k + 1, by omega, by rw [HX2.out], by rw [HS.out], by rw [HS.out], hb.trans ((below_regrown wr dq osq).mono hb.size)⟩
        case measure => first | (simp [intOf]; done) | (simp [intOf]; omega)
      · have HS := Lib.hid (hno hdx)
        clear hyes hno
        go_wp2_with fail
        refine wp_region_quiet_below (by kernel_rfl) (by kernel_rfl) ?_
        repeat (go_big_quiet_step (((go_at_call 65; with_reducible exact Calls.regrown_of (C1.out _)))))
        refine wpQuiet_nil ?_
        intro _ hw'
        obtain ⟨⟨dq, osq⟩, hw''⟩ := hw'
        subst hw''
        go_wp2
        go_roundw
        case rel => exact ⟨k + 1, by omega, by rw [HX2.out], by rw [HS.out], by rw [HS.out], hb.trans ((below_regrown wr dq osq).mono hb.size)⟩
        case measure => first | (simp [intOf]; done) | (simp [intOf]; omega)
    · obtain rfl : k = en + 1 := by omega
      have hx : ((en : Int) - ((en + 1 : Nat) : Int)) = -1 := by omega
      rw [hx]
      obtain ⟨B, x, hbx⟩ : ∃ B x, startTo s r f en (en + 1) = (B, x) := ⟨_, _, rfl⟩
      rw [hbx]
      have HBX := Lib.hid hbx
      clear hbx hx
      go_wp2
      refine bodyPost_ret (v := .tuple #[.int .i64 B, .int .i64 x]) (by simp [results, Try.results21, go_sem]) rfl ⟨by rw [HBX.out], ?_⟩
      exact hB1.trans (hb.mono hB1.size)
set_option maxHeartbeats 2000000 in
theorem spec_startOf (s : ByteArray) (K : Int) (f : Bool) (r : ByteArray) (en : Int) (w : World) (hs : s.size ≤ 1048576) (hr : r.size ≤ 1048576) :
    Calls Try.prog 21 #[.agg #[.string s, .int .i64 K, .bool f], .string r, .int .i64 en] w fun e w' => e = .returned (.tuple #[.int .i64 (startS s K f r en).1, .int .i64 (startS s K f r en).2]) ∧ Below w.heap.size w w' := by
  by_cases h : patOk s K = true ∧ r.size ≤ 200 ∧ 0 ≤ en ∧ en ≤ r.size
  · obtain ⟨h1, h2, h3, h4⟩ := h
    obtain ⟨e, rfl⟩ : ∃ e : Nat, en = (e : Int) := ⟨en.toNat, by omega⟩
    rw [startS_yes h1 h2 (by omega)]
    exact spec_startOf_yes s K f r e w h1 h2 (by omega)
  · rw [startS_no h]
    cases hp : patOk s K
    · have HP := Lib.hid hp
      clear hp h
      go_enter Try.func21, Try.ntmps21
      go_wp2_with fail
      have hbx : Below w.heap.size w (w.alloc (.cells #[.string s, .int .i64 K, .bool f] 34)) := (by repeat (first | exact Below.refl _ _ | assumption | (refine Below.drew ?_) | (refine below_drewN ?_ _) | (refine Below.alloc ?_ (by first | omega | (simp; done) | (simp; omega)) _) | (refine Below.setCell ?_ (by first | omega | (simp; done) | (simp; omega)) _)))
      generalize (w.alloc (.cells #[.string s, .int .i64 K, .bool f] 34)) = V at *
      refine (spec_patternOk s K f _ (by omega)).mono ?_
      rintro e w1 ⟨rfl, hb1⟩
      rw [HP.out]
      have hB := hbx.trans (hb1.mono hbx.size)
      go_wp2
      refine bodyPost_ret (v := .tuple #[.int .i64 0, .int .i64 (-1)]) (by simp [results, Try.results21, go_sem]) rfl ⟨rfl, hB⟩
    · have HP := Lib.hid hp
      by_cases h2 : r.size ≤ 200
      · have HI := Lib.hid (inB_no (n := en) (lo := 0) (hi := (r.size : Int)) (fun h3 => h ⟨hp, h2, h3.1, h3.2⟩))
        have d2 : ¬ (200 : Int) < (r.size : Int) := by omega
        clear hp h
        go_enter Try.func21, Try.ntmps21
        go_wp2_with fail
        have hbx : Below w.heap.size w (w.alloc (.cells #[.string s, .int .i64 K, .bool f] 34)) := (by repeat (first | exact Below.refl _ _ | assumption | (refine Below.drew ?_) | (refine below_drewN ?_ _) | (refine Below.alloc ?_ (by first | omega | (simp; done) | (simp; omega)) _) | (refine Below.setCell ?_ (by first | omega | (simp; done) | (simp; omega)) _)))
        generalize (w.alloc (.cells #[.string s, .int .i64 K, .bool f] 34)) = V at *
        refine (spec_patternOk s K f _ (by omega)).mono ?_
        rintro e w1 ⟨rfl, hb1⟩
        rw [HP.out]
        have hB := hbx.trans (hb1.mono hbx.size)
        go_wp2_with (go_at_call 64; refine (spec_l1In _ _ _ _).mono ?_; rintro e w2 ⟨rfl, rfl⟩; rw [HI.out])
        refine bodyPost_ret (v := .tuple #[.int .i64 0, .int .i64 (-1)]) (by simp [results, Try.results21, go_sem]) rfl ⟨rfl, hB⟩
      · have d2 : (200 : Int) < (r.size : Int) := by omega
        clear hp h
        go_enter Try.func21, Try.ntmps21
        go_wp2_with fail
        have hbx : Below w.heap.size w (w.alloc (.cells #[.string s, .int .i64 K, .bool f] 34)) := (by repeat (first | exact Below.refl _ _ | assumption | (refine Below.drew ?_) | (refine below_drewN ?_ _) | (refine Below.alloc ?_ (by first | omega | (simp; done) | (simp; omega)) _) | (refine Below.setCell ?_ (by first | omega | (simp; done) | (simp; omega)) _)))
        generalize (w.alloc (.cells #[.string s, .int .i64 K, .bool f] 34)) = V at *
        refine (spec_patternOk s K f _ (by omega)).mono ?_
        rintro e w1 ⟨rfl, hb1⟩
        rw [HP.out]
        have hB := hbx.trans (hb1.mono hbx.size)
        go_wp2
        refine bodyPost_ret (v := .tuple #[.int .i64 0, .int .i64 (-1)]) (by simp [results, Try.results21, go_sem]) rfl ⟨rfl, hB⟩
end Go.Proofs.Ytelhgpoppgpniab

/-
  Chapter 5: RowsOk's model.
-/
import Derived.Test.YtglldmfhjipacaaL5Ok
namespace Go.Proofs.Ytglldmfhjipacaa
open Go.RowKit
set_option linter.unusedVariables false
set_option maxRecDepth 100000
theorem spec_l1In_b (n lo hi : Int) (w : World) :
    Calls Try.prog 83 #[.int .i64 n, .int .i64 lo, .int .i64 hi] w fun e w' => e = .returned (.bool (inB n lo hi)) ∧ Below w.heap.size w w' :=
  (spec_l1In n lo hi w).mono fun _ _ ⟨h1, h2⟩ => ⟨h1, by rw [← h2]; exact Below.refl _ _⟩
theorem spec_l4Full (s : ByteArray) (k : Int) (f : Bool) (w : World) (hs : s.size ≤ 20) :
    Calls Try.prog 99 #[.agg #[.string s, .int .i64 k, .bool f]] w fun e w' => e = .returned (.int .i64 (2 ^ s.size - 1)) ∧ Below w.heap.size w w' := by
  have p2 := pow_small s.size hs
  have p3 := pow_pos s.size
  go_enter Try.func99, Try.ntmps99
  go_wp2
  go_ret
  exact ⟨rfl, (by repeat (first | exact Below.refl _ _ | assumption | (refine Below.drew ?_) | (refine below_drewN ?_ _) | (refine Below.alloc ?_ (by first | omega | (simp; done) | (simp; omega)) _) | (refine Below.setCell ?_ (by first | omega | (simp; done) | (simp; omega)) _)))⟩
theorem rowGood_eq {n : Nat} {L : List Int} {j : Nat} (hx : I64 (intAt L j)) (hn : n ≤ 20) (hj : j ≤ 20) :
    rowGood n L j = true ↔ inB (intAt L j) 0 (2 ^ n - 1) = true ∧ bits .and .i64 (intAt L j) (2 ^ (min j n) - 1) = 2 ^ (min j n) - 1 ∧ (0 < j → bits .andNot .i64 (intAt L (j - 1)) (intAt L j) = 0) := by
  unfold rowGood
  simp only [Bool.and_eq_true, decide_eq_true_eq]
  rw [andNot_low hx (by omega), needed_iff _ _ _ _ (by omega)]
  have hi : inB (intAt L j) 0 (2 ^ n - 1) = true ↔ 0 ≤ intAt L j ∧ intAt L j ≤ 2 ^ n - 1 := by simp [inB]
  rw [hi]
  by_cases h0 : j = 0
  · subst h0
    rw [aheadAt_zero]
    constructor
    · rintro ⟨h1, h2, h3⟩; exact ⟨h1, h2, fun h => by omega⟩
    · rintro ⟨h1, h2, h3⟩; exact ⟨h1, h2, andNot_zero_left _⟩
  · have : aheadAt L j = intAt L (j - 1) := by unfold aheadAt; rw [if_neg h0]
    rw [this]
    constructor
    · rintro ⟨h1, h2, h3⟩; exact ⟨h1, h2, fun _ => h3⟩
    · rintro ⟨h1, h2, h3⟩; exact ⟨h1, h2, h3 (by omega)⟩
set_option maxHeartbeats 4000000 in
theorem spec_rowsOk (s : ByteArray) (k : Int) (f : Bool) (L : List Int) (a : Option Addr) (n cap : Nat) (w : World) (hs : s.size ≤ 1048576) (hn : L.length = n) (h : Ints w a L) (hlen : n ≤ 1048577) (hwf : ∀ i, i < n → I64 (intAt L i)) :
    Calls Try.prog 52 #[.agg #[.string s, .int .i64 k, .bool f], .agg #[.slice a n cap]] w fun e w' => e = .returned (.bool (rowsOkB s k L)) ∧ Below w.heap.size w w' := by
  cases hp : patOk s k
  · have HR := Lib.hid (show rowsOkB s k L = false by unfold rowsOkB; rw [hp]; rfl)
    have HP := Lib.hid hp; clear hp hwf
    go_enter Try.func52, Try.ntmps52
    go_wp2_with fail
    refine (spec_patternOk _ _ _ _ (by omega)).mono ?_
    rintro e w1 ⟨rfl, hb1⟩; rw [HP.out]
    obtain ⟨hc_w1, hf_w1⟩ := bcell hb1; have HT_w1 : Below w.heap.size w w1 := below_step (by repeat (first | exact Below.refl _ _ | assumption | (refine Below.drew ?_) | (refine below_drewN ?_ _) | (refine Below.alloc ?_ (by first | omega | (simp; done) | (simp; omega)) _) | (refine Below.setCell ?_ (by first | omega | (simp; done) | (simp; omega)) _))) hb1; have hz_w_w1 : w.heap.size < w1.heap.size := (by have h1 := hb1.size; (try simp at h1); omega)
    go_wp2_with fail
    go_ret
    exact ⟨by rw [HR.out]; rfl, HT_w1⟩
  · obtain ⟨hs0, hs1, hk0, hk1⟩ := (patOk_iff s k).1 hp
    have HP := Lib.hid hp
    have HW := Lib.hid hwf; clear hwf
    by_cases hl : (n : Int) = k + 1
    · have HR := Lib.hid (show rowsOkB s k L = rowsTo s.size L n by unfold rowsOkB; rw [hp, hn]; simp [hl])
      have hl2 : ((n : Int) != k + 1) = false := by simp [hl]
      have hn5 : n ≤ 5 := by omega
      have HN := Lib.hid hn
      clear hp hl hn
      go_enter Try.func52, Try.ntmps52
      go_wp2_with fail
      refine (spec_patternOk _ _ _ _ (by omega)).mono ?_
      rintro e w1 ⟨rfl, hb1⟩; rw [HP.out]
      obtain ⟨hc_w1, hf_w1⟩ := bcell hb1; have HT_w1 : Below w.heap.size w w1 := below_step (by repeat (first | exact Below.refl _ _ | assumption | (refine Below.drew ?_) | (refine below_drewN ?_ _) | (refine Below.alloc ?_ (by first | omega | (simp; done) | (simp; omega)) _) | (refine Below.setCell ?_ (by first | omega | (simp; done) | (simp; omega)) _))) hb1; have hz_w_w1 : w.heap.size < w1.heap.size := (by have h1 := hb1.size; (try simp at h1); omega)
      have hz1 : w.heap.size + 1 < w1.heap.size := by have h1 := hb1.size; (try simp at h1); omega
      have m0 : w1.cell? ⟨w.heap.size, 0, none⟩ = some (.string s) := by go_simp
      have m1 : w1.cell? ⟨w.heap.size, 1, none⟩ = some (.int .i64 k) := by go_simp
      have m2 : w1.cell? ⟨w.heap.size, 2, none⟩ = some (.bool f) := by go_simp
      have m3 : w1.cell? ⟨w.heap.size + 1, 0, none⟩ = some (.slice a n cap) := by go_simp
      have hI := h.kept HT_w1
      clear h hc_w1 hf_w1
      go_wp2_with fail
      go_loopw [5] (fun i wr => ∃ j : Nat, j ≤ n ∧ i = .int .i64 j ∧ rowsTo s.size L j = true ∧ Below w1.heap.size w1 wr)
        (fun i _ => n - (intOf i).toNat)
      case atStart => exact ⟨0, by omega, rfl, rfl, Below.refl _ _⟩
      case round =>
        obtain ⟨j, hj, rfl, hst, hb⟩ := hrel
        have n0 := (hb.cell (p := ⟨w.heap.size, 0, none⟩) hz_w_w1).trans m0
        have n1 := (hb.cell (p := ⟨w.heap.size, 1, none⟩) hz_w_w1).trans m1
        have n2 := (hb.cell (p := ⟨w.heap.size, 2, none⟩) hz_w_w1).trans m2
        have n3 := (hb.cell (p := ⟨w.heap.size + 1, 0, none⟩) hz1).trans m3
        clear m0 m1 m2 m3
        by_cases hlt : j < n
        · obtain ⟨b, off, rfl, hp⟩ := (hI.kept hb).at j (by rw [HN.out]; exact hlt)
          have c0 := hp j (by rw [HN.out]; exact hlt)
          have hx := HW.out j hlt
          have HG := Lib.hid (rowGood_eq (n := s.size) hx hs1 (by omega))
          have HS := Lib.hid hst; clear hst
          have p2 := pow_small s.size hs1
          have p3 := pow_pos s.size
          obtain ⟨m, hm1, hm2⟩ : ∃ m, m = min j s.size ∧ m ≤ 20 := ⟨_, rfl, by omega⟩
          rw [← hm1] at HG
          have q2 := pow_small m hm2
          have q3 := pow_pos m
          have hmm : ((if (s.size : Int) < (j : Int) then (s.size : Int) else (j : Int)) = (m : Int)) := by split <;> omega
          by_cases hj0 : j = 0
          · have g0 : decide ((0 : Int) < (j : Int)) = false := by simp; omega
            have g0n : decide (0 < j) = false := by simp; omega
            have hjs : j ≤ s.size := by omega
            have HJ0 := Lib.hid hj0
            clear hj0
            have u0 := cell_regrown n0
            have u1 := cell_regrown n1
            have u2 := cell_regrown n2
            have u3 := cell_regrown n3
            have v0 := cell_regrown c0
            have HX := Lib.hid hx
            clear hx hp hI HN HW
            generalize hxx : intAt L j = x at *
            have HXX := Lib.hid hxx; clear hxx
            obtain rfl : j = m := by have := HJ0.out; omega
            have hjs2 : (j : Int) ≤ (s.size : Int) := by omega
            clear hmm hjs hm1
            cases hA : inB x 0 (2 ^ s.size - 1)
            · have hno : rowGood s.size L j = false := by
                cases e : rowGood s.size L j
                · rfl
                · exact absurd (HG.out.1 e) (fun h => by rw [hA] at h; exact absurd h.1 (by decide))
              have HNo := Lib.hid (rowsTo_no hno hlt)
              clear hno
              go_wp2_with fail
              try have jw := JW.out
              refine wp_region_quiet_below (by kernel_rfl) (by kernel_rfl) ?_
              repeat (go_big_quiet_step (first | (go_at_call 99; exact Calls.regrown_of (spec_l4Full _ _ _ _ hs1)) | (go_at_call 83; exact Calls.regrown_of (spec_l1In_b _ _ _ _))))
              refine wpQuiet_nil ?_
              intro _ hw'
              obtain ⟨⟨dq, osq⟩, hw''⟩ := hw'
              subst hw''
              try clear jw
              go_wp2
              go_ret
              exact ⟨by rw [HR.out, HNo.out]; rfl, (below_step HT_w1 hb).trans ((below_regrown wr dq osq).mono (below_step HT_w1 hb).size)⟩
            · by_cases hB : bits .and .i64 x (2 ^ j - 1) = 2 ^ j - 1
              · have t2 : (bits .and .i64 x (2 ^ j - 1) != 2 ^ j - 1) = false := by rw [hB]; exact bne_self_eq_false _
                have hyes : rowGood s.size L j = true := HG.out.2 ⟨hA, hB, fun h => absurd h (by have := HJ0.out; omega)⟩
                clear hB
                have HS2 := Lib.hid (rowsTo_succ HS.out hyes)
                clear hyes
                go_wp2_with fail
                try have jw := JW.out
                refine wp_region_quiet_below (by kernel_rfl) (by kernel_rfl) ?_
                repeat (go_big_quiet_step (first | (go_at_call 99; exact Calls.regrown_of (spec_l4Full _ _ _ _ hs1)) | (go_at_call 83; exact Calls.regrown_of (spec_l1In_b _ _ _ _))))
                refine wpQuiet_nil ?_
                intro _ hw'
                obtain ⟨⟨dq, osq⟩, hw''⟩ := hw'
                subst hw''
                try clear jw
                go_wp2
                go_roundw
                case rel => exact ⟨j + 1, by omega, by go_num, HS2.out, hb.trans ((below_regrown wr dq osq).mono hb.size)⟩
                case measure => simp [intOf]; omega
              · have t2 : (bits .and .i64 x (2 ^ j - 1) != 2 ^ j - 1) = true := bne_iff_ne.2 hB
                have hno : rowGood s.size L j = false := by
                  cases e : rowGood s.size L j
                  · rfl
                  · exact absurd (HG.out.1 e) (fun h => hB h.2.1)
                have HNo := Lib.hid (rowsTo_no hno hlt)
                clear hno
                clear hB
                go_wp2_with fail
                try have jw := JW.out
                refine wp_region_quiet_below (by kernel_rfl) (by kernel_rfl) ?_
                repeat (go_big_quiet_step (first | (go_at_call 99; exact Calls.regrown_of (spec_l4Full _ _ _ _ hs1)) | (go_at_call 83; exact Calls.regrown_of (spec_l1In_b _ _ _ _))))
                refine wpQuiet_nil ?_
                intro _ hw'
                obtain ⟨⟨dq, osq⟩, hw''⟩ := hw'
                subst hw''
                try clear jw
                go_wp2
                go_ret
                exact ⟨by rw [HR.out, HNo.out]; rfl, (below_step HT_w1 hb).trans ((below_regrown wr dq osq).mono (below_step HT_w1 hb).size)⟩
          · have c1 := hp (j - 1) (by rw [HN.out]; omega)
            have u0 := cell_regrown n0
            have u1 := cell_regrown n1
            have u2 := cell_regrown n2
            have u3 := cell_regrown n3
            have v0 := cell_regrown c0
            have v1 := cell_regrown c1
            have HX := Lib.hid hx
            clear hx hp hI HN HW
            generalize hxx : intAt L j = x at *
            have HXX := Lib.hid hxx; clear hxx
            generalize hyy : intAt L (j - 1) = y at *
            have HYY := Lib.hid hyy; clear hyy
            have g1 : decide ((0 : Int) < (j : Int)) = true := by simp; omega
            have g1n : decide (0 < j) = true := by simp; omega
            have g2 : (1 : Int) ≤ (j : Int) := by omega
            have g3 : (j : Int) - 1 < (n : Int) := by omega
            have g4 : j - 1 < n := by omega
            have jw : IntKind.i64.wrap ((j : Int) - 1) = (j : Int) - 1 := by rw [IntKind.wrap_i64]; omega
            have JW := Lib.hid jw; clear jw
            by_cases hjs : j ≤ s.size
            · obtain rfl : j = m := by omega
              have hjs2 : (j : Int) ≤ (s.size : Int) := by omega
              clear hmm hjs hm1
              cases hA : inB x 0 (2 ^ s.size - 1)
              · have hno : rowGood s.size L j = false := by
                  cases e : rowGood s.size L j
                  · rfl
                  · exact absurd (HG.out.1 e) (fun h => by rw [hA] at h; exact absurd h.1 (by decide))
                have HNo := Lib.hid (rowsTo_no hno hlt)
                clear hno
                go_wp2_with fail
                try have jw := JW.out
                refine wp_region_quiet_below (by kernel_rfl) (by kernel_rfl) ?_
                repeat (go_big_quiet_step (first | (go_at_call 99; exact Calls.regrown_of (spec_l4Full _ _ _ _ hs1)) | (go_at_call 83; exact Calls.regrown_of (spec_l1In_b _ _ _ _))))
                refine wpQuiet_nil ?_
                intro _ hw'
                obtain ⟨⟨dq, osq⟩, hw''⟩ := hw'
                subst hw''
                try clear jw
                go_wp2
                go_ret
                exact ⟨by rw [HR.out, HNo.out]; rfl, (below_step HT_w1 hb).trans ((below_regrown wr dq osq).mono (below_step HT_w1 hb).size)⟩
              · by_cases hB : bits .and .i64 x (2 ^ j - 1) = 2 ^ j - 1
                · have t2 : (bits .and .i64 x (2 ^ j - 1) != 2 ^ j - 1) = false := by rw [hB]; exact bne_self_eq_false _
                  by_cases hC : bits .andNot .i64 y x = 0
                  · have t3 : (bits .andNot .i64 y x != 0) = false := by rw [hC]; rfl
                    have hyes : rowGood s.size L j = true := HG.out.2 ⟨hA, hB, fun _ => hC⟩
                    clear hB hC
                    have HS2 := Lib.hid (rowsTo_succ HS.out hyes)
                    clear hyes
                    go_wp2_with fail
                    try have jw := JW.out
                    refine wp_region_quiet_below (by kernel_rfl) (by kernel_rfl) ?_
                    repeat (go_big_quiet_step (first | (go_at_call 99; exact Calls.regrown_of (spec_l4Full _ _ _ _ hs1)) | (go_at_call 83; exact Calls.regrown_of (spec_l1In_b _ _ _ _))))
                    refine wpQuiet_nil ?_
                    intro _ hw'
                    obtain ⟨⟨dq, osq⟩, hw''⟩ := hw'
                    subst hw''
                    try clear jw
                    go_wp2
                    go_roundw
                    case rel => exact ⟨j + 1, by omega, by go_num, HS2.out, hb.trans ((below_regrown wr dq osq).mono hb.size)⟩
                    case measure => simp [intOf]; omega
                  · have t3 : (bits .andNot .i64 y x != 0) = true := bne_iff_ne.2 hC
                    have hno : rowGood s.size L j = false := by
                      cases e : rowGood s.size L j
                      · rfl
                      · exact absurd (HG.out.1 e) (fun h => hC (h.2.2 (by omega)))
                    have HNo := Lib.hid (rowsTo_no hno hlt)
                    clear hno
                    clear hB hC
                    go_wp2_with fail
                    try have jw := JW.out
                    refine wp_region_quiet_below (by kernel_rfl) (by kernel_rfl) ?_
                    repeat (go_big_quiet_step (first | (go_at_call 99; exact Calls.regrown_of (spec_l4Full _ _ _ _ hs1)) | (go_at_call 83; exact Calls.regrown_of (spec_l1In_b _ _ _ _))))
                    refine wpQuiet_nil ?_
                    intro _ hw'
                    obtain ⟨⟨dq, osq⟩, hw''⟩ := hw'
                    subst hw''
                    try clear jw
                    go_wp2
                    go_ret
                    exact ⟨by rw [HR.out, HNo.out]; rfl, (below_step HT_w1 hb).trans ((below_regrown wr dq osq).mono (below_step HT_w1 hb).size)⟩
                · have t2 : (bits .and .i64 x (2 ^ j - 1) != 2 ^ j - 1) = true := bne_iff_ne.2 hB
                  have hno : rowGood s.size L j = false := by
                    cases e : rowGood s.size L j
                    · rfl
                    · exact absurd (HG.out.1 e) (fun h => hB h.2.1)
                  have HNo := Lib.hid (rowsTo_no hno hlt)
                  clear hno
                  clear hB
                  go_wp2_with fail
                  try have jw := JW.out
                  refine wp_region_quiet_below (by kernel_rfl) (by kernel_rfl) ?_
                  repeat (go_big_quiet_step (first | (go_at_call 99; exact Calls.regrown_of (spec_l4Full _ _ _ _ hs1)) | (go_at_call 83; exact Calls.regrown_of (spec_l1In_b _ _ _ _))))
                  refine wpQuiet_nil ?_
                  intro _ hw'
                  obtain ⟨⟨dq, osq⟩, hw''⟩ := hw'
                  subst hw''
                  try clear jw
                  go_wp2
                  go_ret
                  exact ⟨by rw [HR.out, HNo.out]; rfl, (below_step HT_w1 hb).trans ((below_regrown wr dq osq).mono (below_step HT_w1 hb).size)⟩
            · obtain rfl : s.size = m := by omega
              have hjs2 : (s.size : Int) < (j : Int) := by omega
              clear hmm hjs hm1
              cases hA : inB x 0 (2 ^ s.size - 1)
              · have hno : rowGood s.size L j = false := by
                  cases e : rowGood s.size L j
                  · rfl
                  · exact absurd (HG.out.1 e) (fun h => by rw [hA] at h; exact absurd h.1 (by decide))
                have HNo := Lib.hid (rowsTo_no hno hlt)
                clear hno
                go_wp2_with fail
                try have jw := JW.out
                refine wp_region_quiet_below (by kernel_rfl) (by kernel_rfl) ?_
                repeat (go_big_quiet_step (first | (go_at_call 99; exact Calls.regrown_of (spec_l4Full _ _ _ _ hs1)) | (go_at_call 83; exact Calls.regrown_of (spec_l1In_b _ _ _ _))))
                refine wpQuiet_nil ?_
                intro _ hw'
                obtain ⟨⟨dq, osq⟩, hw''⟩ := hw'
                subst hw''
                try clear jw
                go_wp2
                go_ret
                exact ⟨by rw [HR.out, HNo.out]; rfl, (below_step HT_w1 hb).trans ((below_regrown wr dq osq).mono (below_step HT_w1 hb).size)⟩
              · by_cases hB : bits .and .i64 x (2 ^ s.size - 1) = 2 ^ s.size - 1
                · have t2 : (bits .and .i64 x (2 ^ s.size - 1) != 2 ^ s.size - 1) = false := by rw [hB]; exact bne_self_eq_false _
                  by_cases hC : bits .andNot .i64 y x = 0
                  · have t3 : (bits .andNot .i64 y x != 0) = false := by rw [hC]; rfl
                    have hyes : rowGood s.size L j = true := HG.out.2 ⟨hA, hB, fun _ => hC⟩
                    clear hB hC
                    have HS2 := Lib.hid (rowsTo_succ HS.out hyes)
                    clear hyes
                    go_wp2_with fail
                    try have jw := JW.out
                    refine wp_region_quiet_below (by kernel_rfl) (by kernel_rfl) ?_
                    repeat (go_big_quiet_step (first | (go_at_call 99; exact Calls.regrown_of (spec_l4Full _ _ _ _ hs1)) | (go_at_call 83; exact Calls.regrown_of (spec_l1In_b _ _ _ _))))
                    refine wpQuiet_nil ?_
                    intro _ hw'
                    obtain ⟨⟨dq, osq⟩, hw''⟩ := hw'
                    subst hw''
                    try clear jw
                    go_wp2
                    go_roundw
                    case rel => exact ⟨j + 1, by omega, by go_num, HS2.out, hb.trans ((below_regrown wr dq osq).mono hb.size)⟩
                    case measure => simp [intOf]; omega
                  · have t3 : (bits .andNot .i64 y x != 0) = true := bne_iff_ne.2 hC
                    have hno : rowGood s.size L j = false := by
                      cases e : rowGood s.size L j
                      · rfl
                      · exact absurd (HG.out.1 e) (fun h => hC (h.2.2 (by omega)))
                    have HNo := Lib.hid (rowsTo_no hno hlt)
                    clear hno
                    clear hB hC
                    go_wp2_with fail
                    try have jw := JW.out
                    refine wp_region_quiet_below (by kernel_rfl) (by kernel_rfl) ?_
                    repeat (go_big_quiet_step (first | (go_at_call 99; exact Calls.regrown_of (spec_l4Full _ _ _ _ hs1)) | (go_at_call 83; exact Calls.regrown_of (spec_l1In_b _ _ _ _))))
                    refine wpQuiet_nil ?_
                    intro _ hw'
                    obtain ⟨⟨dq, osq⟩, hw''⟩ := hw'
                    subst hw''
                    try clear jw
                    go_wp2
                    go_ret
                    exact ⟨by rw [HR.out, HNo.out]; rfl, (below_step HT_w1 hb).trans ((below_regrown wr dq osq).mono (below_step HT_w1 hb).size)⟩
                · have t2 : (bits .and .i64 x (2 ^ s.size - 1) != 2 ^ s.size - 1) = true := bne_iff_ne.2 hB
                  have hno : rowGood s.size L j = false := by
                    cases e : rowGood s.size L j
                    · rfl
                    · exact absurd (HG.out.1 e) (fun h => hB h.2.1)
                  have HNo := Lib.hid (rowsTo_no hno hlt)
                  clear hno
                  clear hB
                  go_wp2_with fail
                  try have jw := JW.out
                  refine wp_region_quiet_below (by kernel_rfl) (by kernel_rfl) ?_
                  repeat (go_big_quiet_step (first | (go_at_call 99; exact Calls.regrown_of (spec_l4Full _ _ _ _ hs1)) | (go_at_call 83; exact Calls.regrown_of (spec_l1In_b _ _ _ _))))
                  refine wpQuiet_nil ?_
                  intro _ hw'
                  obtain ⟨⟨dq, osq⟩, hw''⟩ := hw'
                  subst hw''
                  try clear jw
                  go_wp2
                  go_ret
                  exact ⟨by rw [HR.out, HNo.out]; rfl, (below_step HT_w1 hb).trans ((below_regrown wr dq osq).mono (below_step HT_w1 hb).size)⟩
        · obtain rfl : j = n := by omega
          have HSt := Lib.hid hst; clear hst
          go_wp2
          go_ret
          exact ⟨by rw [HR.out, HSt.out]; rfl, below_step HT_w1 hb⟩
    · have HR := Lib.hid (show rowsOkB s k L = false by unfold rowsOkB; rw [hp, hn]; simp [hl])
      have hl2 : ((n : Int) != k + 1) = true := by simp [hl]
      clear hp hl
      go_enter Try.func52, Try.ntmps52
      go_wp2_with fail
      refine (spec_patternOk _ _ _ _ (by omega)).mono ?_
      rintro e w1 ⟨rfl, hb1⟩; rw [HP.out]
      obtain ⟨hc_w1, hf_w1⟩ := bcell hb1; have HT_w1 : Below w.heap.size w w1 := below_step (by repeat (first | exact Below.refl _ _ | assumption | (refine Below.drew ?_) | (refine below_drewN ?_ _) | (refine Below.alloc ?_ (by first | omega | (simp; done) | (simp; omega)) _) | (refine Below.setCell ?_ (by first | omega | (simp; done) | (simp; omega)) _))) hb1; have hz_w_w1 : w.heap.size < w1.heap.size := (by have h1 := hb1.size; (try simp at h1); omega)
      have hz1 : w.heap.size + 1 < w1.heap.size := by have h1 := hb1.size; (try simp at h1); omega
      go_wp2_with fail
      go_ret
      exact ⟨by rw [HR.out]; rfl, HT_w1⟩
end Go.Proofs.Ytglldmfhjipacaa

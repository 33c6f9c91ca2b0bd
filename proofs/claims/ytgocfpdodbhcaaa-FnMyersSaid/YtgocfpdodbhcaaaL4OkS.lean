/-
  Chapter 4: MyersOk's model; FnExactMyersOk's walk.
-/
import Derived.Test.YtgocfpdodbhcaaaL4ColS
import Derived.Test.YtgocfpdodbhcaaaL5OkS
namespace Go.Proofs.Ytgocfpdodbhcaaa
open Go.RowKit
set_option linter.unusedVariables false
set_option maxRecDepth 100000
theorem colOkB_tab {ok : Bool} {n : Nat} {f : Nat → Int} (h : ok = true) : colOkB ok n (tab f (n + 1)) = stepsB (tab f (n + 1)) (n + 1) := by
  unfold colOkB; rw [h, tab_length]; simp
set_option maxHeartbeats 4000000 in
theorem spec_myersOk (s : ByteArray) (k : Int) (f : Bool) (u d t : Int) (w : World) (hs : s.size ≤ 1048576) (hu : I64 u) (hd : I64 d) :
    Calls Try.prog 51 #[.agg #[.string s, .int .i64 k, .bool f], .agg #[.int .i64 u, .int .i64 d, .int .i64 t]] w fun e w' => e = .returned (.bool (myOkB s k u d t)) ∧ Below w.heap.size w w' := by
  cases hp : patOk s k
  · have HR := Lib.hid (show myOkB s k u d t = false by unfold myOkB; rw [hp]; rfl)
    go_enter Try.func51, Try.ntmps51
    go_wp2_with fail
    have bx0 : ((w.alloc (.cells #[(.string s : Value), .int .i64 k, .bool f] 31)).alloc (.cells #[(.int .i64 u : Value), .int .i64 d, .int .i64 t] 51)).cell? ⟨w.heap.size, 0, none⟩ = some ((.string s : Value)) := (by rw [cell_of_row _ _ 0 _ _ _ (heap_alloc2_old _ _ _)]; rfl)
    have bx1 : ((w.alloc (.cells #[(.string s : Value), .int .i64 k, .bool f] 31)).alloc (.cells #[(.int .i64 u : Value), .int .i64 d, .int .i64 t] 51)).cell? ⟨w.heap.size, 1, none⟩ = some (.int .i64 k) := (by rw [cell_of_row _ _ 1 _ _ _ (heap_alloc2_old _ _ _)]; rfl)
    have bx2 : ((w.alloc (.cells #[(.string s : Value), .int .i64 k, .bool f] 31)).alloc (.cells #[(.int .i64 u : Value), .int .i64 d, .int .i64 t] 51)).cell? ⟨w.heap.size, 2, none⟩ = some (.bool f) := (by rw [cell_of_row _ _ 2 _ _ _ (heap_alloc2_old _ _ _)]; rfl)
    have by0 : ((w.alloc (.cells #[(.string s : Value), .int .i64 k, .bool f] 31)).alloc (.cells #[(.int .i64 u : Value), .int .i64 d, .int .i64 t] 51)).cell? ⟨w.heap.size + 1, 0, none⟩ = some ((.int .i64 u : Value)) := (by rw [cell_of_row _ _ 0 _ _ _ (heap_alloc2_new _ _ _)]; rfl)
    have by1 : ((w.alloc (.cells #[(.string s : Value), .int .i64 k, .bool f] 31)).alloc (.cells #[(.int .i64 u : Value), .int .i64 d, .int .i64 t] 51)).cell? ⟨w.heap.size + 1, 1, none⟩ = some (.int .i64 d) := (by rw [cell_of_row _ _ 1 _ _ _ (heap_alloc2_new _ _ _)]; rfl)
    have by2 : ((w.alloc (.cells #[(.string s : Value), .int .i64 k, .bool f] 31)).alloc (.cells #[(.int .i64 u : Value), .int .i64 d, .int .i64 t] 51)).cell? ⟨w.heap.size + 1, 2, none⟩ = some (.int .i64 t) := (by rw [cell_of_row _ _ 2 _ _ _ (heap_alloc2_new _ _ _)]; rfl)
    have hbz : Below w.heap.size w ((w.alloc (.cells #[(.string s : Value), .int .i64 k, .bool f] 31)).alloc (.cells #[(.int .i64 u : Value), .int .i64 d, .int .i64 t] 51)) := ((Below.refl _ _).alloc (Nat.le_refl _) _).alloc (by simp) _
    have hzz : w.heap.size + 1 < ((w.alloc (.cells #[(.string s : Value), .int .i64 k, .bool f] 31)).alloc (.cells #[(.int .i64 u : Value), .int .i64 d, .int .i64 t] 51)).heap.size := (by simp)
    have hzeq := Lib.hid (show ((w.alloc (.cells #[(.string s : Value), .int .i64 k, .bool f] 31)).alloc (.cells #[(.int .i64 u : Value), .int .i64 d, .int .i64 t] 51)).heap.size = w.heap.size + 2 by simp)
    generalize ((w.alloc (.cells #[(.string s : Value), .int .i64 k, .bool f] 31)).alloc (.cells #[(.int .i64 u : Value), .int .i64 d, .int .i64 t] 51)) = wz at *
    have cx0 := cell_regrown bx0
    have cx1 := cell_regrown bx1
    have cx2 := cell_regrown bx2
    have cy0 := cell_regrown by0
    have cy1 := cell_regrown by1
    have cy2 := cell_regrown by2
    refine wp_region_quiet_below (by kernel_rfl) (by kernel_rfl) ?_
    repeat (go_big_quiet_step (first | (go_at_call 38; exact Calls.regrown_of (spec_patternOk _ _ _ _ (by omega))) | (go_at_call 141; exact Calls.regrown_of (spec_l4Full _ _ _ _ hs1)) | (go_at_call 129; exact Calls.regrown_of (spec_l1In_b _ _ _ _))))
    refine wpQuiet_nil ?_
    intro _ hw'
    obtain ⟨⟨dq, osq⟩, hw''⟩ := hw'
    subst hw''
    go_wp2
    go_ret
    exact ⟨by rw [HR.out]; rfl, hbz.trans ((below_regrown wz dq osq).mono hbz.size)⟩
  · obtain ⟨hs0, hs1, hk0, hk1⟩ := (patOk_iff s k).1 hp
    have HP := Lib.hid hp
    cases hiu : inB u 0 (2 ^ s.size - 1)
    · have HR := Lib.hid (show myOkB s k u d t = false by unfold myOkB; rw [hiu]; simp)
      go_enter Try.func51, Try.ntmps51
      go_wp2_with fail
      have bx0 : ((w.alloc (.cells #[(.string s : Value), .int .i64 k, .bool f] 31)).alloc (.cells #[(.int .i64 u : Value), .int .i64 d, .int .i64 t] 51)).cell? ⟨w.heap.size, 0, none⟩ = some ((.string s : Value)) := (by rw [cell_of_row _ _ 0 _ _ _ (heap_alloc2_old _ _ _)]; rfl)
      have bx1 : ((w.alloc (.cells #[(.string s : Value), .int .i64 k, .bool f] 31)).alloc (.cells #[(.int .i64 u : Value), .int .i64 d, .int .i64 t] 51)).cell? ⟨w.heap.size, 1, none⟩ = some (.int .i64 k) := (by rw [cell_of_row _ _ 1 _ _ _ (heap_alloc2_old _ _ _)]; rfl)
      have bx2 : ((w.alloc (.cells #[(.string s : Value), .int .i64 k, .bool f] 31)).alloc (.cells #[(.int .i64 u : Value), .int .i64 d, .int .i64 t] 51)).cell? ⟨w.heap.size, 2, none⟩ = some (.bool f) := (by rw [cell_of_row _ _ 2 _ _ _ (heap_alloc2_old _ _ _)]; rfl)
      have by0 : ((w.alloc (.cells #[(.string s : Value), .int .i64 k, .bool f] 31)).alloc (.cells #[(.int .i64 u : Value), .int .i64 d, .int .i64 t] 51)).cell? ⟨w.heap.size + 1, 0, none⟩ = some ((.int .i64 u : Value)) := (by rw [cell_of_row _ _ 0 _ _ _ (heap_alloc2_new _ _ _)]; rfl)
      have by1 : ((w.alloc (.cells #[(.string s : Value), .int .i64 k, .bool f] 31)).alloc (.cells #[(.int .i64 u : Value), .int .i64 d, .int .i64 t] 51)).cell? ⟨w.heap.size + 1, 1, none⟩ = some (.int .i64 d) := (by rw [cell_of_row _ _ 1 _ _ _ (heap_alloc2_new _ _ _)]; rfl)
      have by2 : ((w.alloc (.cells #[(.string s : Value), .int .i64 k, .bool f] 31)).alloc (.cells #[(.int .i64 u : Value), .int .i64 d, .int .i64 t] 51)).cell? ⟨w.heap.size + 1, 2, none⟩ = some (.int .i64 t) := (by rw [cell_of_row _ _ 2 _ _ _ (heap_alloc2_new _ _ _)]; rfl)
      have hbz : Below w.heap.size w ((w.alloc (.cells #[(.string s : Value), .int .i64 k, .bool f] 31)).alloc (.cells #[(.int .i64 u : Value), .int .i64 d, .int .i64 t] 51)) := ((Below.refl _ _).alloc (Nat.le_refl _) _).alloc (by simp) _
      have hzz : w.heap.size + 1 < ((w.alloc (.cells #[(.string s : Value), .int .i64 k, .bool f] 31)).alloc (.cells #[(.int .i64 u : Value), .int .i64 d, .int .i64 t] 51)).heap.size := (by simp)
      have hzeq := Lib.hid (show ((w.alloc (.cells #[(.string s : Value), .int .i64 k, .bool f] 31)).alloc (.cells #[(.int .i64 u : Value), .int .i64 d, .int .i64 t] 51)).heap.size = w.heap.size + 2 by simp)
      generalize ((w.alloc (.cells #[(.string s : Value), .int .i64 k, .bool f] 31)).alloc (.cells #[(.int .i64 u : Value), .int .i64 d, .int .i64 t] 51)) = wz at *
      have cx0 := cell_regrown bx0
      have cx1 := cell_regrown bx1
      have cx2 := cell_regrown bx2
      have cy0 := cell_regrown by0
      have cy1 := cell_regrown by1
      have cy2 := cell_regrown by2
      refine wp_region_quiet_below (by kernel_rfl) (by kernel_rfl) ?_
      repeat (go_big_quiet_step (first | (go_at_call 38; exact Calls.regrown_of (spec_patternOk _ _ _ _ (by omega))) | (go_at_call 141; exact Calls.regrown_of (spec_l4Full _ _ _ _ hs1)) | (go_at_call 129; exact Calls.regrown_of (spec_l1In_b _ _ _ _))))
      refine wpQuiet_nil ?_
      intro _ hw'
      obtain ⟨⟨dq, osq⟩, hw''⟩ := hw'
      subst hw''
      go_wp2
      go_ret
      exact ⟨by rw [HR.out]; rfl, hbz.trans ((below_regrown wz dq osq).mono hbz.size)⟩
    · cases hid : inB d 0 (2 ^ s.size - 1)
      · have HR := Lib.hid (show myOkB s k u d t = false by unfold myOkB; rw [hid]; simp)
        go_enter Try.func51, Try.ntmps51
        go_wp2_with fail
        have bx0 : ((w.alloc (.cells #[(.string s : Value), .int .i64 k, .bool f] 31)).alloc (.cells #[(.int .i64 u : Value), .int .i64 d, .int .i64 t] 51)).cell? ⟨w.heap.size, 0, none⟩ = some ((.string s : Value)) := (by rw [cell_of_row _ _ 0 _ _ _ (heap_alloc2_old _ _ _)]; rfl)
        have bx1 : ((w.alloc (.cells #[(.string s : Value), .int .i64 k, .bool f] 31)).alloc (.cells #[(.int .i64 u : Value), .int .i64 d, .int .i64 t] 51)).cell? ⟨w.heap.size, 1, none⟩ = some (.int .i64 k) := (by rw [cell_of_row _ _ 1 _ _ _ (heap_alloc2_old _ _ _)]; rfl)
        have bx2 : ((w.alloc (.cells #[(.string s : Value), .int .i64 k, .bool f] 31)).alloc (.cells #[(.int .i64 u : Value), .int .i64 d, .int .i64 t] 51)).cell? ⟨w.heap.size, 2, none⟩ = some (.bool f) := (by rw [cell_of_row _ _ 2 _ _ _ (heap_alloc2_old _ _ _)]; rfl)
        have by0 : ((w.alloc (.cells #[(.string s : Value), .int .i64 k, .bool f] 31)).alloc (.cells #[(.int .i64 u : Value), .int .i64 d, .int .i64 t] 51)).cell? ⟨w.heap.size + 1, 0, none⟩ = some ((.int .i64 u : Value)) := (by rw [cell_of_row _ _ 0 _ _ _ (heap_alloc2_new _ _ _)]; rfl)
        have by1 : ((w.alloc (.cells #[(.string s : Value), .int .i64 k, .bool f] 31)).alloc (.cells #[(.int .i64 u : Value), .int .i64 d, .int .i64 t] 51)).cell? ⟨w.heap.size + 1, 1, none⟩ = some (.int .i64 d) := (by rw [cell_of_row _ _ 1 _ _ _ (heap_alloc2_new _ _ _)]; rfl)
        have by2 : ((w.alloc (.cells #[(.string s : Value), .int .i64 k, .bool f] 31)).alloc (.cells #[(.int .i64 u : Value), .int .i64 d, .int .i64 t] 51)).cell? ⟨w.heap.size + 1, 2, none⟩ = some (.int .i64 t) := (by rw [cell_of_row _ _ 2 _ _ _ (heap_alloc2_new _ _ _)]; rfl)
        have hbz : Below w.heap.size w ((w.alloc (.cells #[(.string s : Value), .int .i64 k, .bool f] 31)).alloc (.cells #[(.int .i64 u : Value), .int .i64 d, .int .i64 t] 51)) := ((Below.refl _ _).alloc (Nat.le_refl _) _).alloc (by simp) _
        have hzz : w.heap.size + 1 < ((w.alloc (.cells #[(.string s : Value), .int .i64 k, .bool f] 31)).alloc (.cells #[(.int .i64 u : Value), .int .i64 d, .int .i64 t] 51)).heap.size := (by simp)
        have hzeq := Lib.hid (show ((w.alloc (.cells #[(.string s : Value), .int .i64 k, .bool f] 31)).alloc (.cells #[(.int .i64 u : Value), .int .i64 d, .int .i64 t] 51)).heap.size = w.heap.size + 2 by simp)
        generalize ((w.alloc (.cells #[(.string s : Value), .int .i64 k, .bool f] 31)).alloc (.cells #[(.int .i64 u : Value), .int .i64 d, .int .i64 t] 51)) = wz at *
        have cx0 := cell_regrown bx0
        have cx1 := cell_regrown bx1
        have cx2 := cell_regrown bx2
        have cy0 := cell_regrown by0
        have cy1 := cell_regrown by1
        have cy2 := cell_regrown by2
        refine wp_region_quiet_below (by kernel_rfl) (by kernel_rfl) ?_
        repeat (go_big_quiet_step (first | (go_at_call 38; exact Calls.regrown_of (spec_patternOk _ _ _ _ (by omega))) | (go_at_call 141; exact Calls.regrown_of (spec_l4Full _ _ _ _ hs1)) | (go_at_call 129; exact Calls.regrown_of (spec_l1In_b _ _ _ _))))
        refine wpQuiet_nil ?_
        intro _ hw'
        obtain ⟨⟨dq, osq⟩, hw''⟩ := hw'
        subst hw''
        go_wp2
        go_ret
        exact ⟨by rw [HR.out]; rfl, hbz.trans ((below_regrown wz dq osq).mono hbz.size)⟩
      · by_cases hT2 : bits .and .i64 u d = 0
        · have t2 : (bits .and .i64 u d != 0) = false := by rw [hT2]; rfl
          have HR := Lib.hid (show myOkB s k u d t = (stepsB (colL u d s.size) (s.size + 1) && decide (colF u d s.size = t)) by unfold myOkB; rw [hp, hiu, hid, hT2]; simp)
          have p2 := pow_small s.size hs1
          have hu2 : 0 ≤ u ∧ u ≤ 1048576 := by have : 0 ≤ u ∧ u ≤ 2 ^ s.size - 1 := by simpa [inB] using hiu
                                               omega
          have hd2 : 0 ≤ d ∧ d ≤ 1048576 := by have : 0 ≤ d ∧ d ≤ 2 ^ s.size - 1 := by simpa [inB] using hid
                                               omega
          have HU := Lib.hid hu2; have HD := Lib.hid hd2
          clear hT2 hu2 hd2 p2
          go_enter Try.func51, Try.ntmps51
          go_wp2_with fail
          have bx0 : ((w.alloc (.cells #[(.string s : Value), .int .i64 k, .bool f] 31)).alloc (.cells #[(.int .i64 u : Value), .int .i64 d, .int .i64 t] 51)).cell? ⟨w.heap.size, 0, none⟩ = some ((.string s : Value)) := (by rw [cell_of_row _ _ 0 _ _ _ (heap_alloc2_old _ _ _)]; rfl)
          have bx1 : ((w.alloc (.cells #[(.string s : Value), .int .i64 k, .bool f] 31)).alloc (.cells #[(.int .i64 u : Value), .int .i64 d, .int .i64 t] 51)).cell? ⟨w.heap.size, 1, none⟩ = some (.int .i64 k) := (by rw [cell_of_row _ _ 1 _ _ _ (heap_alloc2_old _ _ _)]; rfl)
          have bx2 : ((w.alloc (.cells #[(.string s : Value), .int .i64 k, .bool f] 31)).alloc (.cells #[(.int .i64 u : Value), .int .i64 d, .int .i64 t] 51)).cell? ⟨w.heap.size, 2, none⟩ = some (.bool f) := (by rw [cell_of_row _ _ 2 _ _ _ (heap_alloc2_old _ _ _)]; rfl)
          have by0 : ((w.alloc (.cells #[(.string s : Value), .int .i64 k, .bool f] 31)).alloc (.cells #[(.int .i64 u : Value), .int .i64 d, .int .i64 t] 51)).cell? ⟨w.heap.size + 1, 0, none⟩ = some ((.int .i64 u : Value)) := (by rw [cell_of_row _ _ 0 _ _ _ (heap_alloc2_new _ _ _)]; rfl)
          have by1 : ((w.alloc (.cells #[(.string s : Value), .int .i64 k, .bool f] 31)).alloc (.cells #[(.int .i64 u : Value), .int .i64 d, .int .i64 t] 51)).cell? ⟨w.heap.size + 1, 1, none⟩ = some (.int .i64 d) := (by rw [cell_of_row _ _ 1 _ _ _ (heap_alloc2_new _ _ _)]; rfl)
          have by2 : ((w.alloc (.cells #[(.string s : Value), .int .i64 k, .bool f] 31)).alloc (.cells #[(.int .i64 u : Value), .int .i64 d, .int .i64 t] 51)).cell? ⟨w.heap.size + 1, 2, none⟩ = some (.int .i64 t) := (by rw [cell_of_row _ _ 2 _ _ _ (heap_alloc2_new _ _ _)]; rfl)
          have hbz : Below w.heap.size w ((w.alloc (.cells #[(.string s : Value), .int .i64 k, .bool f] 31)).alloc (.cells #[(.int .i64 u : Value), .int .i64 d, .int .i64 t] 51)) := ((Below.refl _ _).alloc (Nat.le_refl _) _).alloc (by simp) _
          have hzz : w.heap.size + 1 < ((w.alloc (.cells #[(.string s : Value), .int .i64 k, .bool f] 31)).alloc (.cells #[(.int .i64 u : Value), .int .i64 d, .int .i64 t] 51)).heap.size := (by simp)
          have hzeq := Lib.hid (show ((w.alloc (.cells #[(.string s : Value), .int .i64 k, .bool f] 31)).alloc (.cells #[(.int .i64 u : Value), .int .i64 d, .int .i64 t] 51)).heap.size = w.heap.size + 2 by simp)
          generalize ((w.alloc (.cells #[(.string s : Value), .int .i64 k, .bool f] 31)).alloc (.cells #[(.int .i64 u : Value), .int .i64 d, .int .i64 t] 51)) = wz at *
          have cx0 := cell_regrown bx0
          have cx1 := cell_regrown bx1
          have cx2 := cell_regrown bx2
          have cy0 := cell_regrown by0
          have cy1 := cell_regrown by1
          have cy2 := cell_regrown by2
          refine wp_region_quiet_below (by kernel_rfl) (by kernel_rfl) ?_
          repeat (go_big_quiet_step (first | (go_at_call 38; exact Calls.regrown_of (spec_patternOk _ _ _ _ (by omega))) | (go_at_call 141; exact Calls.regrown_of (spec_l4Full _ _ _ _ hs1)) | (go_at_call 129; exact Calls.regrown_of (spec_l1In_b _ _ _ _))))
          refine wpQuiet_nil ?_
          intro _ hw'
          obtain ⟨⟨dq, osq⟩, hw''⟩ := hw'
          subst hw''
          clear hp t2 hiu hid
          go_wp2_with fail
          refine (spec_l4Col s k f u d t _ hs1 HU.out HD.out).mono ?_
          rintro e w3 ⟨a, cap, rfl, hO, hb3⟩
          have hX := below_regrown wz dq osq
          have hz1 : w.heap.size + 1 < (Sort.grow (redrawn wz dq) osq).heap.size := by have := hX.size; omega
          have hz0 : w.heap.size < (Sort.grow (redrawn wz dq) osq).heap.size := by omega
          have dx0 := (hb3.cell (p := ⟨w.heap.size, 0, none⟩) hz0).trans (cx0 dq osq)
          have dx1 := (hb3.cell (p := ⟨w.heap.size, 1, none⟩) hz0).trans (cx1 dq osq)
          have dx2 := (hb3.cell (p := ⟨w.heap.size, 2, none⟩) hz0).trans (cx2 dq osq)
          have dy2 := (hb3.cell (p := ⟨w.heap.size + 1, 2, none⟩) hz1).trans (cy2 dq osq)
          have hB3 := (hbz.trans (hX.mono hbz.size)).trans (hb3.mono (hbz.trans (hX.mono hbz.size)).size)
          clear cx0 cx1 cx2 cy0 cy1 cy2 bx0 bx1 bx2 by0 by1 by2 hb3 hX
          obtain ⟨g, rfl, hg1, hg2⟩ := hO.head 0 (by omega)
          have dc := hO.cell s.size (by omega)
          rw [intAt_tab _ _ _ (by omega)] at dc
          have e0 := cell_regrown dx0
          have e1 := cell_regrown dx1
          have e2 := cell_regrown dx2
          have e3 := cell_regrown dy2
          have e4 := cell_regrown dc
          have hI := hO.ints
          have hl : (tab (colF u d) (s.size + 1)).length = s.size + 1 := tab_length _ _
          have HL := Lib.hid hl
          have i1 : s.size < s.size + 1 := by omega
          have i2 : (s.size : Int) < (s.size : Int) + 1 := by omega
          have hcl : colL u d s.size = tab (colF u d) (s.size + 1) := rfl
          rw [hcl] at HR
          have hwf : ∀ i, i < s.size + 1 → -9223372036854775808 ≤ intAt (tab (colF u d) (s.size + 1)) i ∧ intAt (tab (colF u d) (s.size + 1)) i ≤ 9223372036854775807 := by
            intro i hi; rw [intAt_tab _ _ _ hi]; have := colF_bnd u d i; omega
          have HW := Lib.hid hwf
          have HC := Lib.hid (colOkB_tab (n := s.size) (f := colF u d) HP.out)
          clear hl dx0 dx1 dx2 dy2 dc hO hcl hwf
          cases hst : stepsB (tab (colF u d) (s.size + 1)) (s.size + 1)
          · have HR2 := Lib.hid (show myOkB s k u d t = false by rw [HR.out, hst]; rfl)
            have HST := Lib.hid hst; clear hst
            go_wp2_with fail
            refine wp_region_quiet_below (by kernel_rfl) (by kernel_rfl) ?_
            repeat (go_big_quiet_step (first | (go_at_call 35; exact Calls.regrown_of (v := .bool false) ((spec_colOk s k f (tab (colF u d) (s.size + 1)) _ _ _ _ hs HL.out (hI.kept (below_regrown w3 _ _)) (by omega) HW.out).mono fun e w' h => ⟨by rw [h.1, HC.out, HST.out], h.2⟩))))
            refine wpQuiet_nil ?_
            intro _ hw'
            obtain ⟨⟨dq, osq⟩, hw''⟩ := hw'
            subst hw''
            go_wp2
            go_ret
            exact ⟨by rw [HR2.out]; rfl, hB3.trans ((below_regrown w3 dq osq).mono hB3.size)⟩
          · have HST := Lib.hid hst; clear hst
            by_cases ht : colF u d s.size = t
            · have b1 : (colF u d s.size == t) = true := by simp [ht]
              have HR2 := Lib.hid (show myOkB s k u d t = true by rw [HR.out, HST.out]; simp [ht])
              clear ht
              go_wp2_with fail
              refine wp_region_quiet_below (by kernel_rfl) (by kernel_rfl) ?_
              repeat (go_big_quiet_step (first | (go_at_call 35; exact Calls.regrown_of (v := .bool true) ((spec_colOk s k f (tab (colF u d) (s.size + 1)) _ _ _ _ hs HL.out (hI.kept (below_regrown w3 _ _)) (by omega) HW.out).mono fun e w' h => ⟨by rw [h.1, HC.out, HST.out], h.2⟩))))
              refine wpQuiet_nil ?_
              intro _ hw'
              obtain ⟨⟨dq, osq⟩, hw''⟩ := hw'
              subst hw''
              go_wp2
              go_ret
              exact ⟨by rw [HR2.out]; rfl, hB3.trans ((below_regrown w3 dq osq).mono hB3.size)⟩
            · have b1 : (colF u d s.size == t) = false := by simp [ht]
              have HR2 := Lib.hid (show myOkB s k u d t = false by rw [HR.out, HST.out]; simp [ht])
              clear ht
              go_wp2_with fail
              refine wp_region_quiet_below (by kernel_rfl) (by kernel_rfl) ?_
              repeat (go_big_quiet_step (first | (go_at_call 35; exact Calls.regrown_of (v := .bool true) ((spec_colOk s k f (tab (colF u d) (s.size + 1)) _ _ _ _ hs HL.out (hI.kept (below_regrown w3 _ _)) (by omega) HW.out).mono fun e w' h => ⟨by rw [h.1, HC.out, HST.out], h.2⟩))))
              refine wpQuiet_nil ?_
              intro _ hw'
              obtain ⟨⟨dq, osq⟩, hw''⟩ := hw'
              subst hw''
              go_wp2
              go_ret
              exact ⟨by rw [HR2.out]; rfl, hB3.trans ((below_regrown w3 dq osq).mono hB3.size)⟩
        · have t2 : (bits .and .i64 u d != 0) = true := bne_iff_ne.2 hT2
          have HR := Lib.hid (show myOkB s k u d t = false by unfold myOkB; simp [hT2])
          clear hT2
          go_enter Try.func51, Try.ntmps51
          go_wp2_with fail
          have bx0 : ((w.alloc (.cells #[(.string s : Value), .int .i64 k, .bool f] 31)).alloc (.cells #[(.int .i64 u : Value), .int .i64 d, .int .i64 t] 51)).cell? ⟨w.heap.size, 0, none⟩ = some ((.string s : Value)) := (by rw [cell_of_row _ _ 0 _ _ _ (heap_alloc2_old _ _ _)]; rfl)
          have bx1 : ((w.alloc (.cells #[(.string s : Value), .int .i64 k, .bool f] 31)).alloc (.cells #[(.int .i64 u : Value), .int .i64 d, .int .i64 t] 51)).cell? ⟨w.heap.size, 1, none⟩ = some (.int .i64 k) := (by rw [cell_of_row _ _ 1 _ _ _ (heap_alloc2_old _ _ _)]; rfl)
          have bx2 : ((w.alloc (.cells #[(.string s : Value), .int .i64 k, .bool f] 31)).alloc (.cells #[(.int .i64 u : Value), .int .i64 d, .int .i64 t] 51)).cell? ⟨w.heap.size, 2, none⟩ = some (.bool f) := (by rw [cell_of_row _ _ 2 _ _ _ (heap_alloc2_old _ _ _)]; rfl)
          have by0 : ((w.alloc (.cells #[(.string s : Value), .int .i64 k, .bool f] 31)).alloc (.cells #[(.int .i64 u : Value), .int .i64 d, .int .i64 t] 51)).cell? ⟨w.heap.size + 1, 0, none⟩ = some ((.int .i64 u : Value)) := (by rw [cell_of_row _ _ 0 _ _ _ (heap_alloc2_new _ _ _)]; rfl)
          have by1 : ((w.alloc (.cells #[(.string s : Value), .int .i64 k, .bool f] 31)).alloc (.cells #[(.int .i64 u : Value), .int .i64 d, .int .i64 t] 51)).cell? ⟨w.heap.size + 1, 1, none⟩ = some (.int .i64 d) := (by rw [cell_of_row _ _ 1 _ _ _ (heap_alloc2_new _ _ _)]; rfl)
          have by2 : ((w.alloc (.cells #[(.string s : Value), .int .i64 k, .bool f] 31)).alloc (.cells #[(.int .i64 u : Value), .int .i64 d, .int .i64 t] 51)).cell? ⟨w.heap.size + 1, 2, none⟩ = some (.int .i64 t) := (by rw [cell_of_row _ _ 2 _ _ _ (heap_alloc2_new _ _ _)]; rfl)
          have hbz : Below w.heap.size w ((w.alloc (.cells #[(.string s : Value), .int .i64 k, .bool f] 31)).alloc (.cells #[(.int .i64 u : Value), .int .i64 d, .int .i64 t] 51)) := ((Below.refl _ _).alloc (Nat.le_refl _) _).alloc (by simp) _
          have hzz : w.heap.size + 1 < ((w.alloc (.cells #[(.string s : Value), .int .i64 k, .bool f] 31)).alloc (.cells #[(.int .i64 u : Value), .int .i64 d, .int .i64 t] 51)).heap.size := (by simp)
          have hzeq := Lib.hid (show ((w.alloc (.cells #[(.string s : Value), .int .i64 k, .bool f] 31)).alloc (.cells #[(.int .i64 u : Value), .int .i64 d, .int .i64 t] 51)).heap.size = w.heap.size + 2 by simp)
          generalize ((w.alloc (.cells #[(.string s : Value), .int .i64 k, .bool f] 31)).alloc (.cells #[(.int .i64 u : Value), .int .i64 d, .int .i64 t] 51)) = wz at *
          have cx0 := cell_regrown bx0
          have cx1 := cell_regrown bx1
          have cx2 := cell_regrown bx2
          have cy0 := cell_regrown by0
          have cy1 := cell_regrown by1
          have cy2 := cell_regrown by2
          refine wp_region_quiet_below (by kernel_rfl) (by kernel_rfl) ?_
          repeat (go_big_quiet_step (first | (go_at_call 38; exact Calls.regrown_of (spec_patternOk _ _ _ _ (by omega))) | (go_at_call 141; exact Calls.regrown_of (spec_l4Full _ _ _ _ hs1)) | (go_at_call 129; exact Calls.regrown_of (spec_l1In_b _ _ _ _))))
          refine wpQuiet_nil ?_
          intro _ hw'
          obtain ⟨⟨dq, osq⟩, hw''⟩ := hw'
          subst hw''
          go_wp2
          go_ret
          exact ⟨by rw [HR.out]; rfl, hbz.trans ((below_regrown wz dq osq).mono hbz.size)⟩
end Go.Proofs.Ytgocfpdodbhcaaa

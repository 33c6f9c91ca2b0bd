/-
  Chapter 4: contracts of MyersOk, in the program.
-/
import Derived.Test.YtglldmfhjipacaaL4Col
namespace Go.Proofs.Ytglldmfhjipacaa
open Go.RowKit
set_option linter.unusedVariables false
set_option maxRecDepth 100000
def colL (u d : Int) (n : Nat) : List Int := tab (colF u d) (n + 1)
def myOkB (s : ByteArray) (k : Int) (u d t : Int) : Bool :=
  patOk s k && (inB u 0 (2 ^ s.size - 1) && inB d 0 (2 ^ s.size - 1) && decide (bits .and .i64 u d = 0)) && (stepsB (colL u d s.size) (s.size + 1) && decide (colF u d s.size = t))
theorem or_within {u d : Int} {n : Nat} (hu : I64 u) (hd : I64 d) (hn : n ≤ 62) : bits .andNot .i64 (bits .or .i64 u d) (2 ^ n - 1) = 0 ↔ inB u 0 (2 ^ n - 1) = true ∧ inB d 0 (2 ^ n - 1) = true := by
  have hi : ∀ x : Int, inB x 0 (2 ^ n - 1) = true ↔ (0 ≤ x ∧ x ≤ 2 ^ n - 1) := fun x => by simp [inB]
  rw [hi, hi, ← andNot_low hu hn, ← andNot_low hd hn, andNot_zero_iff, andNot_zero_iff, andNot_zero_iff]
  constructor
  · intro h
    refine ⟨fun i h1 h2 => h i h1 ?_, fun i h1 h2 => h i h1 ?_⟩
    · rw [bv_or, BitVec.getLsbD_or, h2]; rfl
    · rw [bv_or, BitVec.getLsbD_or, h2, Bool.or_true]
  · rintro ⟨h1, h2⟩ i hi hb
    rw [bv_or, BitVec.getLsbD_or, Bool.or_eq_true] at hb
    rcases hb with hb | hb
    · exact h1 i hi hb
    · exact h2 i hi hb
theorem impl_lowBits_b (n : Nat) (w : World) (hn : n ≤ 20) :
    Calls Try.prog 95 #[.int .i64 n] w fun e w' => e = .returned (.int .i64 (2 ^ n - 1)) ∧ Below w.heap.size w w' :=
  (impl_lowBits n w hn).mono fun _ _ ⟨h1, h2⟩ => ⟨h1, by rw [← h2]; exact Below.refl _ _⟩
set_option maxHeartbeats 4000000 in
theorem impl_myersRight (s : ByteArray) (k : Int) (f : Bool) (u d t : Int) (w : World) (hs : s.size ≤ 1048576) (hu : I64 u) (hd : I64 d) :
    Calls Try.prog 152 #[.agg #[.int .i64 u, .int .i64 d, .int .i64 t], .agg #[.string s, .int .i64 k, .bool f]] w fun e w' => e = .returned (.bool (myOkB s k u d t)) ∧ Below w.heap.size w w' := by
  cases hp : patOk s k
  · have HR := Lib.hid (show myOkB s k u d t = false by unfold myOkB; rw [hp]; rfl)
    have HP := Lib.hid hp
    go_enter Try.func152, Try.ntmps152
    go_wp2_with fail
    have bx0 : ((w.alloc (.cells #[(.int .i64 u : Value), .int .i64 d, .int .i64 t] 146)).alloc (.cells #[(.string s : Value), .int .i64 k, .bool f] 48)).cell? ⟨w.heap.size, 0, none⟩ = some ((.int .i64 u : Value)) := (by rw [cell_of_row _ _ 0 _ _ _ (heap_alloc2_old _ _ _)]; rfl)
    have bx1 : ((w.alloc (.cells #[(.int .i64 u : Value), .int .i64 d, .int .i64 t] 146)).alloc (.cells #[(.string s : Value), .int .i64 k, .bool f] 48)).cell? ⟨w.heap.size, 1, none⟩ = some (.int .i64 d) := (by rw [cell_of_row _ _ 1 _ _ _ (heap_alloc2_old _ _ _)]; rfl)
    have bx2 : ((w.alloc (.cells #[(.int .i64 u : Value), .int .i64 d, .int .i64 t] 146)).alloc (.cells #[(.string s : Value), .int .i64 k, .bool f] 48)).cell? ⟨w.heap.size, 2, none⟩ = some (.int .i64 t) := (by rw [cell_of_row _ _ 2 _ _ _ (heap_alloc2_old _ _ _)]; rfl)
    have by0 : ((w.alloc (.cells #[(.int .i64 u : Value), .int .i64 d, .int .i64 t] 146)).alloc (.cells #[(.string s : Value), .int .i64 k, .bool f] 48)).cell? ⟨w.heap.size + 1, 0, none⟩ = some ((.string s : Value)) := (by rw [cell_of_row _ _ 0 _ _ _ (heap_alloc2_new _ _ _)]; rfl)
    have by1 : ((w.alloc (.cells #[(.int .i64 u : Value), .int .i64 d, .int .i64 t] 146)).alloc (.cells #[(.string s : Value), .int .i64 k, .bool f] 48)).cell? ⟨w.heap.size + 1, 1, none⟩ = some (.int .i64 k) := (by rw [cell_of_row _ _ 1 _ _ _ (heap_alloc2_new _ _ _)]; rfl)
    have by2 : ((w.alloc (.cells #[(.int .i64 u : Value), .int .i64 d, .int .i64 t] 146)).alloc (.cells #[(.string s : Value), .int .i64 k, .bool f] 48)).cell? ⟨w.heap.size + 1, 2, none⟩ = some (.bool f) := (by rw [cell_of_row _ _ 2 _ _ _ (heap_alloc2_new _ _ _)]; rfl)
    have hbz : Below w.heap.size w ((w.alloc (.cells #[(.int .i64 u : Value), .int .i64 d, .int .i64 t] 146)).alloc (.cells #[(.string s : Value), .int .i64 k, .bool f] 48)) := ((Below.refl _ _).alloc (Nat.le_refl _) _).alloc (by simp) _
    have hzz : w.heap.size + 1 < ((w.alloc (.cells #[(.int .i64 u : Value), .int .i64 d, .int .i64 t] 146)).alloc (.cells #[(.string s : Value), .int .i64 k, .bool f] 48)).heap.size := (by simp)
    have hzeq := Lib.hid (show ((w.alloc (.cells #[(.int .i64 u : Value), .int .i64 d, .int .i64 t] 146)).alloc (.cells #[(.string s : Value), .int .i64 k, .bool f] 48)).heap.size = w.heap.size + 2 by simp)
    generalize ((w.alloc (.cells #[(.int .i64 u : Value), .int .i64 d, .int .i64 t] 146)).alloc (.cells #[(.string s : Value), .int .i64 k, .bool f] 48)) = wz at *
    have cx0 := cell_regrown bx0
    have cx1 := cell_regrown bx1
    have cx2 := cell_regrown bx2
    have cy0 := cell_regrown by0
    have cy1 := cell_regrown by1
    have cy2 := cell_regrown by2
    refine wp_region_quiet_below (by kernel_rfl) (by kernel_rfl) ?_
    repeat (go_big_quiet_step (first | (go_at_call 85; exact Calls.regrown_of (impl_patternOk _ _ _ _ (by omega)))))
    refine wpQuiet_nil ?_
    intro _ hw'
    obtain ⟨⟨dq, osq⟩, hw''⟩ := hw'
    subst hw''
    go_wp2
    go_ret
    exact ⟨by rw [HR.out]; rfl, hbz.trans ((below_regrown wz dq osq).mono hbz.size)⟩
  · obtain ⟨hs0, hs1, hk0, hk1⟩ := (patOk_iff s k).1 hp
    have HP := Lib.hid hp
    have hW := or_within (n := s.size) hu hd (by omega)
    by_cases hT1 : bits .andNot .i64 (bits .or .i64 u d) (2 ^ s.size - 1) = 0
    · obtain ⟨hiu, hid⟩ := hW.1 hT1
      have t1 : (bits .andNot .i64 (bits .or .i64 u d) (2 ^ s.size - 1) != 0) = false := by rw [hT1]; rfl
      by_cases hT2 : bits .and .i64 u d = 0
      · have t2 : (bits .and .i64 u d != 0) = false := by rw [hT2]; rfl
        have HR := Lib.hid (show myOkB s k u d t = (stepsB (colL u d s.size) (s.size + 1) && decide (colF u d s.size = t)) by unfold myOkB; rw [hp, hiu, hid, hT2]; simp)
        have p2 := pow_small s.size hs1
        have hu2 : 0 ≤ u ∧ u ≤ 1048576 := by have : 0 ≤ u ∧ u ≤ 2 ^ s.size - 1 := by simpa [inB] using hiu
                                             omega
        have hd2 : 0 ≤ d ∧ d ≤ 1048576 := by have : 0 ≤ d ∧ d ≤ 2 ^ s.size - 1 := by simpa [inB] using hid
                                             omega
        have HU := Lib.hid hu2; have HD := Lib.hid hd2
        clear hW hT1 hT2 hiu hid hu2 hd2 p2
        go_enter Try.func152, Try.ntmps152
        go_wp2_with fail
        have bx0 : ((w.alloc (.cells #[(.int .i64 u : Value), .int .i64 d, .int .i64 t] 146)).alloc (.cells #[(.string s : Value), .int .i64 k, .bool f] 48)).cell? ⟨w.heap.size, 0, none⟩ = some ((.int .i64 u : Value)) := (by rw [cell_of_row _ _ 0 _ _ _ (heap_alloc2_old _ _ _)]; rfl)
        have bx1 : ((w.alloc (.cells #[(.int .i64 u : Value), .int .i64 d, .int .i64 t] 146)).alloc (.cells #[(.string s : Value), .int .i64 k, .bool f] 48)).cell? ⟨w.heap.size, 1, none⟩ = some (.int .i64 d) := (by rw [cell_of_row _ _ 1 _ _ _ (heap_alloc2_old _ _ _)]; rfl)
        have bx2 : ((w.alloc (.cells #[(.int .i64 u : Value), .int .i64 d, .int .i64 t] 146)).alloc (.cells #[(.string s : Value), .int .i64 k, .bool f] 48)).cell? ⟨w.heap.size, 2, none⟩ = some (.int .i64 t) := (by rw [cell_of_row _ _ 2 _ _ _ (heap_alloc2_old _ _ _)]; rfl)
        have by0 : ((w.alloc (.cells #[(.int .i64 u : Value), .int .i64 d, .int .i64 t] 146)).alloc (.cells #[(.string s : Value), .int .i64 k, .bool f] 48)).cell? ⟨w.heap.size + 1, 0, none⟩ = some ((.string s : Value)) := (by rw [cell_of_row _ _ 0 _ _ _ (heap_alloc2_new _ _ _)]; rfl)
        have by1 : ((w.alloc (.cells #[(.int .i64 u : Value), .int .i64 d, .int .i64 t] 146)).alloc (.cells #[(.string s : Value), .int .i64 k, .bool f] 48)).cell? ⟨w.heap.size + 1, 1, none⟩ = some (.int .i64 k) := (by rw [cell_of_row _ _ 1 _ _ _ (heap_alloc2_new _ _ _)]; rfl)
        have by2 : ((w.alloc (.cells #[(.int .i64 u : Value), .int .i64 d, .int .i64 t] 146)).alloc (.cells #[(.string s : Value), .int .i64 k, .bool f] 48)).cell? ⟨w.heap.size + 1, 2, none⟩ = some (.bool f) := (by rw [cell_of_row _ _ 2 _ _ _ (heap_alloc2_new _ _ _)]; rfl)
        have hbz : Below w.heap.size w ((w.alloc (.cells #[(.int .i64 u : Value), .int .i64 d, .int .i64 t] 146)).alloc (.cells #[(.string s : Value), .int .i64 k, .bool f] 48)) := ((Below.refl _ _).alloc (Nat.le_refl _) _).alloc (by simp) _
        have hzz : w.heap.size + 1 < ((w.alloc (.cells #[(.int .i64 u : Value), .int .i64 d, .int .i64 t] 146)).alloc (.cells #[(.string s : Value), .int .i64 k, .bool f] 48)).heap.size := (by simp)
        have hzeq := Lib.hid (show ((w.alloc (.cells #[(.int .i64 u : Value), .int .i64 d, .int .i64 t] 146)).alloc (.cells #[(.string s : Value), .int .i64 k, .bool f] 48)).heap.size = w.heap.size + 2 by simp)
        generalize ((w.alloc (.cells #[(.int .i64 u : Value), .int .i64 d, .int .i64 t] 146)).alloc (.cells #[(.string s : Value), .int .i64 k, .bool f] 48)) = wz at *
        have cx0 := cell_regrown bx0
        have cx1 := cell_regrown bx1
        have cx2 := cell_regrown bx2
        have cy0 := cell_regrown by0
        have cy1 := cell_regrown by1
        have cy2 := cell_regrown by2
        refine wp_region_quiet_below (by kernel_rfl) (by kernel_rfl) ?_
        repeat (go_big_quiet_step (first | (go_at_call 85; exact Calls.regrown_of (impl_patternOk _ _ _ _ (by omega))) | (go_at_call 95; exact Calls.regrown_of (impl_lowBits_b _ _ hs1))))
        refine wpQuiet_nil ?_
        intro _ hw'
        obtain ⟨⟨dq, osq⟩, hw''⟩ := hw'
        subst hw''
        clear hp t1 t2 HP
        go_wp2_with fail
        refine (impl_columnOf_myers s k f u d t _ hs1 HU.out HD.out).mono ?_
        rintro e w3 ⟨a, cap, rfl, hO, hb3⟩
        have hX := below_regrown wz dq osq
        have hz1 : w.heap.size + 1 < (Sort.grow (redrawn wz dq) osq).heap.size := by have := hX.size; omega
        have dy0 := (hb3.cell (p := ⟨w.heap.size + 1, 0, none⟩) hz1).trans (cy0 dq osq)
        have dx2 := (hb3.cell (p := ⟨w.heap.size, 2, none⟩) (by show w.heap.size < _; omega)).trans (cx2 dq osq)
        have hB3 := (hbz.trans (hX.mono hbz.size)).trans (hb3.mono (hbz.trans (hX.mono hbz.size)).size)
        clear cx0 cx1 cx2 cy0 cy1 cy2 bx0 bx1 bx2 by0 by1 by2 hb3 hX
        obtain ⟨g, rfl, hg1, hg2⟩ := hO.head 0 (by omega)
        have dc := hO.cell s.size (by omega)
        rw [intAt_tab _ _ _ (by omega)] at dc
        have e0 := cell_regrown dy0
        have e1 := cell_regrown dx2
        have e2 := cell_regrown dc
        have hI := hO.ints
        have hl : (tab (colF u d) (s.size + 1)).length = s.size + 1 := tab_length _ _
        have HL := Lib.hid hl
        have i1 : s.size < s.size + 1 := by omega
        have i2 : (s.size : Int) < (s.size : Int) + 1 := by omega
        have hcl : colL u d s.size = tab (colF u d) (s.size + 1) := rfl
        rw [hcl] at HR
        clear hl dy0 dx2 dc hO hcl
        cases hst : stepsB (tab (colF u d) (s.size + 1)) (s.size + 1)
        · have HR2 := Lib.hid (show myOkB s k u d t = false by rw [HR.out, hst]; rfl)
          have HST := Lib.hid hst; clear hst
          go_wp2_with fail
          refine wp_region_quiet_below (by kernel_rfl) (by kernel_rfl) ?_
          repeat (go_big_quiet_step (first | (go_at_call 123; exact Calls.regrown_of (v := .bool false) ((impl_stepsOk (tab (colF u d) (s.size + 1)) _ _ _ _ HL.out (hI.kept (below_regrown w3 _ _)) (by omega)).mono fun e w' h => ⟨by rw [h.1, HST.out], h.2⟩))))
          refine wpQuiet_nil ?_
          intro _ hw'
          obtain ⟨⟨dq, osq⟩, hw''⟩ := hw'
          subst hw''
          go_wp2
          go_ret
          exact ⟨by rw [HR2.out]; rfl, hB3.trans ((below_regrown w3 dq osq).mono hB3.size)⟩
        · have HST := Lib.hid hst; clear hst
          by_cases ht : colF u d s.size = t
          · have b1 : (colF u d s.size == t) = true := by simp [ht]
            have HR2 := Lib.hid (show myOkB s k u d t = true by rw [HR.out, HST.out]; simp [ht])
            clear ht
            go_wp2_with fail
            refine wp_region_quiet_below (by kernel_rfl) (by kernel_rfl) ?_
            repeat (go_big_quiet_step (first | (go_at_call 123; exact Calls.regrown_of (v := .bool true) ((impl_stepsOk (tab (colF u d) (s.size + 1)) _ _ _ _ HL.out (hI.kept (below_regrown w3 _ _)) (by omega)).mono fun e w' h => ⟨by rw [h.1, HST.out], h.2⟩))))
            refine wpQuiet_nil ?_
            intro _ hw'
            obtain ⟨⟨dq, osq⟩, hw''⟩ := hw'
            subst hw''
            go_wp2
            go_ret
            exact ⟨by rw [HR2.out]; rfl, hB3.trans ((below_regrown w3 dq osq).mono hB3.size)⟩
          · have b1 : (colF u d s.size == t) = false := by simp [ht]
            have HR2 := Lib.hid (show myOkB s k u d t = false by rw [HR.out, HST.out]; simp [ht])
            clear ht
            go_wp2_with fail
            refine wp_region_quiet_below (by kernel_rfl) (by kernel_rfl) ?_
            repeat (go_big_quiet_step (first | (go_at_call 123; exact Calls.regrown_of (v := .bool true) ((impl_stepsOk (tab (colF u d) (s.size + 1)) _ _ _ _ HL.out (hI.kept (below_regrown w3 _ _)) (by omega)).mono fun e w' h => ⟨by rw [h.1, HST.out], h.2⟩))))
            refine wpQuiet_nil ?_
            intro _ hw'
            obtain ⟨⟨dq, osq⟩, hw''⟩ := hw'
            subst hw''
            go_wp2
            go_ret
            exact ⟨by rw [HR2.out]; rfl, hB3.trans ((below_regrown w3 dq osq).mono hB3.size)⟩
      · have t2 : (bits .and .i64 u d != 0) = true := bne_iff_ne.2 hT2
        have HR := Lib.hid (show myOkB s k u d t = false by unfold myOkB; simp [hT2])
        clear hW hT1 hT2 hiu hid
        go_enter Try.func152, Try.ntmps152
        go_wp2_with fail
        have bx0 : ((w.alloc (.cells #[(.int .i64 u : Value), .int .i64 d, .int .i64 t] 146)).alloc (.cells #[(.string s : Value), .int .i64 k, .bool f] 48)).cell? ⟨w.heap.size, 0, none⟩ = some ((.int .i64 u : Value)) := (by rw [cell_of_row _ _ 0 _ _ _ (heap_alloc2_old _ _ _)]; rfl)
        have bx1 : ((w.alloc (.cells #[(.int .i64 u : Value), .int .i64 d, .int .i64 t] 146)).alloc (.cells #[(.string s : Value), .int .i64 k, .bool f] 48)).cell? ⟨w.heap.size, 1, none⟩ = some (.int .i64 d) := (by rw [cell_of_row _ _ 1 _ _ _ (heap_alloc2_old _ _ _)]; rfl)
        have bx2 : ((w.alloc (.cells #[(.int .i64 u : Value), .int .i64 d, .int .i64 t] 146)).alloc (.cells #[(.string s : Value), .int .i64 k, .bool f] 48)).cell? ⟨w.heap.size, 2, none⟩ = some (.int .i64 t) := (by rw [cell_of_row _ _ 2 _ _ _ (heap_alloc2_old _ _ _)]; rfl)
        have by0 : ((w.alloc (.cells #[(.int .i64 u : Value), .int .i64 d, .int .i64 t] 146)).alloc (.cells #[(.string s : Value), .int .i64 k, .bool f] 48)).cell? ⟨w.heap.size + 1, 0, none⟩ = some ((.string s : Value)) := (by rw [cell_of_row _ _ 0 _ _ _ (heap_alloc2_new _ _ _)]; rfl)
        have by1 : ((w.alloc (.cells #[(.int .i64 u : Value), .int .i64 d, .int .i64 t] 146)).alloc (.cells #[(.string s : Value), .int .i64 k, .bool f] 48)).cell? ⟨w.heap.size + 1, 1, none⟩ = some (.int .i64 k) := (by rw [cell_of_row _ _ 1 _ _ _ (heap_alloc2_new _ _ _)]; rfl)
        have by2 : ((w.alloc (.cells #[(.int .i64 u : Value), .int .i64 d, .int .i64 t] 146)).alloc (.cells #[(.string s : Value), .int .i64 k, .bool f] 48)).cell? ⟨w.heap.size + 1, 2, none⟩ = some (.bool f) := (by rw [cell_of_row _ _ 2 _ _ _ (heap_alloc2_new _ _ _)]; rfl)
        have hbz : Below w.heap.size w ((w.alloc (.cells #[(.int .i64 u : Value), .int .i64 d, .int .i64 t] 146)).alloc (.cells #[(.string s : Value), .int .i64 k, .bool f] 48)) := ((Below.refl _ _).alloc (Nat.le_refl _) _).alloc (by simp) _
        have hzz : w.heap.size + 1 < ((w.alloc (.cells #[(.int .i64 u : Value), .int .i64 d, .int .i64 t] 146)).alloc (.cells #[(.string s : Value), .int .i64 k, .bool f] 48)).heap.size := (by simp)
        have hzeq := Lib.hid (show ((w.alloc (.cells #[(.int .i64 u : Value), .int .i64 d, .int .i64 t] 146)).alloc (.cells #[(.string s : Value), .int .i64 k, .bool f] 48)).heap.size = w.heap.size + 2 by simp)
        generalize ((w.alloc (.cells #[(.int .i64 u : Value), .int .i64 d, .int .i64 t] 146)).alloc (.cells #[(.string s : Value), .int .i64 k, .bool f] 48)) = wz at *
        have cx0 := cell_regrown bx0
        have cx1 := cell_regrown bx1
        have cx2 := cell_regrown bx2
        have cy0 := cell_regrown by0
        have cy1 := cell_regrown by1
        have cy2 := cell_regrown by2
        refine wp_region_quiet_below (by kernel_rfl) (by kernel_rfl) ?_
        repeat (go_big_quiet_step (first | (go_at_call 85; exact Calls.regrown_of (impl_patternOk _ _ _ _ (by omega))) | (go_at_call 95; exact Calls.regrown_of (impl_lowBits_b _ _ hs1))))
        refine wpQuiet_nil ?_
        intro _ hw'
        obtain ⟨⟨dq, osq⟩, hw''⟩ := hw'
        subst hw''
        go_wp2
        go_ret
        exact ⟨by rw [HR.out]; rfl, hbz.trans ((below_regrown wz dq osq).mono hbz.size)⟩
    · have t1 : (bits .andNot .i64 (bits .or .i64 u d) (2 ^ s.size - 1) != 0) = true := bne_iff_ne.2 hT1
      have HR := Lib.hid (show myOkB s k u d t = false by
        unfold myOkB
        have : (inB u 0 (2 ^ s.size - 1) && inB d 0 (2 ^ s.size - 1)) = false := by
          cases e : (inB u 0 (2 ^ s.size - 1) && inB d 0 (2 ^ s.size - 1))
          · rfl
          · exact absurd (hW.2 (by simpa using e)) hT1
        rw [this]; simp)
      clear hW hT1
      go_enter Try.func152, Try.ntmps152
      go_wp2_with fail
      have bx0 : ((w.alloc (.cells #[(.int .i64 u : Value), .int .i64 d, .int .i64 t] 146)).alloc (.cells #[(.string s : Value), .int .i64 k, .bool f] 48)).cell? ⟨w.heap.size, 0, none⟩ = some ((.int .i64 u : Value)) := (by rw [cell_of_row _ _ 0 _ _ _ (heap_alloc2_old _ _ _)]; rfl)
      have bx1 : ((w.alloc (.cells #[(.int .i64 u : Value), .int .i64 d, .int .i64 t] 146)).alloc (.cells #[(.string s : Value), .int .i64 k, .bool f] 48)).cell? ⟨w.heap.size, 1, none⟩ = some (.int .i64 d) := (by rw [cell_of_row _ _ 1 _ _ _ (heap_alloc2_old _ _ _)]; rfl)
      have bx2 : ((w.alloc (.cells #[(.int .i64 u : Value), .int .i64 d, .int .i64 t] 146)).alloc (.cells #[(.string s : Value), .int .i64 k, .bool f] 48)).cell? ⟨w.heap.size, 2, none⟩ = some (.int .i64 t) := (by rw [cell_of_row _ _ 2 _ _ _ (heap_alloc2_old _ _ _)]; rfl)
      have by0 : ((w.alloc (.cells #[(.int .i64 u : Value), .int .i64 d, .int .i64 t] 146)).alloc (.cells #[(.string s : Value), .int .i64 k, .bool f] 48)).cell? ⟨w.heap.size + 1, 0, none⟩ = some ((.string s : Value)) := (by rw [cell_of_row _ _ 0 _ _ _ (heap_alloc2_new _ _ _)]; rfl)
      have by1 : ((w.alloc (.cells #[(.int .i64 u : Value), .int .i64 d, .int .i64 t] 146)).alloc (.cells #[(.string s : Value), .int .i64 k, .bool f] 48)).cell? ⟨w.heap.size + 1, 1, none⟩ = some (.int .i64 k) := (by rw [cell_of_row _ _ 1 _ _ _ (heap_alloc2_new _ _ _)]; rfl)
      have by2 : ((w.alloc (.cells #[(.int .i64 u : Value), .int .i64 d, .int .i64 t] 146)).alloc (.cells #[(.string s : Value), .int .i64 k, .bool f] 48)).cell? ⟨w.heap.size + 1, 2, none⟩ = some (.bool f) := (by rw [cell_of_row _ _ 2 _ _ _ (heap_alloc2_new _ _ _)]; rfl)
      have hbz : Below w.heap.size w ((w.alloc (.cells #[(.int .i64 u : Value), .int .i64 d, .int .i64 t] 146)).alloc (.cells #[(.string s : Value), .int .i64 k, .bool f] 48)) := ((Below.refl _ _).alloc (Nat.le_refl _) _).alloc (by simp) _
      have hzz : w.heap.size + 1 < ((w.alloc (.cells #[(.int .i64 u : Value), .int .i64 d, .int .i64 t] 146)).alloc (.cells #[(.string s : Value), .int .i64 k, .bool f] 48)).heap.size := (by simp)
      have hzeq := Lib.hid (show ((w.alloc (.cells #[(.int .i64 u : Value), .int .i64 d, .int .i64 t] 146)).alloc (.cells #[(.string s : Value), .int .i64 k, .bool f] 48)).heap.size = w.heap.size + 2 by simp)
      generalize ((w.alloc (.cells #[(.int .i64 u : Value), .int .i64 d, .int .i64 t] 146)).alloc (.cells #[(.string s : Value), .int .i64 k, .bool f] 48)) = wz at *
      have cx0 := cell_regrown bx0
      have cx1 := cell_regrown bx1
      have cx2 := cell_regrown bx2
      have cy0 := cell_regrown by0
      have cy1 := cell_regrown by1
      have cy2 := cell_regrown by2
      refine wp_region_quiet_below (by kernel_rfl) (by kernel_rfl) ?_
      repeat (go_big_quiet_step (first | (go_at_call 85; exact Calls.regrown_of (impl_patternOk _ _ _ _ (by omega))) | (go_at_call 95; exact Calls.regrown_of (impl_lowBits_b _ _ hs1))))
      refine wpQuiet_nil ?_
      intro _ hw'
      obtain ⟨⟨dq, osq⟩, hw''⟩ := hw'
      subst hw''
      go_wp2
      go_ret
      exact ⟨by rw [HR.out]; rfl, hbz.trans ((below_regrown wz dq osq).mono hbz.size)⟩
end Go.Proofs.Ytglldmfhjipacaa

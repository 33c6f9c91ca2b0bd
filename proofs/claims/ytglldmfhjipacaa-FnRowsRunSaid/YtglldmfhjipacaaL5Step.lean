/-
  Chapter 5: RowsStep, in the program: the rows one byte on.
-/
import Derived.Test.YtglldmfhjipacaaL5DistB
import Derived.Test.YtglldmfhjipacaaL1Mask
import Derived.Test.YtglldmfhjipacaaL4Ok
import Derived.Deep.RegionLaw
import Derived.StillTailTactics
namespace Go.Proofs.Ytglldmfhjipacaa
open Go.RowKit
set_option linter.unusedVariables false
set_option maxRecDepth 100000
/-- a row's bits one place on -/
def mvI (x : Int) : Int := bits .or .i64 (x * 2) 1
/-- the rows behind one more byte, whose places are those of the mask -/
def stepF (m al : Int) (C : Nat → Int) : Nat → Int
  | 0 => bits .and .i64 (bits .and .i64 (mvI (C 0)) m) al
  | j + 1 => bits .and .i64 (bits .or .i64 (bits .and .i64 (mvI (C (j + 1))) m) (bits .or .i64 (bits .or .i64 (C j) (mvI (C j))) (mvI (stepF m al C j)))) al
theorem and_low_range (x : Int) {n : Nat} (hn : n ≤ 20) : 0 ≤ bits .and .i64 x (2 ^ n - 1) ∧ bits .and .i64 x (2 ^ n - 1) ≤ 1048576 := by
  have h : 0 ≤ bits .and .i64 x (2 ^ n - 1) ∧ bits .and .i64 x (2 ^ n - 1) ≤ 2 ^ n - 1 := by
    rw [within_iff (i64_and _ _) (by omega)]
    intro i hi hb
    rw [bv_and, BitVec.getLsbD_and, bv_low, low_bit] at hb
    simp at hb
    omega
  have := pow_small n hn
  omega
theorem stepF_range (m : Int) {n : Nat} (hn : n ≤ 20) (C : Nat → Int) (j : Nat) : 0 ≤ stepF m (2 ^ n - 1) C j ∧ stepF m (2 ^ n - 1) C j ≤ 1048576 := by
  cases j with
  | zero => exact and_low_range _ hn
  | succ j => exact and_low_range _ hn
theorem impl_moved (x : Int) (w : World) (h0 : 0 ≤ x) (h1 : x ≤ 1048576) :
    Calls Try.prog 149 #[.int .i64 x] w fun e w' => e = .returned (.int .i64 (mvI x)) ∧ w = w' := by
  go_enter Try.func149, Try.ntmps149
  go_wp2_with fail
  go_ret
  exact ⟨rfl, rfl⟩
set_option maxHeartbeats 4000000 in
theorem impl_rowsNext (s : ByteArray) (k : Int) (f : Bool) (L : List Int) (a : Option Addr) (n cap : Nat) (b : Int) (w : World) (hs : s.size ≤ 20) (hn : L.length = n) (h : Ints w a L) (hlen : n ≤ 5) (hb : ∀ i, i < n → 0 ≤ intAt L i ∧ intAt L i ≤ 1048576) :
    Calls Try.prog 147 #[.agg #[.slice a n cap], .agg #[.string s, .int .i64 k, .bool f], .int .i64 b] w fun e w' => ∃ a' cap', e = .returned (.iface 63 (.agg #[.slice a' n cap'])) ∧ OwnN w' w.heap.size a' n cap' (tab (stepF (maskI s f b) (2 ^ s.size - 1) (intAt L)) n) ∧ Below w.heap.size w w' := by
  obtain ⟨i0, hi, ht0, ht1, ht2⟩ := info_parts int_info
  have HN := Lib.hid hn; have HBB := Lib.hid hb
  have HSF := fun j => Lib.hid (stepF_range (maskI s f b) hs (intAt L) j)
  clear hn hb
  go_enter Try.func147, Try.ntmps147
  go_wp2_with fail
  have bx0 : ((w.alloc (.cells #[(.slice a n cap : Value)] 63)).alloc (.cells #[(.string s : Value), .int .i64 k, .bool f] 48)).cell? ⟨w.heap.size, 0, none⟩ = some ((.slice a n cap : Value)) := (by rw [cell_of_row _ _ 0 _ _ _ (heap_alloc2_old _ _ _)]; rfl)
  have by0 : ((w.alloc (.cells #[(.slice a n cap : Value)] 63)).alloc (.cells #[(.string s : Value), .int .i64 k, .bool f] 48)).cell? ⟨w.heap.size + 1, 0, none⟩ = some ((.string s : Value)) := (by rw [cell_of_row _ _ 0 _ _ _ (heap_alloc2_new _ _ _)]; rfl)
  have by1 : ((w.alloc (.cells #[(.slice a n cap : Value)] 63)).alloc (.cells #[(.string s : Value), .int .i64 k, .bool f] 48)).cell? ⟨w.heap.size + 1, 1, none⟩ = some (.int .i64 k) := (by rw [cell_of_row _ _ 1 _ _ _ (heap_alloc2_new _ _ _)]; rfl)
  have by2 : ((w.alloc (.cells #[(.slice a n cap : Value)] 63)).alloc (.cells #[(.string s : Value), .int .i64 k, .bool f] 48)).cell? ⟨w.heap.size + 1, 2, none⟩ = some (.bool f) := (by rw [cell_of_row _ _ 2 _ _ _ (heap_alloc2_new _ _ _)]; rfl)
  have hbz : Below w.heap.size w ((w.alloc (.cells #[(.slice a n cap : Value)] 63)).alloc (.cells #[(.string s : Value), .int .i64 k, .bool f] 48)) := ((Below.refl _ _).alloc (Nat.le_refl _) _).alloc (by simp) _
  have hzz : w.heap.size + 1 < ((w.alloc (.cells #[(.slice a n cap : Value)] 63)).alloc (.cells #[(.string s : Value), .int .i64 k, .bool f] 48)).heap.size := (by simp)
  have hzeq := Lib.hid (show ((w.alloc (.cells #[(.slice a n cap : Value)] 63)).alloc (.cells #[(.string s : Value), .int .i64 k, .bool f] 48)).heap.size = w.heap.size + 2 by simp)
  generalize ((w.alloc (.cells #[(.slice a n cap : Value)] 63)).alloc (.cells #[(.string s : Value), .int .i64 k, .bool f] 48)) = wz at *
  have cx0 := cell_regrown bx0
  have cy0 := cell_regrown by0
  have cy1 := cell_regrown by1
  have cy2 := cell_regrown by2
  refine wp_region_quiet_below (by kernel_rfl) (by kernel_rfl) ?_
  repeat (go_big_quiet_step (first | (go_at_call 95; exact Calls.regrown_of (impl_lowBits_b _ _ hs)) | (go_at_call 148; exact Calls.regrown_of (impl_maskOf s f b _ (by omega)))))
  refine wpQuiet_nil ?_
  intro _ hw'
  obtain ⟨⟨dq, osq⟩, hw''⟩ := hw'
  subst hw''
  obtain ⟨mk, hmk⟩ : ∃ mk, maskI s f b = mk := ⟨_, rfl⟩
  have HMK := Lib.hid hmk
  rw [hmk] at HSF ⊢
  clear hmk
  have hX := below_regrown wz dq osq
  have hz2 : wz.heap.size ≤ (Sort.grow (redrawn wz dq) osq).heap.size := hX.size
  have hBW := hbz.trans (hX.mono hbz.size)
  have dx0 := cx0 dq osq
  clear bx0 by0 by1 by2 cy0 cy1 cy2 cx0 hX
  generalize Sort.grow (redrawn wz dq) osq = w2 at *
  have hy1 : w.heap.size + 1 < w2.heap.size := by omega
  have hy0 : w.heap.size < w2.heap.size := by omega
  go_wp2_with (at_make; refine wpList_make_full _ rfl _ _ 61 rfl w2.heap.size 2 i0 (.int .i64 0) 1 Try.underlying61 hi ht0 ht1 _ _ _ _ n rfl rfl rfl rfl (by rw [ht2]; omega) (by unfold maxLen; omega) (Nat.le_refl _) ?_; intro w3 hown hg; have hB3 : Below w2.heap.size w2 w3 := ((Below.refl _ _).grown hg (Nat.le_refl _) (fun k hk => by cases hk)); have m0 := (hB3.cell (p := ⟨w.heap.size, 0, none⟩) hy0).trans dx0)
  have hO := OwnN.made hown
  have hI := h.kept hBW
  clear hown hg h
  go_loopw [30] (fun i wr => ∃ (j : Nat) (M : List Int), j ≤ n ∧ i = .int .i64 j ∧ OwnN wr w2.heap.size (some ⟨w2.heap.size, 0, none⟩) n n M ∧ UpTo (stepF mk (2 ^ s.size - 1) (intAt L)) j M ∧ Below w2.heap.size w2 wr)
    (fun i _ => n - (intOf i).toNat)
  case atStart => exact ⟨0, _, by omega, rfl, hO, UpTo.zero _ _, hB3⟩
  case round =>
    obtain ⟨j, M, hj, rfl, hown, hup, hb⟩ := hrel
    by_cases hlt : j < n
    · obtain ⟨bb, off, rfl, hpp⟩ := (hI.kept hb).at j (by rw [HN.out]; exact hlt)
      have c0 := hpp j (by rw [HN.out]; exact hlt)
      obtain ⟨b2, o2, he2, hp2⟩ := hI.at j (by rw [HN.out]; exact hlt)
      cases he2
      have hbb := block_lt_of_cell (hp2 j (by rw [HN.out]; exact hlt))
      simp only at hbb
      have hbn : bb ≠ w2.heap.size := by omega
      clear hp2
      have n0 := (hb.cell (p := ⟨w.heap.size, 0, none⟩) hy0).trans dx0
      have hc := hown.cell j hlt
      have hf := hown.frozen j
      obtain ⟨hx0, hx1⟩ := HBB.out j hlt
      have hx : ∃ x, intAt L j = x := ⟨_, rfl⟩
      by_cases hj0 : j = 0
      · obtain ⟨x, hx⟩ := hx
        rw [hx] at c0 hx0 hx1
        have HF := Lib.hid (show stepF mk (2 ^ s.size - 1) (intAt L) j = bits .and .i64 (bits .and .i64 (mvI x) mk) (2 ^ s.size - 1) by rw [← hx, hj0]; rfl)
        have hnp : ¬ (0 : Int) < (j : Int) := by omega
        have hnp2 : ¬ 0 < j := by omega
        clear hj0
        have HO := Lib.hid hown; have HU2 := Lib.hid (hup.set (by rw [hown.len]; exact hlt))
        clear hx hown hup hpp hO hI m0
        go_wp2_with (go_at_call 149; refine (impl_moved x _ hx0 hx1).mono ?_; rintro e w9 ⟨rfl, rfl⟩)
        go_roundw
        case rel => exact ⟨j + 1, (M.set j _).set j _, by omega, by go_num, (HO.out.set j _).set j _, by rw [List.set_set, ← HF.out]; exact HU2.out, (hb.setCell (p := ⟨w2.heap.size, j, none⟩) (Nat.le_refl _) _).setCell (p := ⟨w2.heap.size, j, none⟩) (Nat.le_refl _) _⟩
        case measure => simp [intOf]; omega
      · obtain ⟨q, rfl⟩ : ∃ q, j = q + 1 := ⟨j - 1, by omega⟩
        have hq1 := hpp q (by rw [HN.out]; omega)
        obtain ⟨hy0, hy1⟩ := HBB.out q (by omega)
        obtain ⟨hz0, hz1⟩ := (HSF q).out
        have hd := hown.cell q (by omega)
        rw [hup q (by omega)] at hd
        obtain ⟨x, hx⟩ := hx
        obtain ⟨y, hy⟩ : ∃ y, intAt L q = y := ⟨_, rfl⟩
        obtain ⟨z, hz⟩ : ∃ z, stepF mk (2 ^ s.size - 1) (intAt L) q = z := ⟨_, rfl⟩
        rw [hx] at c0 hx0 hx1
        rw [hy] at hq1 hy0 hy1
        rw [hz] at hd hz0 hz1
        have HF := Lib.hid (show stepF mk (2 ^ s.size - 1) (intAt L) (q + 1) = bits .and .i64 (bits .or .i64 (bits .and .i64 (mvI x) mk) (bits .or .i64 (bits .or .i64 y (mvI y)) (mvI z))) (2 ^ s.size - 1) by rw [← hx, ← hy, ← hz]; rfl)
        have HO := Lib.hid hown; have HU2 := Lib.hid (hup.set (by rw [hown.len]; exact hlt))
        have hu9 : intAt M q = z := by rw [hup q (by omega)]; exact hz
        have hp1 : (0 : Int) < ((q + 1 : Nat) : Int) := by omega
        have hp2 : 0 < q + 1 := by omega
        have hq2 : ((q + 1 : Nat) : Int) - 1 = (q : Int) := by omega
        have hq3 : (q : Int) + 1 - 1 = (q : Int) := by omega
        have hq4 : (q : Int) < (n : Int) := by omega
        have hq5 : q < n := by omega
        clear hx hy hz hown hup hpp hO hI m0 hj0
        go_wp2_with (go_at_call 149; refine (impl_moved x _ hx0 hx1).mono ?_; rintro e w9 ⟨rfl, rfl⟩)
        have hO9 := HO.out.set (q + 1) (bits .and .i64 (mvI x) mk)
        have hb9 := hb.setCell (p := ⟨w2.heap.size, q + 1, none⟩) (Nat.le_refl _) (.int .i64 (bits .and .i64 (mvI x) mk))
        have e9 : (M.set (q + 1) (bits .and .i64 (mvI x) mk)).length = n := hO9.len
        have l9 := HO.out.len
        clear HO hb hc hf n0 c0 hd hq1
        generalize wr.setCell ⟨w2.heap.size, q + 1, none⟩ (.int .i64 (bits .and .i64 (mvI x) mk)) = w9 at *
        have hc := hO9.cell (q + 1) hlt
        rw [intAt_set _ _ _ _ (by rw [l9]; exact hlt), if_pos rfl] at hc
        have hd := hO9.cell q (by omega)
        rw [intAt_set _ _ _ _ (by rw [l9]; exact hlt), if_neg (by omega), hu9] at hd
        have hf := hO9.frozen (q + 1)
        have HO := Lib.hid hO9
        clear hO9
        have i1 : (q : Int) + 1 < (n : Int) := by omega
        have i2 : q + 1 < n := hlt
        have i3 : (0 : Int) ≤ (q : Int) + 1 := by omega
        have i4 : ((q : Int) + 1).toNat = q + 1 := by omega
        have i5 : (0 : Int) ≤ (q : Int) := by omega
        have jw : IntKind.i64.wrap ((q : Int) + 1 - 1) = (q : Int) := by rw [IntKind.wrap_i64]; omega
        have jw2 : IntKind.i64.wrap (q : Int) = (q : Int) := by rw [IntKind.wrap_i64]; omega
        have i6 : ((q : Int)).toNat = q := by omega
        clear hq2 hq3
        have hcd : w9.drew.cell? ⟨w2.heap.size, q + 1, none⟩ = some (.int .i64 (bits .and .i64 (mvI x) mk)) := by go_simp
        have hdd : w9.drew.cell? ⟨w2.heap.size, q, none⟩ = some (.int .i64 z) := by go_simp
        have HD := Lib.hid (HO.out.kept ((Below.refl _ w9).drew))
        have hbd := hb9.drew
        have hfd := HD.out.frozen (q + 1)
        refine wp_region_still_tail 17 (by kernel_rfl) (by kernel_rfl) ?_
        change wpStill _ _ w9.drew (fun a' => wpList _ _ _ _ a' w9.drew) _ _
        generalize w9.drew = wd at *
        clear hc hd hf HO hb9
        simp only [List.take_succ_cons, List.take_zero, List.drop_succ_cons, List.drop_zero]
        repeat (first | still_step | (still_call ((impl_moved y wd hy0 hy1).mono fun _ _ h => ⟨h.1, h.2.symm⟩)) | (still_call ((impl_moved z wd hz0 hz1).mono fun _ _ h => ⟨h.1, h.2.symm⟩)))
        refine wpStill_nil ?_
        clear jw jw2
        go_wp2_with fail
        go_roundw
        case rel => exact ⟨q + 1 + 1, ((M.set (q + 1) _).set (q + 1) _).set (q + 1) _, by omega, by go_num, (HD.out.set (q + 1) _).set (q + 1) _, by rw [List.set_set, List.set_set, ← HF.out]; exact HU2.out, (hbd.setCell (p := ⟨w2.heap.size, q + 1, none⟩) (Nat.le_refl _) _).setCell (p := ⟨w2.heap.size, q + 1, none⟩) (Nat.le_refl _) _⟩
        case measure => simp [intOf]; omega
    · obtain rfl : j = n := by omega
      have HMM := Lib.hid (hup.tab hown.len)
      clear hup
      go_wp2_with fail
      go_ret
      exact ⟨_, _, rfl, by rw [HMK.out, ← HMM.out]; exact hown.mono (by omega), hBW.trans (hb.mono (by omega))⟩
end Go.Proofs.Ytglldmfhjipacaa

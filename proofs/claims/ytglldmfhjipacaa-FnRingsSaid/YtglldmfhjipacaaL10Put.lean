/-
  Chapter 10: rings: the array of the last bytes; contracts of RingPut and RingCut, in the program and in its model; the walks of FnExactRingPut and FnExactRingCut.
-/
import Derived.Test.YtglldmfhjipacaaL10
import Derived.Test.YtglldmfhjipacaaWheel
import Derived.Test.YtglldmfhjipacaaL1Mask
import Derived.Test.YtglldmfhjipacaaRd
import Derived.Deep.RegionLaw
namespace Go.Proofs.Ytglldmfhjipacaa
open Go.RowKit
set_option linter.unusedVariables false
set_option maxRecDepth 100000
theorem grown_drew10 {w w1 : World} {r : Option Nat} (h : w.grownBy w1 r) : w.grownBy w1.drew r := ⟨h.os, h.tape, h.output, h.size, h.block⟩
set_option maxHeartbeats 2000000 in
theorem wheel_put (g : Nat) (cs : Array Value) (at' : Nat) (s : ByteArray) (w : World) (hg : w.heap[g]? = some (.cells cs 96 (0, 0))) (hc : cs.size = 200) (ha : at' ≤ 1000000) (hs : s.size ≤ 1048576) :
    Calls Try.prog 77 #[.pointer (some ⟨g, 0, none⟩), .int .i64 at', .string s] w fun r w' => r = .returned (.tuple #[]) ∧ w'.heap[g]? = some (.cells (putC cs at' s s.size) 96 (0, 0)) ∧ w.grownBy w' (some g) := by
  go_enter Try.func77, Try.ntmps77
  go_wp2
  go_loopw [9] (fun i wr => ∃ j : Nat, j ≤ s.size ∧ i = .int .i64 j ∧ wr.heap[g]? = some (.cells (putC cs at' s j) 96 (0, 0)) ∧ w.grownBy wr (some g))
    (fun i _ => s.size - (intOf i).toNat)
  case atStart => exact ⟨0, by omega, rfl, hg, grown_of_below (Below.refl _ _) _⟩
  case round =>
    obtain ⟨j, hj, rfl, hr, hb⟩ := hrel
    by_cases hlt : j < s.size
    · obtain ⟨q, hq⟩ : ∃ q, (at' + j) % 200 = q := ⟨_, rfl⟩
      have hq2 : q < 200 := by omega
      have hz : (putC cs at' s j).size = 200 := by rw [putC_size, hc]
      obtain ⟨v, hv⟩ : ∃ v, (putC cs at' s j)[q]? = some v := ⟨_, Array.getElem?_eq_getElem (by omega)⟩
      have c0 : wr.drew.cell? ⟨g, q, none⟩ = some v := by rw [cell_of_row _ _ q _ _ _ (show wr.drew.heap[g]? = _ from hr), hv]
      have f0 := frozen_of_row _ _ q _ _ (show wr.drew.heap[g]? = _ from hr)
      have hm : ((at' : Int) + (j : Int)).tmod 200 = (q : Int) := by rw [Int.tmod_eq_emod_of_nonneg (by omega)]; omega
      have hw : IntKind.i64.wrap ((at' : Int) + (j : Int)) = (at' : Int) + (j : Int) := by rw [IntKind.wrap_i64]; omega
      have hb' : byteAt s j = s[j] := byteAt_eq s j hlt
      have hch := s[j].toNat_lt
      have hn0 : (0 : Int) ≤ (q : Int) := by omega
      have hn1 : (q : Int) < 200 := by omega
      have hnt : ((q : Int)).toNat = q := by omega
      have HS : Hid (putC cs at' s (j + 1) = (putC cs at' s j).setIfInBounds q (.int .u8 (s[j].toNat : Int))) := by show _ = _; rw [← hq, ← hb']; rfl
      have HR := Lib.hid hr; have HB := Lib.hid hb
      clear hr hb hz hv hb' hq
      go_wp2_with fail
      go_region
      all_goals
        go_wp2_with fail
        go_roundw
        case rel => exact ⟨j + 1, by omega, by go_num, by rw [HS.out]; exact heap_setCell_mark wr g q _ _ _ _ HR.out, grown_drew10 (grownBy_trans HB.out (grownBy_setCell wr g q _))⟩
        case measure => simp [intOf]; omega
    · obtain rfl : j = s.size := by omega
      go_wp2
      exact bodyPost_end (results_none rfl _ _ _) rfl ⟨rfl, hr, hb⟩
set_option maxHeartbeats 2000000 in
theorem wheel_cut (g : Nat) (cs : Array Value) (lo n : Nat) (f : Nat → UInt8) (w : World) (hg : w.heap[g]? = some (.cells cs 96 (0, 0))) (hlo : lo + n ≤ 1000000) (hn : n ≤ 1048576) (hw : Wh cs lo (lo + n) f) (hn2 : n ≤ 200) :
    Calls Try.prog 79 #[.pointer (some ⟨g, 0, none⟩), .int .i64 lo, .int .i64 ((lo : Int) + (n : Int))] w fun r w' => r = .returned (.string ⟨(cutL f lo n).toArray⟩) ∧ Below w.heap.size w w' := by
  obtain ⟨i0, hi, hz0, hz1, hz2⟩ := info_parts byte_info
  have hgl := lt_of_block hg
  have HWH := Lib.hid hw; clear hw
  go_enter Try.func79, Try.ntmps79
  go_wp2
  go_loopw [7, 8] (fun v i wr => ∃ j : Nat, j ≤ n ∧ i = .int .i64 ((lo : Int) + (j : Int)) ∧ wr.ownsRow w.heap.size 5 1 v j ((cutL f lo j).map byteVal) ∧ Below w.heap.size w wr)
    (fun _ i _ => lo + n - (intOf i).toNat)
  case atStart => exact ⟨0, by omega, by simp, World.ownsRow_nil _ _ _ _, Below.refl _ _⟩
  case round =>
    obtain ⟨j, hj, rfl, hown, hb⟩ := hrel
    by_cases hlt : j < n
    · obtain ⟨q, hq⟩ : ∃ q, (lo + j) % 200 = q := ⟨_, rfl⟩
      have hc0 := HWH.out (lo + j) (by omega) (by omega) (by omega)
      rw [hq] at hc0
      have c0 : wr.cell? ⟨g, q, none⟩ = some (.int .u8 ((f (lo + j)).toNat : Int)) := by rw [cell_of_row _ _ q _ _ _ ((hb.block g hgl).trans hg), hc0]
      have hm : ((lo : Int) + (j : Int)).tmod 200 = (q : Int) := by rw [Int.tmod_eq_emod_of_nonneg (by omega)]; omega
      have hch := (f (lo + j)).toNat_lt
      have hq2 : q < 200 := by omega
      have hn0 : (0 : Int) ≤ (q : Int) := by omega
      have hn1 : (q : Int) < 200 := by omega
      have hnt : ((q : Int)).toNat = q := by omega
      have hl0 : (lo : Int) + (j : Int) < (lo : Int) + (n : Int) := by omega
      have hw1 : IntKind.i64.wrap ((lo : Int) + (j : Int) + 1) = (lo : Int) + (j : Int) + 1 := by rw [IntKind.wrap_i64]; omega
      have HS : Hid ((cutL f lo (j + 1)).map byteVal = (cutL f lo j).map byteVal ++ [.int .u8 ((f (lo + j)).toNat : Int)]) := by show _ = _; rw [cutL_succ]; simp [byteVal]
      generalize f (lo + j) = b at *
      clear hc0 hq
      go_wp2_with (at_builtin; refine wpList_append_own _ rfl _ _ 22 rfl w.heap.size 5 i0 (.int .u8 0) 1 1 Try.underlying22 hi hz0 hz1 hz2 rfl (by decide) _ _ _ rfl (hown.alloc _) ⟨wr.heap.size, 0, none⟩ 1 1 [.int .u8 (b.toNat : Int)] rfl rfl (one_new _ _ _) (one_byte _) (by unfold maxLen; omega) (by omega) (by have := hb.size; simp; omega) ?_; intro v' w1 hown' hg' _)
      rw [← HS.out] at hown'
      have hb' := (hb.alloc hb.size (.cells #[.int .u8 (b.toNat : Int)] 5)).grown hg' (by have := hb.size; simp; omega) (fun j hj => (hown.lt j hj).1)
      clear hown hb hg' c0
      go_roundw
      case rel => exact ⟨j + 1, by omega, by rw [Int.natCast_add, ← Int.add_assoc]; rfl, hown', hb'⟩
      case measure => simp [intOf]; omega
    · obtain rfl : j = n := by omega
      have hcv := run_owned_string (P := Try.prog) (w := wr) (src := 22) (dst := 9) (e := 5) Try.underlying22 Try.underlying5 Try.underlying9 _ hown
      go_wp2
      go_ret
      exact ⟨rfl, hb⟩
end Go.Proofs.Ytglldmfhjipacaa

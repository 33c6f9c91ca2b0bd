/-
  FnFold: the walk.
-/
import Derived.Test.YtgjngnignjbdlaaL1Draw
import Derived.Test.YtgjngnignjbdlaaL1Mask

namespace Go.Proofs.Ytgjngnignjbdlaa
open Go.RowKit
set_option linter.unusedVariables false
theorem foldS_idem (s : ByteArray) : foldS (foldS s) = foldS s := by
  have : foldL (foldL s.data.toList) = foldL s.data.toList := by
    simp only [foldL, List.map_map]
    apply List.map_congr_left
    intro b _
    exact foldB_idem b
  show (⟨(foldL (foldL s.data.toList).toArray.toList).toArray⟩ : ByteArray) = _
  simp only [this]; rfl
theorem foldS_cat (s : ByteArray) (k : Nat) (hk : k ≤ s.size) : foldS (s.extract 0 k) ++ foldS (s.extract k s.size) = foldS s := by
  have h1 : s.data.toList.length = s.size := Array.length_toList
  unfold foldS
  rw [str_cat]
  congr 2
  show List.map foldB _ ++ List.map foldB _ = List.map foldB _
  rw [← List.map_append]
  congr 1
  rw [ByteArray.data_extract, ByteArray.data_extract, Array.toList_extract, Array.toList_extract]
  simp only [List.extract_eq_take_drop, List.drop_zero, Nat.sub_zero]
  rw [List.take_of_length_le (l := s.data.toList.drop k) (by simp), List.take_append_drop]

set_option maxHeartbeats 2000000 in
theorem law_FnFold (a : Option Addr) (len cap : Nat) (z : List Int) (w : World) (hr : IsRow .u8 w a len cap z) :
    Calls Try.prog 3 #[.slice a len cap] w fun e w' => e = .returned (.bool true) ∧ Below w.heap.size w w' := by
  by_cases hl : len ≤ 1048576
  · go_enter Try.func3, Try.ntmps3
    go_wp2_with (go_at_call 8; go_in)
    refine (drawFoldOf _ _ _ _ _ hr hl).mono ?_
    rintro e w1 ⟨b, rfl, hbr, hb1⟩
    go_wp2_with fail
    refine (impl_foldOf _ _).mono ?_
    rintro e w2 ⟨rfl, hb2⟩
    have hB2 := below_step hb1 hb2
    go_wp2_with fail
    refine (drawFolded _ _ _ _ _ (isRow_below hr hB2) hl).mono ?_
    rintro e w3 ⟨s, rfl, hs, hb3⟩
    have hB3 := below_step hB2 hb3
    go_wp2_with fail
    refine (impl_folded _ _ (by omega)).mono ?_
    rintro e w4 ⟨rfl, hb4⟩
    have hB4 := below_step hB3 hb4
    clear hb1 hb2 hb3 hb4 hB2 hB3
    have e0 : (foldOfI b != foldOfI b) = false := by simp
    have e1 : ((foldS s).toList != (foldS s).toList) = false := by simp
    go_wp2_with (first | (go_at_call 13; refine (spec_foldOf _ _).mono ?_; rintro e w5 ⟨rfl, rfl⟩) | (go_at_call 14; refine (spec_folded _ _ (by omega)).mono ?_; rintro e w5 ⟨rfl, hb5⟩))
    have hB5 := below_step hB4 hb5
    clear hB4 hb5
    have hfs := foldS_size s
    have hfs1 : (foldS s).size ≤ 14 := by omega
    have HFS := Lib.hid hfs; clear hfs e0 e1
    obtain ⟨q, hq⟩ : ∃ q, len % (s.size + 1) = q := ⟨_, rfl⟩
    have hqs : q ≤ s.size := by have := Nat.mod_lt len (show 0 < s.size + 1 by omega); omega
    have hq2 : ((len : Int) % ((s.size : Int) + 1)) = (q : Int) := by rw [← hq]; simp
    clear hq
    go_loopw [8] (fun i wr => ∃ k : Nat, k ≤ s.size ∧ i = .int .i64 k ∧ Below w.heap.size w wr)
      (fun i _ => s.size - (intOf i).toNat)
    case atStart => exact ⟨0, by omega, rfl, hB5⟩
    case round =>
      obtain ⟨k, hk, rfl, hbr2⟩ := hrel
      by_cases hlt : k < s.size
      · have hkf : k < (foldS s).size := by have := HFS.out; omega
        have hc := s[k].toNat_lt
        have hc2 := (foldS s)[k].toNat_lt
        have he : (((foldS s)[k].toNat : Int) != foldOfI (s[k].toNat : Int)) = false := by
          have h1 : foldOfI (s[k].toNat : Int) = foldI (s[k].toNat : Int) := by unfold foldOfI; rw [if_pos (by omega)]
          have h2 : (foldS s)[k] = foldB s[k] := by rw [← byteAt_eq (foldS s) k hkf, byteAt_foldS s k hlt, byteAt_eq s k hlt]
          rw [h1, h2, foldB_toNat]; simp
        go_wp2_with fail
        refine wp_region_quiet_below (by kernel_rfl) (by kernel_rfl) ?_
        repeat (go_big_quiet_step (((go_at_call 10; exact Calls.regrown_of (impl_foldOf _ _)))))
        refine wpQuiet_nil ?_
        intro _ hw'
        obtain ⟨⟨dq, osq⟩, hw''⟩ := hw'
        subst hw''
        go_wp2
        go_roundw
        case rel => exact ⟨k + 1, by omega, by go_num, hbr2.trans ((below_regrown wr dq osq).mono hbr2.size)⟩
        case measure => simp [intOf]; omega
      · obtain rfl : k = s.size := by omega
        have e1 : ((foldS (foldS s)).toList == (foldS s).toList) = true := by rw [foldS_idem]; simp
        have e2 : (((foldS s).size : Int) == (s.size : Int)) = true := by rw [HFS.out]; simp
        have e3 : ((foldS (s.extract 0 q) ++ foldS (s.extract q s.size)).toList == (foldS s).toList) = true := by rw [foldS_cat s q hqs]; simp
        have hx1 : (s.extract 0 q).size ≤ 14 := by rw [ByteArray.size_extract]; omega
        have hx2 : (s.extract q s.size).size ≤ 14 := by rw [ByteArray.size_extract]; omega
        have hx3 : (foldS (s.extract 0 q)).size ≤ 14 := by rw [foldS_size]; exact hx1
        have hx4 : (foldS (s.extract q s.size)).size ≤ 14 := by rw [foldS_size]; exact hx2
        by_cases c0 : 0 ≤ b ∧ b ≤ 255
        · obtain ⟨c0, c1⟩ := c0
          by_cases c2 : 65 ≤ b ∧ b ≤ 90
          · obtain ⟨c2, c3⟩ := c2
            have hf : foldOfI b = b + 32 := by unfold foldOfI foldI; rw [if_pos ⟨c0, c1⟩, if_pos ⟨c2, c3⟩]
            have hf2 : foldOfI (b + 32) = b + 32 := by unfold foldOfI foldI; rw [if_pos (by omega), if_neg (by omega)]
            have d1 : decide (b + 32 < 0) = false := by simp; omega
            have d2 : (b + 32 == b) = false := by simp; omega
            have d3 : decide (65 ≤ b) = true := by simpa using c2
            have d4 : decide (b ≤ 90) = true := by simpa using c3
            go_wp2_with fail
            refine wp_region_quiet_below (by kernel_rfl) (by kernel_rfl) ?_
            repeat (go_big_quiet_step (first | (go_at_call 12; exact Calls.regrown_of (impl_folded _ _ (by omega))) | (go_at_call 10; exact Calls.regrown_of (impl_foldOf _ _))))
            refine wpQuiet_nil ?_
            intro _ hw'
            obtain ⟨⟨dq, osq⟩, hw''⟩ := hw'
            subst hw''
            go_wp2
            go_ret
            exact ⟨rfl, hbr2.trans ((below_regrown wr dq osq).mono hbr2.size)⟩
          · have hf : foldOfI b = b := by unfold foldOfI foldI; rw [if_pos ⟨c0, c1⟩, if_neg c2]
            have d1 : decide (b < 0) = false := by simp; omega
            go_wp2_with fail
            refine wp_region_quiet_below (by kernel_rfl) (by kernel_rfl) ?_
            repeat (go_big_quiet_step (first | (go_at_call 12; exact Calls.regrown_of (impl_folded _ _ (by omega))) | (go_at_call 10; exact Calls.regrown_of (impl_foldOf _ _))))
            refine wpQuiet_nil ?_
            intro _ hw'
            obtain ⟨⟨dq, osq⟩, hw''⟩ := hw'
            subst hw''
            go_wp2
            go_ret
            exact ⟨rfl, hbr2.trans ((below_regrown wr dq osq).mono hbr2.size)⟩
        · have hf : foldOfI b = -1 := by unfold foldOfI; rw [if_neg c0]
          go_wp2_with fail
          refine wp_region_quiet_below (by kernel_rfl) (by kernel_rfl) ?_
          repeat (go_big_quiet_step (first | (go_at_call 12; exact Calls.regrown_of (impl_folded _ _ (by omega))) | (go_at_call 10; exact Calls.regrown_of (impl_foldOf _ _))))
          refine wpQuiet_nil ?_
          intro _ hw'
          obtain ⟨⟨dq, osq⟩, hw''⟩ := hw'
          subst hw''
          go_wp2
          go_ret
          exact ⟨rfl, hbr2.trans ((below_regrown wr dq osq).mono hbr2.size)⟩
  · go_enter Try.func3, Try.ntmps3
    go_wp2
    go_ret
    exact ⟨rfl, Below.refl _ _⟩
end Go.Proofs.Ytgjngnignjbdlaa

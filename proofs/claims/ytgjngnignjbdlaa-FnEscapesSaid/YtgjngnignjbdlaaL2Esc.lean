/-
  Chapter 2: contracts of Escaped, in the program and in its model.
-/
import Derived.Test.YtgjngnignjbdlaaPlain2
import Derived.Test.YtgjngnignjbdlaaL1Folded
import Derived.Deep.RegionLaw
import Derived.Deep.AppendLies
import Derived.BigRegion
namespace Go.Proofs.Ytgjngnignjbdlaa
open Go.RowKit
set_option linter.unusedVariables false
theorem hex_index (n : Nat) (h : n < 16) (w : World) : (Instr.index 9 (.string hexLit) (.int .u8 (n : Int))).run Try.prog w = .ok (.int .u8 ((hexB n).toNat : Int)) w := by
  have : n = 0 ∨ n = 1 ∨ n = 2 ∨ n = 3 ∨ n = 4 ∨ n = 5 ∨ n = 6 ∨ n = 7 ∨ n = 8 ∨ n = 9 ∨ n = 10 ∨ n = 11 ∨ n = 12 ∨ n = 13 ∨ n = 14 ∨ n = 15 := by omega
  rcases this with rfl | rfl | rfl | rfl | rfl | rfl | rfl | rfl | rfl | rfl | rfl | rfl | rfl | rfl | rfl | rfl
  all_goals (show _ = _; kernel_rfl)
theorem hex_slice (n : Nat) (h : n < 16) (w : World) : (Instr.slice 9 (.string hexLit) (some (.int .u8 (n : Int))) (some (.int .u8 ((n : Int) + 1))) none).run Try.prog w = .ok (.string ⟨[hexB n].toArray⟩) w := by
  have : n = 0 ∨ n = 1 ∨ n = 2 ∨ n = 3 ∨ n = 4 ∨ n = 5 ∨ n = 6 ∨ n = 7 ∨ n = 8 ∨ n = 9 ∨ n = 10 ∨ n = 11 ∨ n = 12 ∨ n = 13 ∨ n = 14 ∨ n = 15 := by omega
  rcases this with rfl | rfl | rfl | rfl | rfl | rfl | rfl | rfl | rfl | rfl | rfl | rfl | rfl | rfl | rfl | rfl
  all_goals (show _ = _; kernel_rfl)
theorem impl_isPrintable_yes (n : Int) (w : World) (h0 : 33 ≤ n) (h1 : n ≤ 126) :
    Calls Try.prog 41 #[.int .u8 n] w fun e w' => e = .returned (.bool true) ∧ w = w' := by
  go_enter Try.func41, Try.ntmps41
  go_wp2
  go_ret
  exact ⟨by simp, rfl⟩
theorem impl_isPrintable_no (n : Int) (w : World) (h0 : n < 33 ∨ 126 < n) :
    Calls Try.prog 41 #[.int .u8 n] w fun e w' => e = .returned (.bool false) ∧ w = w' := by
  rcases h0 with h | h
  · go_enter Try.func41, Try.ntmps41
    go_wp2
    go_ret
    exact ⟨rfl, rfl⟩
  · have h2 : 33 ≤ n := by omega
    go_enter Try.func41, Try.ntmps41
    go_wp2
    go_ret
    exact ⟨by simp; omega, rfl⟩
set_option maxHeartbeats 1000000 in
theorem impl_escaped (s : ByteArray) (w : World) (hs : s.size ≤ 1073741824) :
    Calls Try.prog 22 #[.string s] w fun e w' => e = .returned (.string (escS s)) ∧ Below w.heap.size w w' := by
  obtain ⟨i0, hi, hz0, hz1, hz2⟩ := info_parts byte_info
  go_enter Try.func22, Try.ntmps22
  go_wp2
  go_loopw [3, 8] (fun v i wr => ∃ k : Nat, k ≤ s.size ∧ i = .int .i64 k ∧ wr.ownsRow w.heap.size 5 1 v (escL (s.data.toList.take k)).length ((escL (s.data.toList.take k)).map byteVal) ∧ Below w.heap.size w wr)
    (fun _ i _ => s.size - (intOf i).toNat)
  case atStart => exact ⟨0, by omega, rfl, World.ownsRow_nil _ _ _ _, Below.refl _ _⟩
  case round =>
    obtain ⟨k, hk, rfl, hown, hb⟩ := hrel
    have hel := escL_len (s.data.toList.take k)
    have htl : (s.data.toList.take k).length ≤ k := List.length_take_le _ _
    by_cases hlt : k < s.size
    · have hsn := take_snoc s k hlt
      obtain ⟨c, hc⟩ : ∃ c : UInt8, s[k] = c := ⟨_, rfl⟩
      have hcl := c.toNat_lt
      have HE : Hid (escL (s.data.toList.take (k + 1)) = escL (s.data.toList.take k) ++ escB c) := by show _ = _; rw [hsn, escL_snoc, hc]
      clear hsn
      by_cases h1 : c.toNat = 92
      · go_wp2_with (at_builtin; refine wpList_append_own _ rfl _ _ 22 rfl w.heap.size 5 i0 (.int .u8 0) 1 1 Try.underlying22 hi hz0 hz1 hz2 rfl (by decide) _ _ _ rfl (hown.alloc _) ⟨wr.heap.size, 0, none⟩ 2 2 [.int .u8 92, .int .u8 92] rfl rfl (cells_new _ _ _) (one_all rfl) (by unfold maxLen; omega) (by omega) (by have := hb.size; simp; omega) ?_; intro v' w1 hown' hg _)
        have hown2 := own_cat hown' HE.out (by rw [escB_92 h1]; rfl)
        have hb' := (hb.alloc hb.size (.cells #[.int .u8 92, .int .u8 92] 5)).grown hg (by have := hb.size; simp; omega) (fun j hj => (hown.lt j hj).1)
        clear hown hb hg hown'
        go_roundw
        case rel => exact ⟨k + 1, by omega, by go_num, hown2, hb'⟩
        case measure => simp [intOf]; omega
      · by_cases h2 : c.toNat = 10
        · go_wp2_with (at_builtin; refine wpList_append_own _ rfl _ _ 22 rfl w.heap.size 5 i0 (.int .u8 0) 1 1 Try.underlying22 hi hz0 hz1 hz2 rfl (by decide) _ _ _ rfl (hown.alloc _) ⟨wr.heap.size, 0, none⟩ 2 2 [.int .u8 92, .int .u8 110] rfl rfl (cells_new _ _ _) (one_all rfl) (by unfold maxLen; omega) (by omega) (by have := hb.size; simp; omega) ?_; intro v' w1 hown' hg _)
          have hown2 := own_cat hown' HE.out (by rw [escB_10 h2]; rfl)
          have hb' := (hb.alloc hb.size (.cells #[.int .u8 92, .int .u8 110] 5)).grown hg (by have := hb.size; simp; omega) (fun j hj => (hown.lt j hj).1)
          clear hown hb hg hown'
          go_roundw
          case rel => exact ⟨k + 1, by omega, by go_num, hown2, hb'⟩
          case measure => simp [intOf]; omega
        · by_cases h3 : 33 ≤ c.toNat ∧ c.toNat ≤ 126
          · obtain ⟨h3, h4⟩ := h3
            go_wp2_with (first | (at_builtin; refine wpList_append_own _ rfl _ _ 22 rfl w.heap.size 5 i0 (.int .u8 0) 1 1 Try.underlying22 hi hz0 hz1 hz2 rfl (by decide) _ _ _ rfl (hown.alloc _) ⟨wr.heap.size, 0, none⟩ 1 1 [.int .u8 c.toNat] rfl rfl (cells_new _ _ _) (one_all rfl) (by unfold maxLen; omega) (by omega) (by have := hb.size; simp; omega) ?_; intro v' w1 hown' hg _) | (go_at_call 41; refine (impl_isPrintable_yes _ _ (by omega) (by omega)).mono ?_; rintro e w2 ⟨rfl, rfl⟩))
            have hown2 := own_cat hown' HE.out (by rw [escB_plain h3 h4 h1]; rfl)
            have hb' := (hb.alloc hb.size (.cells #[.int .u8 c.toNat] 5)).grown hg (by have := hb.size; simp; omega) (fun j hj => (hown.lt j hj).1)
            clear hown hb hg hown'
            go_roundw
            case rel => exact ⟨k + 1, by omega, by go_num, hown2, hb'⟩
            case measure => simp [intOf]; omega
          · have h4 : (c.toNat : Int) < 33 ∨ 126 < (c.toNat : Int) := by omega
            clear h3
            go_wp2_with ((go_at_call 41; refine (impl_isPrintable_no _ _ h4).mono ?_; rintro e w2 ⟨rfl, rfl⟩))
            have hx1 : ∀ w, (Instr.index 9 (.string { data := #[48, 49, 50, 51, 52, 53, 54, 55, 56, 57, 97, 98, 99, 100, 101, 102] }) (.int .u8 ((c.toNat : Int) / 16))).run Try.prog w = .ok (.int .u8 ((hexB (c.toNat / 16)).toNat : Int)) w := fun w => by
              have := hex_index (c.toNat / 16) (by omega) w
              rw [Int.natCast_ediv] at this
              exact this
            have hx2 : ∀ w, (Instr.index 9 (.string { data := #[48, 49, 50, 51, 52, 53, 54, 55, 56, 57, 97, 98, 99, 100, 101, 102] }) (.int .u8 ((c.toNat : Int) % 16))).run Try.prog w = .ok (.int .u8 ((hexB (c.toNat % 16)).toNat : Int)) w := fun w => by
              have := hex_index (c.toNat % 16) (by omega) w
              rw [Int.natCast_emod] at this
              exact this
            have hbits : bits .and .u8 (c.toNat : Int) 15 = (c.toNat : Int) % 16 := u8_and15 _ (by omega) (by omega)
            go_region_law ((refine step_append_lies _ rfl (.tmp 34) (.tmp 41) 22 rfl w.heap.size 5 i0 (.int .u8 0) 1 1 Try.underlying22 hi hz0 hz1 hz2 rfl (by decide) u3 _ _ (by simp [Act.eval]) (hown.alloc _).drew ⟨wr.heap.size, 0, none⟩ 4 4 [.int .u8 92, .int .u8 120, .int .u8 ((hexB (c.toNat / 16)).toNat : Int), .int .u8 ((hexB (c.toNat % 16)).toNat : Int)] (by simp [Act.eval]) rfl (fun j u h => cells_new wr _ _ j u h) (one_all rfl) (by decide) (by unfold maxLen; omega) (by omega) (by have := hb.size; simp; omega) _ rfl ?_; intro g cap w1 hown' hg _ _))
            all_goals
              have hown2 := own_cat hown' HE.out (by rw [escB_hex (by omega) h2]; rfl)
              have hb' := ((hb.alloc hb.size _).drew).grown hg (by have := hb.size; simp; omega) (fun j hj => (hown.lt j hj).1)
              clear hown hb hg hown'
              go_wp2
              go_roundw
              case rel => exact ⟨k + 1, by omega, by go_num, hown2, hb'⟩
              case measure => simp [intOf]; omega
    · obtain rfl : k = s.size := by omega
      have hcv := run_owned_string (P := Try.prog) (w := wr) (src := 22) (dst := 9) (e := 5) Try.underlying22 Try.underlying5 Try.underlying9 _ hown
      go_wp2
      go_ret
      exact ⟨by rw [List.take_of_length_le (by simp)]; rfl, hb⟩

set_option maxHeartbeats 1000000 in
theorem spec_escaped (s : ByteArray) (w : World) (hs : s.size ≤ 1073741824) :
    Calls Try.prog 26 #[.string s] w fun e w' => e = .returned (.string (escS s)) ∧ Below w.heap.size w w' := by
  go_enter Try.func26, Try.ntmps26
  go_wp2
  go_loopw [3, 4] (fun v i wr => ∃ k : Nat, k ≤ s.size ∧ i = .int .i64 k ∧ v = .string ⟨(escL (s.data.toList.take k)).toArray⟩ ∧ Below w.heap.size w wr)
    (fun _ i _ => s.size - (intOf i).toNat)
  case atStart => exact ⟨0, by omega, rfl, rfl, Below.refl _ _⟩
  case round =>
    obtain ⟨k, hk, rfl, rfl, hb⟩ := hrel
    have hel := escL_len (s.data.toList.take k)
    have htl : (s.data.toList.take k).length ≤ k := List.length_take_le _ _
    by_cases hlt : k < s.size
    · have hsn := take_snoc s k hlt
      obtain ⟨c, hc⟩ : ∃ c : UInt8, s[k] = c := ⟨_, rfl⟩
      have hcl := c.toNat_lt
      have HE : Hid (escL (s.data.toList.take (k + 1)) = escL (s.data.toList.take k) ++ escB c) := by show _ = _; rw [hsn, escL_snoc, hc]
      clear hsn
      generalize escL (s.data.toList.take k) = L at *
      by_cases h1 : c.toNat = 92
      · go_wp2
        go_roundw
        case rel => exact ⟨k + 1, by omega, by go_num, by rw [HE.out, escB_92 h1, ← str_cat], hb⟩
        case measure => simp [intOf]; omega
      · by_cases h2 : c.toNat = 10
        · go_wp2
          go_roundw
          case rel => exact ⟨k + 1, by omega, by go_num, by rw [HE.out, escB_10 h2, ← str_cat], hb⟩
          case measure => simp [intOf]; omega
        · by_cases h3 : 33 ≤ c.toNat ∧ c.toNat ≤ 126
          · obtain ⟨h3, h4⟩ := h3
            have hsl := one_slice s k hlt
            rw [hc] at hsl
            go_wp2
            go_roundw
            case rel => exact ⟨k + 1, by omega, by go_num, by rw [HE.out, escB_plain h3 h4 h1, ← str_cat], hb⟩
            case measure => simp [intOf]; omega
          · have HX := Lib.hid (escB_hex h3 h2)
            by_cases h4 : c.toNat < 33
            · clear h3
              have hx1 : ∀ w, (Instr.slice 9 (.string { data := #[48, 49, 50, 51, 52, 53, 54, 55, 56, 57, 97, 98, 99, 100, 101, 102] }) (some (.int .u8 ((c.toNat : Int) / 16))) (some (.int .u8 ((c.toNat : Int) / 16 + 1))) none).run Try.prog w = .ok (.string ⟨[hexB (c.toNat / 16)].toArray⟩) w := fun w => by
                have := hex_slice (c.toNat / 16) (by omega) w
                rw [Int.natCast_ediv] at this
                exact this
              have hx2 : ∀ w, (Instr.slice 9 (.string { data := #[48, 49, 50, 51, 52, 53, 54, 55, 56, 57, 97, 98, 99, 100, 101, 102] }) (some (.int .u8 ((c.toNat : Int) % 16))) (some (.int .u8 ((c.toNat : Int) % 16 + 1))) none).run Try.prog w = .ok (.string ⟨[hexB (c.toNat % 16)].toArray⟩) w := fun w => by
                have := hex_slice (c.toNat % 16) (by omega) w
                rw [Int.natCast_emod] at this
                exact this
              go_wp2
              go_quiet (fail)
              go_wp2
              go_roundw
              case rel => exact ⟨k + 1, by omega, by go_num, by rw [HE.out, HX.out, str_cat, str_cat, str_cat]; simp, below_drewN hb _⟩
              case measure => simp [intOf]; omega
            · have h5 : 33 ≤ c.toNat := by omega
              have h6 : 126 < c.toNat := by omega
              clear h3 h4
              have hx1 : ∀ w, (Instr.slice 9 (.string { data := #[48, 49, 50, 51, 52, 53, 54, 55, 56, 57, 97, 98, 99, 100, 101, 102] }) (some (.int .u8 ((c.toNat : Int) / 16))) (some (.int .u8 ((c.toNat : Int) / 16 + 1))) none).run Try.prog w = .ok (.string ⟨[hexB (c.toNat / 16)].toArray⟩) w := fun w => by
                have := hex_slice (c.toNat / 16) (by omega) w
                rw [Int.natCast_ediv] at this
                exact this
              have hx2 : ∀ w, (Instr.slice 9 (.string { data := #[48, 49, 50, 51, 52, 53, 54, 55, 56, 57, 97, 98, 99, 100, 101, 102] }) (some (.int .u8 ((c.toNat : Int) % 16))) (some (.int .u8 ((c.toNat : Int) % 16 + 1))) none).run Try.prog w = .ok (.string ⟨[hexB (c.toNat % 16)].toArray⟩) w := fun w => by
                have := hex_slice (c.toNat % 16) (by omega) w
                rw [Int.natCast_emod] at this
                exact this
              go_wp2
              go_quiet (fail)
              go_wp2
              go_roundw
              case rel => exact ⟨k + 1, by omega, by go_num, by rw [HE.out, HX.out, str_cat, str_cat, str_cat]; simp, below_drewN hb _⟩
              case measure => simp [intOf]; omega
    · obtain rfl : k = s.size := by omega
      go_wp2
      go_ret
      exact ⟨by rw [List.take_of_length_le (by simp)]; rfl, hb⟩

end Go.Proofs.Ytgjngnignjbdlaa

/-
  Chapter 1: contracts of MaskOf, in the program and in its model.
-/
import Derived.Test.YtglldmfhjipacaaL1Alike
namespace Go.Proofs.Ytglldmfhjipacaa
open Go.RowKit
set_option linter.unusedVariables false
set_option maxRecDepth 100000

theorem pow_pos (k : Nat) : (0 : Int) ≤ 2 ^ k := by
  have : (0 : Int) < 2 ^ k := Int.pow_pos (by decide)
  omega
theorem pow_small (k : Nat) (h : k ≤ 20) : (2 : Int) ^ k ≤ 1048576 := by
  have h1 : (2 : Nat) ^ k ≤ 2 ^ 20 := Nat.pow_le_pow_right (by decide) h
  have h2 : ((2 ^ k : Nat) : Int) = (2 : Int) ^ k := by simp
  omega
theorem wraps_i64 (n : Int) (h₀ : 0 ≤ n) (h₁ : n < 2 ^ 62) : IntKind.i64.wrap n = n := by rw [IntKind.wrap_i64]; omega
theorem or_pow (m k : Nat) (hk : k ≤ 20) (h : m < 2 ^ k) : bits .or .i64 (m : Int) (2 ^ k) = (m : Int) + 2 ^ k := by
  have h1 : (2 : Nat) ^ k ≤ 2 ^ 20 := Nat.pow_le_pow_right (by decide) hk
  have h2 : ((2 ^ k : Nat) : Int) = (2 : Int) ^ k := by simp
  have := (bits_nat .i64 62 (by decide) wraps_i64 m (2 ^ k) (by omega) (by omega)).2
  rw [h2] at this
  rw [this, Nat.or_comm]
  have h3 := Nat.two_pow_add_eq_or_of_lt h 1
  rw [Nat.mul_one] at h3
  rw [← h3]; simp; omega
theorem byteAt_eq (p : ByteArray) (k : Nat) (h : k < p.size) : byteAt p k = p[k] := by
  unfold byteAt
  have hl : k < p.data.toList.length := by rw [Array.length_toList]; exact h
  rw [List.getD_eq_getElem?_getD, List.getElem?_eq_getElem hl]; rfl
theorem byteAt_foldS (p : ByteArray) (k : Nat) (h : k < p.size) : byteAt (foldS p) k = foldB (byteAt p k) := by
  unfold byteAt foldS foldL
  have hl : k < p.data.toList.length := by rw [Array.length_toList]; exact h
  simp [List.getElem?_eq_getElem hl]
theorem maskG_plain (p : ByteArray) (b : Int) (k : Nat) (h : k < p.size) : maskG p false b k = ((p[k].toNat : Int) == b) := by
  unfold maskG eqI; rw [byteAt_eq p k h]; rfl
theorem maskG_fold (p : ByteArray) (b : Int) (k : Nat) (h : k < (foldS p).size) : maskG p true b k = (((foldS p)[k].toNat : Int) == foldI b) := by
  have h' : k < p.size := by rw [foldS_size] at h; exact h
  rw [← byteAt_eq (foldS p) k h, byteAt_foldS p k h', foldB_toNat]; rfl

set_option maxHeartbeats 1000000 in
theorem impl_maskOf (p : ByteArray) (f : Bool) (b : Int) (w : World) (hp : p.size ≤ 9223372036854775807) :
    Calls Try.prog 148 #[.string p, .bool f, .int .i64 b] w fun e w' => e = .returned (.int .i64 (maskI p f b)) ∧ Below w.heap.size w w' := by
  by_cases hl : p.size ≤ 20
  · by_cases h0 : 0 ≤ b
    · by_cases h1 : b ≤ 255
      · cases f
        · have HM := Lib.hid (show maskI p false b = (maskTo (maskG p false b) p.size : Int) by unfold maskI; rw [if_pos ⟨hl, h0, h1⟩])
          go_enter Try.func148, Try.ntmps148
          go_wp2
          go_loopw [7, 24] (fun m i wr => ∃ k : Nat, k ≤ p.size ∧ i = .int .i64 k ∧ m = .int .i64 (maskTo (maskG p false b) k) ∧ Below w.heap.size w wr)
            (fun _ i _ => p.size - (intOf i).toNat)
          case atStart => exact ⟨0, by omega, rfl, rfl, Below.refl _ _⟩
          case round =>
            obtain ⟨k, hk, rfl, rfl, hb⟩ := hrel
            by_cases hlt : k < p.size
            · have hc := p[k].toNat_lt
              have hm := maskTo_lt (maskG p false b) k
              have h2 := pow_small k (by omega)
              have h3 := pow_pos k
              cases hg : maskG p false b k
              · have HG := Lib.hid (show maskTo (maskG p false b) (k + 1) = maskTo (maskG p false b) k by simp [maskTo, hg])
                have ht := (maskG_plain p b k hlt).symm.trans hg
                clear hg
                go_wp2
                go_roundw
                case rel => exact ⟨k + 1, by omega, by go_num, by rw [HG.out], hb⟩
                case measure => simp [intOf]; omega
              · have HG := Lib.hid (show maskTo (maskG p false b) (k + 1) = maskTo (maskG p false b) k + 2 ^ k by simp [maskTo, hg])
                have HO := Lib.hid (or_pow (maskTo (maskG p false b) k) k (by omega) hm)
                have ht := (maskG_plain p b k hlt).symm.trans hg
                clear hg
                go_wp2
                go_roundw
                case rel => exact ⟨k + 1, by omega, by go_num, by rw [HG.out, HO.out, Int.natCast_add, Int.natCast_pow]; rfl, hb⟩
                case measure => simp [intOf]; omega
            · obtain rfl : k = p.size := by omega
              go_wp2
              go_ret
              exact ⟨by rw [HM.out]; rfl, hb⟩
        · have HM := Lib.hid (show maskI p true b = (maskTo (maskG p true b) (foldS p).size : Int) by unfold maskI; rw [if_pos ⟨hl, h0, h1⟩, foldS_size])
          have hfo := foldI_byte b h0 h1
          have hfs : (foldS p).size ≤ 20 := by rw [foldS_size]; exact hl
          have HF := Lib.hid (show foldOfI b = foldI b by unfold foldOfI; rw [if_pos ⟨h0, h1⟩])
          go_enter Try.func148, Try.ntmps148
          go_wp2_with (first | (go_at_call 106; refine (impl_folded _ _ (by omega)).mono ?_; rintro e w1 ⟨rfl, hb1⟩) | (go_at_call 107; refine (impl_foldOf _ _).mono ?_; rintro e w2 ⟨rfl, hb2⟩; rw [HF.out]) | go_in)
          go_loopw [7, 24] (fun m i wr => ∃ k : Nat, k ≤ (foldS p).size ∧ i = .int .i64 k ∧ m = .int .i64 (maskTo (maskG p true b) k) ∧ Below w.heap.size w wr)
            (fun _ i _ => (foldS p).size - (intOf i).toNat)
          case atStart => exact ⟨0, by omega, rfl, rfl, below_step hb1 hb2⟩
          case round =>
            obtain ⟨k, hk, rfl, rfl, hb⟩ := hrel
            by_cases hlt : k < (foldS p).size
            · have hc := (foldS p)[k].toNat_lt
              have hm := maskTo_lt (maskG p true b) k
              have h2 := pow_small k (by omega)
              have h3 := pow_pos k
              cases hg : maskG p true b k
              · have HG := Lib.hid (show maskTo (maskG p true b) (k + 1) = maskTo (maskG p true b) k by simp [maskTo, hg])
                have ht := (maskG_fold p b k hlt).symm.trans hg
                clear hg
                go_wp2
                go_roundw
                case rel => exact ⟨k + 1, by omega, by go_num, by rw [HG.out], hb⟩
                case measure => simp [intOf]; omega
              · have HG := Lib.hid (show maskTo (maskG p true b) (k + 1) = maskTo (maskG p true b) k + 2 ^ k by simp [maskTo, hg])
                have HO := Lib.hid (or_pow (maskTo (maskG p true b) k) k (by omega) hm)
                have ht := (maskG_fold p b k hlt).symm.trans hg
                clear hg
                go_wp2
                go_roundw
                case rel => exact ⟨k + 1, by omega, by go_num, by rw [HG.out, HO.out, Int.natCast_add, Int.natCast_pow]; rfl, hb⟩
                case measure => simp [intOf]; omega
            · obtain rfl : k = (foldS p).size := by omega
              go_wp2
              go_ret
              exact ⟨by rw [HM.out]; rfl, hb⟩
      · have H := Lib.hid (show maskI p f b = 0 by unfold maskI; rw [if_neg (by omega)])
        go_enter Try.func148, Try.ntmps148
        go_wp2
        go_ret
        exact ⟨by rw [H.out]; rfl, Below.refl _ _⟩
    · have H := Lib.hid (show maskI p f b = 0 by unfold maskI; rw [if_neg (by omega)])
      go_enter Try.func148, Try.ntmps148
      go_wp2
      go_ret
      exact ⟨by rw [H.out]; rfl, Below.refl _ _⟩
  · have H := Lib.hid (show maskI p f b = 0 by unfold maskI; rw [if_neg (by omega)])
    go_enter Try.func148, Try.ntmps148
    go_wp2
    go_ret
    exact ⟨by rw [H.out]; rfl, Below.refl _ _⟩

set_option maxHeartbeats 400000 in
theorem spec_l1Mask (p : ByteArray) (f : Bool) (b : Int) (w : World) (hl : p.size ≤ 20) (h0 : 0 ≤ b) (h1 : b ≤ 255) :
    Calls Try.prog 120 #[.string p, .bool f, .int .u8 b] w fun e w' => e = .returned (.int .i64 (maskTo (maskG p f b) p.size)) ∧ Below w.heap.size w w' := by
  go_enter Try.func120, Try.ntmps120
  go_wp2
  go_loopw [7, 8] (fun m i wr => ∃ k : Nat, k ≤ p.size ∧ i = .int .i64 k ∧ m = .int .i64 (maskTo (maskG p f b) k) ∧ Below w.heap.size w wr)
    (fun _ i _ => p.size - (intOf i).toNat)
  case atStart => exact ⟨0, by omega, rfl, rfl, Below.refl _ _⟩
  case round =>
    obtain ⟨k, hk, rfl, rfl, hb⟩ := hrel
    by_cases hlt : k < p.size
    · have hc := p[k].toNat_lt
      have hm := maskTo_lt (maskG p f b) k
      have hm' : ((maskTo (maskG p f b) k : Nat) : Int) < 2 ^ k := by have : ((2 ^ k : Nat) : Int) = (2 : Int) ^ k := by simp
                                                                      omega
      have h2 := pow_small k (by omega)
      have h3 := pow_pos k
      have hbe : maskG p f b k = eqI p[k].toNat b f := by unfold maskG; rw [byteAt_eq p k hlt]
      cases hg : maskG p f b k
      · have HG := Lib.hid (show maskTo (maskG p f b) (k + 1) = maskTo (maskG p f b) k by simp [maskTo, hg])
        have ht := hbe.symm.trans hg
        clear hg hbe hm
        go_wp2_with (go_at_call 126; refine (spec_l1Eq _ _ _ _ (by omega) (by omega) (by omega) (by omega)).mono ?_; rintro e w' ⟨rfl, rfl⟩)
        go_roundw
        case rel => exact ⟨k + 1, by omega, by go_num, by rw [HG.out], hb⟩
        case measure => simp [intOf]; omega
      · have HG := Lib.hid (show maskTo (maskG p f b) (k + 1) = maskTo (maskG p f b) k + 2 ^ k by simp [maskTo, hg])
        have ht := hbe.symm.trans hg
        clear hg hbe hm
        go_wp2_with (go_at_call 126; refine (spec_l1Eq _ _ _ _ (by omega) (by omega) (by omega) (by omega)).mono ?_; rintro e w' ⟨rfl, rfl⟩)
        go_roundw
        case rel => exact ⟨k + 1, by omega, by go_num, by rw [HG.out, Int.natCast_add, Int.natCast_pow]; rfl, hb⟩
        case measure => simp [intOf]; omega
    · obtain rfl : k = p.size := by omega
      go_wp2
      go_ret
      exact ⟨rfl, hb⟩

end Go.Proofs.Ytglldmfhjipacaa

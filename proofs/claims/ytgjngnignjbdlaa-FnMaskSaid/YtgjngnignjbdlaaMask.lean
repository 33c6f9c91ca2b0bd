/-
  FnMask: the walk.
-/
import Derived.Test.YtgjngnignjbdlaaL1Draw
import Derived.Test.YtgjngnignjbdlaaL1Mask
import Derived.Deep.RegionWith
import Derived.Deep.RegionLaw
import Derived.BigRegion
namespace Go.Proofs.Ytgjngnignjbdlaa
open Go.RowKit
set_option linter.unusedVariables false
theorem mask_bit (g : Nat → Bool) (n k : Nat) (h : k < n) : maskTo g n / 2 ^ k % 2 = if g k then 1 else 0 := by
  induction n with
  | zero => omega
  | succ n ih =>
    have hp : 0 < 2 ^ k := Nat.two_pow_pos k
    by_cases hk : k = n
    · subst hk
      have hm := maskTo_lt g k
      simp only [maskTo]
      cases g k
      · simp [Nat.div_eq_of_lt hm]
      · simp only [if_true]
        rw [Nat.add_div_right _ hp, Nat.div_eq_of_lt hm]
    · have h2 : k < n := by omega
      rw [← ih h2]
      simp only [maskTo]
      cases g n
      · simp
      · simp only [if_true]
        have e : 2 ^ n = 2 ^ k * (2 * 2 ^ (n - k - 1)) := by
          rw [← Nat.pow_succ', ← Nat.pow_add]; congr 1; omega
        rw [e, Nat.add_mul_div_left _ _ hp]
        omega
theorem alike_one (c B : UInt8) (f : Bool) : alikeS ⟨[c].toArray⟩ ⟨[B].toArray⟩ f = eqI c.toNat B.toNat f := by
  rw [eqI_foldB]
  unfold alikeS
  cases f
  · simp only [Bool.false_eq_true, if_false]; rw [Bool.eq_iff_iff]; simp
  · simp only [if_true]; rw [Bool.eq_iff_iff]; simp [foldL]
set_option maxHeartbeats 2000000 in
theorem law_FnMask (a : Option Addr) (len cap : Nat) (z : List Int) (w : World) (hr : IsRow .u8 w a len cap z) :
    Calls Try.prog 5 #[.slice a len cap] w fun e w' => e = .returned (.bool true) ∧ Below w.heap.size w w' := by
  by_cases hl : len ≤ 1048576
  · have hbig : decide ((1048576 : Int) < (len : Int)) = false := by simp; omega
    go_enter Try.func5, Try.ntmps5
    go_wp2_with (go_at_call 8; go_in)
    refine (drawMaskOf _ _ _ _ _ hr hl).mono ?_
    rintro e w1 ⟨p, f, b, rfl, hs, hbb, hb1⟩
    go_wp2_with fail
    refine (impl_maskOf _ _ _ _ (by omega)).mono ?_
    rintro e w2 ⟨rfl, hb2⟩
    have hB2 := below_step hb1 hb2
    clear hb1 hb2
    have e0 : (maskI p f b != maskI p f b) = false := by simp
    have e1 : (maskI p f b == maskI p f b) = true := by simp
    by_cases h0 : 0 ≤ b
    · by_cases h1 : b ≤ 255
      · obtain ⟨B, rfl⟩ : ∃ B : UInt8, b = (B.toNat : Int) := ⟨UInt8.ofNat b.toNat, by rw [UInt8.toNat_ofNat']; omega⟩
        generalize hbe : (B.toNat : Int) = b at *
        have HM := Lib.hid (show maskI p f b = (maskTo (maskG p f b) p.size : Int) by unfold maskI; rw [if_pos ⟨by omega, h0, h1⟩])
        have d0 : decide (b < 0) = false := by simp; omega
        have d1 : decide (255 < b) = false := by simp; omega
        have d2 : decide ((20 : Int) < (p.size : Int)) = false := by simp; omega
        go_wp2_with (go_at_call 20; refine (spec_maskOf _ _ _ _ (by omega)).mono ?_; rintro e w3 ⟨rfl, hb3⟩)
        have hB3 := below_step hB2 hb3
        clear hB2 hb3 e0 e1
        obtain ⟨M, hM⟩ : ∃ M, maskTo (maskG p f b) p.size = M := ⟨_, rfl⟩
        have hm : M < 2 ^ p.size := by rw [← hM]; exact maskTo_lt _ _
        have hm20 : M < 1048576 := Nat.lt_of_lt_of_le hm (by have := Nat.pow_le_pow_right (n := 2) (by decide) (show p.size ≤ 20 by omega); omega)
        rw [show maskI p f b = (M : Int) by rw [HM.out, hM]]
        have HMM := Lib.hid hM; clear hM
        go_loopw [7] (fun i wr => ∃ k : Nat, k ≤ p.size ∧ i = .int .i64 k ∧ Below w.heap.size w wr)
          (fun i _ => p.size - (intOf i).toNat)
        case atStart => exact ⟨0, by omega, rfl, hB3⟩
        case round =>
          obtain ⟨k, hk, rfl, hbr⟩ := hrel
          by_cases hlt : k < p.size
          · have hsl := one_slice p k hlt
            obtain ⟨c, hc⟩ : ∃ c : UInt8, p[k] = c := ⟨_, rfl⟩
            rw [hc] at hsl
            have hcl := c.toNat_lt
            go_wp2_with fail
            have hw1 : IntKind.i64.wrap ((k : Int) + 1) = (k : Int) + 1 := IntWalk.i64_in _ (by omega)
            have hw2 : ((k : Int) + 1).toNat = k + 1 := by omega
            have hw3 : IntKind.u8.wrap b = b := by rw [IntKind.wrap_u8]; omega
            have hw4 : (0 : Int) ≤ (k : Int) + 1 := by omega
            have hw5 : (k : Int) + 1 ≤ (p.size : Int) := by omega
            have hw6 : (k : Int) ≤ (k : Int) + 1 := by omega
            have hw7 : IntKind.u64.wrap (k : Int) = (k : Int) := by rw [IntKind.wrap_u64]; omega
            have hcv := run_convert_bytes_back (P := Try.prog) (wr.alloc (.cells #[.int .u8 b] 5)).drew 22 9 5 ⟨wr.heap.size, 0, none⟩ 1 [B] Try.underlying22 Try.underlying5 Try.underlying9 (fun j hj => by
              have hj0 : j = 0 := by simpa using hj
              subst hj0
              rw [addr_add0]
              show (wr.alloc (.cells #[.int .u8 b] 5)).cell? _ = _
              rw [World.cell?_alloc_new]
              show some _ = some _
              rw [← hbe]; rfl)
            have hlen1 : [B].length = 1 := rfl
            rw [hlen1] at hcv
            have ht : (((M : Int) / 2 ^ k % 2 == 1) != alikeS ⟨[c].toArray⟩ ⟨[B].toArray⟩ f) = false := by
              have h1 := mask_bit (maskG p f b) p.size k hlt
              rw [HMM.out] at h1
              have h2 : maskG p f b k = eqI c.toNat B.toNat f := by unfold maskG; rw [byteAt_eq p k hlt, hc, hbe]
              rw [alike_one, ← h2]
              have h3 : ((M / 2 ^ k % 2 : Nat) : Int) = (M : Int) / 2 ^ k % 2 := by simp
              rw [← h3, h1]
              cases maskG p f b k <;> rfl
            have ht2 : (!((((M : Int) / 2 ^ k).tmod 2 == 1) == alikeS ⟨[c].toArray⟩ ⟨[B].toArray⟩ f)) = false := by
              have h4 : ((M : Int) / 2 ^ k).tmod 2 = (M : Int) / 2 ^ k % 2 := Int.tmod_eq_emod_of_nonneg (Int.ediv_nonneg (by omega) (Int.le_of_lt (Int.pow_pos (by decide))))
              rw [h4]
              revert ht
              cases ((M : Int) / 2 ^ k % 2 == 1) <;> cases alikeS ⟨[c].toArray⟩ ⟨[B].toArray⟩ f <;> decide
            have hs1 : ((⟨[c].toArray⟩ : ByteArray)).size ≤ 140737488351232 := by show [c].toArray.size ≤ _; simp
            have hs2 : ((⟨[B].toArray⟩ : ByteArray)).size ≤ 140737488351232 := by show [B].toArray.size ≤ _; simp
            have HBE := Lib.hid hbe; clear hbe hlen1
            go_region_law ((go_simp; go_at_call 16; refine (impl_alike _ _ _ _ hs1 hs2).mono ?_; rintro e w4 ⟨rfl, hb4⟩))
            have hB4 := ((hbr.alloc hbr.size (.cells #[.int .u8 b] 5)).drew).trans (hb4.mono (by have := hbr.size; simp; omega))
            clear hb4 hcv
            go_wp2
            go_roundw
            case rel => exact ⟨k + 1, by omega, by go_num, hB4⟩
            case measure => simp [intOf]; omega
          · obtain rfl : k = p.size := by omega
            have hend : ((M : Int) / 2 ^ p.size == 0) = true := by
              have h1 := Nat.div_eq_of_lt hm
              have h2 : ((M / 2 ^ p.size : Nat) : Int) = (M : Int) / 2 ^ p.size := by simp
              rw [← h2, h1]; rfl
            go_wp2
            go_ret
            exact ⟨rfl, hbr⟩
      · have d1 : decide (255 < b) = true := by simp; omega
        go_wp2_with (go_at_call 20; refine (spec_maskOf _ _ _ _ (by omega)).mono ?_; rintro e w3 ⟨rfl, hb3⟩; have HB1 : Below w.heap.size w w3 := below_step (by repeat (first | exact Below.refl _ _ | assumption | (refine Below.drew ?_) | (refine below_drewN ?_ _) | (refine Below.alloc ?_ (by first | (simp; done) | (simp; omega)) _) | (refine Below.setCell ?_ (by first | (simp; done) | (simp; omega)) _))) hb3)
        go_ret
        exact ⟨rfl, HB1⟩
    · have d0 : decide (b < 0) = true := by simp; omega
      go_wp2_with (go_at_call 20; refine (spec_maskOf _ _ _ _ (by omega)).mono ?_; rintro e w3 ⟨rfl, hb3⟩; have HB1 : Below w.heap.size w w3 := below_step (by repeat (first | exact Below.refl _ _ | assumption | (refine Below.drew ?_) | (refine below_drewN ?_ _) | (refine Below.alloc ?_ (by first | (simp; done) | (simp; omega)) _) | (refine Below.setCell ?_ (by first | (simp; done) | (simp; omega)) _))) hb3)
      go_ret
      exact ⟨rfl, HB1⟩
  · go_enter Try.func5, Try.ntmps5
    go_wp2
    go_ret
    exact ⟨rfl, Below.refl _ _⟩
end Go.Proofs.Ytgjngnignjbdlaa

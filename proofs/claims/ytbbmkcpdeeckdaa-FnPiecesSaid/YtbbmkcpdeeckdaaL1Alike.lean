/-
  Chapter 1: contracts of Alike, in the program and in its model.
-/
import Derived.Test.YtbbmkcpdeeckdaaL1Folded
import Derived.Outline
namespace Go.Proofs.Ytbbmkcpdeeckdaa
open Go.RowKit
set_option linter.unusedVariables false
set_option maxRecDepth 100000
theorem spec_l1Eq (x y : Int) (f : Bool) (w : World) (h0 : 0 ≤ x) (h1 : x ≤ 255) (h2 : 0 ≤ y) (h3 : y ≤ 255) :
    Calls Try.prog 143 #[.int .u8 x, .int .u8 y, .bool f] w fun e w' => e = .returned (.bool (eqI x y f)) ∧ w = w' := by
  cases f
  · go_enter Try.func143, Try.ntmps143
    go_wp2
    go_ret
    exact ⟨rfl, rfl⟩
  · go_enter Try.func143, Try.ntmps143
    go_wp2_with (go_at_call 168; refine (spec_l1Fold _ _ (by omega) (by omega)).mono ?_; rintro e w' ⟨rfl, rfl⟩)
    go_ret
    exact ⟨rfl, rfl⟩

set_option maxHeartbeats 400000 in
theorem spec_alike (a b : ByteArray) (f : Bool) (w : World) (ha : a.size ≤ 140737488351232) (hb : b.size ≤ 140737488351232) :
    Calls Try.prog 160 #[.string a, .string b, .bool f] w fun e w' => e = .returned (.bool (alikeS a b f)) ∧ Below w.heap.size w w' := by
  by_cases hl : a.size = b.size
  · have hl1 : ((a.size : Int) == (b.size : Int)) = true := by simp [hl]
    have hl2 : ((a.size : Int) != (b.size : Int)) = false := by simp [hl]
    have HL := Lib.hid hl; clear hl
    go_enter Try.func160, Try.ntmps160
    go_wp2
    go_loopw [7] (fun i wr => ∃ k : Nat, k ≤ a.size ∧ i = .int .i64 k ∧ alikeTo a b f k ∧ Below w.heap.size w wr)
      (fun i _ => a.size - (intOf i).toNat)
    case atStart => exact ⟨0, by omega, rfl, alikeTo_zero _ _ _, Below.refl _ _⟩
    case round =>
      obtain ⟨k, hk, rfl, hal, hb⟩ := hrel
      have HA := Lib.hid hal; clear hal
      by_cases hlt : k < a.size
      · have hlb : k < b.size := by have := HL.out; omega
        have hca := a[k].toNat_lt
        have hcb := b[k].toNat_lt
        cases he : eqI a[k].toNat b[k].toNat f
        · go_wp2_with fail
          go_quiet ((go_at_call 143; exact quiet_of_eq (spec_l1Eq _ _ _ _ (by omega) (by omega) (by omega) (by omega))))
          go_wp2
          go_ret
          have hn : alikeS a b f = false := by
            cases hq : alikeS a b f
            · rfl
            · exfalso
              have h1 := (alikeTo_succ a b f k hlt hlb).1 (alikeTo_mono a b f (k + 1) a.size (by omega) ((alikeS_all a b f HL.out).2 hq))
              rw [he] at h1; exact absurd h1.2 (by decide)
          exact ⟨by rw [hn]; rfl, below_drewN hb _⟩
        · go_wp2_with fail
          go_quiet ((go_at_call 143; exact quiet_of_eq (spec_l1Eq _ _ _ _ (by omega) (by omega) (by omega) (by omega))))
          go_wp2
          go_roundw
          case rel => exact ⟨k + 1, by omega, by go_num, (alikeTo_succ a b f k hlt hlb).2 ⟨HA.out, he⟩, below_drewN hb _⟩
          case measure => simp [intOf]; omega
      · obtain rfl : k = a.size := by omega
        have H := Lib.hid ((alikeS_all a b f HL.out).1 HA.out)
        go_wp2
        go_ret
        exact ⟨by rw [H.out]; rfl, hb⟩
  · have H := Lib.hid (alikeS_len a b f hl)
    have hl1 : ((a.size : Int) == (b.size : Int)) = false := by simp; omega
    have hl2 : ((a.size : Int) != (b.size : Int)) = true := by simp; omega
    clear hl
    go_enter Try.func160, Try.ntmps160
    go_wp2
    go_ret
    exact ⟨by rw [H.out]; rfl, Below.refl _ _⟩

end Go.Proofs.Ytbbmkcpdeeckdaa

/-
  The marks' texts: the contract of the laws' own function.
-/
import Derived.Test.YtpniiaemgobaiaaL2Pat
import Derived.Test.YtpniiaemgobaiaaInts
import Derived.Deep.RegionWith
import Derived.Deep.RegionLaw
import Derived.BigRegion
import Derived.BigQuiet
namespace Go.Proofs.Ytpniiaemgobaiaa
open Go.RowKit
set_option linter.unusedVariables false
set_option maxRecDepth 100000
def digB (j : Nat) : UInt8 := UInt8.ofNat (48 + j % 10)
/-- the digits of j in front of out -/
def digT (j : Nat) (out : ByteArray) : ByteArray := if h : j = 0 then out else digT (j / 10) (⟨#[digB j]⟩ ++ out)
termination_by j
decreasing_by omega
def markS (k : Int) : ByteArray := if k ≤ 0 then ⟨#[109, 48]⟩ else ⟨#[109]⟩ ++ digT k.toNat ⟨#[]⟩
theorem digT_zero (out : ByteArray) : digT 0 out = out := by rw [digT]; simp
theorem digT_pos {j : Nat} (h : 0 < j) (out : ByteArray) : digT j out = digT (j / 10) (⟨#[digB j]⟩ ++ out) := by
  rw [digT]; simp [show j ≠ 0 by omega]
theorem digB_int (j : Nat) : ((digB j).toNat : Int) = 48 + (j : Int) % 10 := by
  unfold digB; rw [UInt8.toNat_ofNat']; omega
theorem pow_step (j r : Nat) (h : j < 10 ^ (20 - r)) (hj : 0 < j) (hr : r ≤ 20) : r + 1 ≤ 20 ∧ j / 10 < 10 ^ (20 - (r + 1)) := by
  by_cases h1 : r = 20
  · subst h1; simp at h; omega
  · refine ⟨by omega, ?_⟩
    have : 10 ^ (20 - r) = 10 ^ (20 - (r + 1)) * 10 := by rw [← Nat.pow_succ]; congr 1; omega
    rw [this] at h
    exact Nat.div_lt_of_lt_mul (by rw [Nat.mul_comm]; exact h)
theorem digT_size (j r : Nat) : ∀ (out : ByteArray), out.size = r → r ≤ 20 → j < 10 ^ (20 - r) → (digT j out).size ≤ 20 := by
  induction j using Nat.strongRecOn generalizing r with
  | _ j ih =>
    intro out ho hr hj
    by_cases h : j = 0
    · subst h; rw [digT_zero]; omega
    · have hp := pow_step j r hj (by omega) hr
      rw [digT_pos (by omega)]
      exact ih (j / 10) (by omega) (r + 1) _ (by rw [ByteArray.size_append, ho]; show 1 + r = _; omega) hp.1 hp.2
theorem markS_size (k : Int) (hk : k ≤ 9223372036854775807) : (markS k).size ≤ 21 := by
  unfold markS
  split
  · decide
  · rw [ByteArray.size_append]
    have := digT_size k.toNat 0 ⟨#[]⟩ rfl (by omega) (by show _ < 10 ^ 20; omega)
    show 1 + _ ≤ 21
    omega
set_option maxHeartbeats 2000000 in
theorem laws_markText (k : Int) (w : World) (hk : k ≤ 9223372036854775807) :
    Calls Try.prog 50 #[.int .i64 k] w fun e w' => e = .returned (.string (markS k)) ∧ Below w.heap.size w w' := by
  by_cases h0 : k ≤ 0
  · have hm : markS k = ⟨#[109, 48]⟩ := by unfold markS; rw [if_pos h0]
    go_enter Try.func50, Try.ntmps50
    go_wp2
    go_ret
    exact ⟨by rw [hm]; rfl, (by repeat (first | exact Below.refl _ _ | assumption | (refine Below.drew ?_) | (refine below_drewN ?_ _) | (refine Below.alloc ?_ (by first | omega | (simp; done) | (simp; omega)) _) | (refine Below.setCell ?_ (by first | omega | (simp; done) | (simp; omega)) _)))⟩
  · obtain ⟨K, rfl⟩ := Int.eq_ofNat_of_zero_le (show 0 ≤ k by omega)
    have hm : markS (K : Int) = ⟨#[109]⟩ ++ digT K ⟨#[]⟩ := by unfold markS; rw [if_neg h0]; rfl
    have hs0 := markS_size (K : Int) hk
    have HM := Lib.hid hm; clear hm
    have HS := Lib.hid hs0; clear hs0
    have hK : 0 < K := by omega
    go_enter Try.func50, Try.ntmps50
    go_wp2
    go_loopw [0, 3] (fun k o wr => ∃ (j r : Nat) (out : ByteArray), k = .int .i64 j ∧ o = .string out ∧ j ≤ K ∧ out.size = r ∧ r ≤ 20 ∧ j < 10 ^ (20 - r) ∧ digT j out = digT K ⟨#[]⟩ ∧ Below w.heap.size w wr)
      (fun k _ _ => (intOf k).toNat)
    case atStart => exact ⟨K, 0, _, rfl, rfl, Nat.le_refl _, rfl, by omega, by show _ < 10 ^ 20; omega, rfl, (by repeat (first | exact Below.refl _ _ | assumption | (refine Below.drew ?_) | (refine below_drewN ?_ _) | (refine Below.alloc ?_ (by first | omega | (simp; done) | (simp; omega)) _) | (refine Below.setCell ?_ (by first | omega | (simp; done) | (simp; omega)) _)))⟩
    case round =>
      obtain ⟨j, r, out, rfl, rfl, hjK, hr, hr20, hjp, hd, hb⟩ := hrel
      by_cases hj : 0 < j
      · have hp := pow_step j r hjp hj hr20
        rw [digT_pos hj] at hd
        have HD := Lib.hid hd; have HP := Lib.hid hp; have HR := Lib.hid hr; clear hd hp hjp
        have hos : out.size ≤ 20 := by omega
        clear hr
        have t1 : (j : Int).tmod 10 = (j : Int) % 10 := Int.tmod_eq_emod_of_nonneg (by omega)
        have t2 : (j : Int).tdiv 10 = (j : Int) / 10 := Int.tdiv_eq_ediv_of_nonneg (by omega)
        have hB := digB_int j
        generalize digB j = B at *
        have hlen1 : [B].length = 1 := rfl
        have hcv := run_convert_bytes_back (P := Try.prog) (wr.alloc (.cells #[.int .u8 (48 + (j : Int) % 10)] 5)) 60 9 5 ⟨wr.heap.size, 0, none⟩ 1 [B] Try.underlying60 Try.underlying5 Try.underlying9 (fun j hj => by
          have hj0 : j = 0 := by simpa using hj
          subst hj0
          rw [addr_add0, World.cell?_alloc_new]
          show some _ = some _
          rw [← hB]; rfl)
        rw [hlen1] at hcv
        go_wp2
        go_roundw
        case rel => exact ⟨j / 10, r + 1, ⟨#[B]⟩ ++ out, by go_num, rfl, by omega, (by rw [ByteArray.size_append, HR.out]; show 1 + r = _; omega), HP.out.1, HP.out.2, HD.out, hb.alloc hb.size _⟩
        case measure => simp [intOf]; omega
      · obtain rfl : j = 0 := by omega
        rw [digT_zero] at hd
        subst hd
        go_wp2
        go_ret
        exact ⟨by rw [HM.out]; rfl, hb⟩
end Go.Proofs.Ytpniiaemgobaiaa

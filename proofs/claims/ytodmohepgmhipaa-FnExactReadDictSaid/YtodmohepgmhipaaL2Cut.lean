/-
  Chapter 2: texts cut at a byte, in the program and in its model.
-/
import Derived.Test.YtodmohepgmhipaaL2Spec
namespace Go.Proofs.Ytodmohepgmhipaa
open Go.RowKit
set_option linter.unusedVariables false
set_option maxRecDepth 100000
/-- the place of the first such byte; the text's length: there is none -/
def cutI (s : ByteArray) (c : Nat) : Nat := s.data.toList.findIdx (fun b => b.toNat == c)
theorem cutI_le (s : ByteArray) (c : Nat) : cutI s c ≤ s.size := by
  have h := List.findIdx_le_length (xs := s.data.toList) (p := fun b => b.toNat == c)
  rw [Array.length_toList] at h
  exact h
theorem cutI_at (s : ByteArray) (c k : Nat) (hk : k < s.size) (h1 : s[k].toNat = c) (h2 : ∀ i (h : i < k), (s[i]'(by omega)).toNat ≠ c) : cutI s c = k := by
  unfold cutI
  have hl : k < s.data.toList.length := by rw [Array.length_toList]; exact hk
  rw [List.findIdx_eq hl]
  refine ⟨?_, fun j hj => ?_⟩
  · have : s.data.toList[k] = s[k] := by rw [Array.getElem_toList]; rfl
    rw [this]; simpa using h1
  · have : s.data.toList[j] = s[j] := by rw [Array.getElem_toList]; rfl
    rw [this]; simpa using h2 j hj
theorem cutI_none (s : ByteArray) (c : Nat) (h : ∀ i (h : i < s.size), (s[i]).toNat ≠ c) : cutI s c = s.size := by
  unfold cutI
  have : ∀ x ∈ s.data.toList, (fun b : UInt8 => b.toNat == c) x = false := by
    intro x hx
    obtain ⟨i, hi, rfl⟩ := List.getElem_of_mem hx
    have hi2 : i < s.size := by rw [Array.length_toList] at hi; exact hi
    have e : s.data.toList[i] = s[i] := by rw [Array.getElem_toList]; rfl
    rw [e]; simpa using h i hi2
  rw [List.findIdx_eq_length_of_false this, Array.length_toList]
  rfl
theorem extract_all (s : ByteArray) : s.extract 0 s.size = s := by simp
theorem extract_past (s : ByteArray) : s.extract (s.size + 1) s.size = ⟨#[]⟩ := by
  rw [extract_drop, List.drop_of_length_le (by rw [Array.length_toList]; exact Nat.le_succ _)]
def cutA (s : ByteArray) (c : Nat) : ByteArray := s.extract 0 (cutI s c)
def cutB (s : ByteArray) (c : Nat) : ByteArray := s.extract (cutI s c + 1) s.size
def cutF (s : ByteArray) (c : Nat) : Bool := decide (cutI s c < s.size)
theorem cut_at (s : ByteArray) (c k : Nat) (hk : k < s.size) (h1 : s[k].toNat = c) (h2 : ∀ i (h : i < k), (s[i]'(by omega)).toNat ≠ c) : cutA s c = s.extract 0 k ∧ cutB s c = s.extract (k + 1) s.size ∧ cutF s c = true := by
  unfold cutA cutB cutF
  rw [cutI_at s c k hk h1 h2]
  exact ⟨rfl, rfl, by simpa using hk⟩
theorem cut_none (s : ByteArray) (c : Nat) (h : ∀ i (h : i < s.size), (s[i]).toNat ≠ c) : cutA s c = s ∧ cutB s c = ⟨#[]⟩ ∧ cutF s c = false := by
  unfold cutA cutB cutF
  rw [cutI_none s c h]
  exact ⟨extract_all s, extract_past s, by simp⟩
set_option maxHeartbeats 400000 in
theorem spec_l1Cut (s : ByteArray) (c : Nat) (hc : c < 256) (w : World) (hs : s.size ≤ 1073741824) :
    Calls Try.prog 44 #[.string s, .int .u8 c] w fun e w' => e = .returned (.tuple #[.string (cutA s c), .string (cutB s c), .bool (cutF s c)]) ∧ Below w.heap.size w w' := by
  go_enter Try.func44, Try.ntmps44
  go_wp2
  go_loopw [7] (fun i wr => ∃ k : Nat, k ≤ s.size ∧ i = .int .i64 k ∧ (∀ j (h : j < k) (h2 : j < s.size), (s[j]).toNat ≠ c) ∧ w = wr)
    (fun i _ => s.size - (intOf i).toNat)
  case atStart => exact ⟨0, by omega, rfl, fun j hj => by omega, rfl⟩
  case round =>
    obtain ⟨k, hk, rfl, hne, rfl⟩ := hrel
    by_cases hlt : k < s.size
    · obtain ⟨b, hb⟩ : ∃ b : UInt8, s[k] = b := ⟨_, rfl⟩
      by_cases hbc : b.toNat = c
      · obtain ⟨hA, hB, hF⟩ := cut_at s c k hlt (by rw [hb]; exact hbc) (fun i h => hne i h (by omega))
        have hkw : IntKind.i64.wrap ((k : Int) + 1) = (k : Int) + 1 := by rw [IntKind.wrap_i64]; omega
        have hk0 : (0 : Int) ≤ (k : Int) + 1 := by omega
        have hk1 : (k : Int) + 1 ≤ (s.size : Int) := by omega
        have hk2 : k + 1 ≤ s.size := by omega
        clear hne
        subst hbc
        go_wp2
        go_quiet (fail)
        go_wp2
        go_ret3
        exact ⟨by rw [hA, hB, hF]; rfl, below_drewN (Below.refl _ _) _⟩
      · have hbc2 : ((b.toNat : Int) == (c : Int)) = false := by simp; omega
        go_wp2
        go_roundw
        case rel =>
          refine ⟨k + 1, by omega, by go_num, fun j hj h2 => ?_, by first | rfl | trivial⟩
          by_cases hjk : j = k
          · subst hjk; rw [hb]; exact hbc
          · exact hne j (by omega) h2
        case measure => simp [intOf]; omega
    · obtain rfl : k = s.size := by omega
      obtain ⟨hA, hB, hF⟩ := cut_none s c (fun i h => hne i h h)
      clear hne
      go_wp2
      go_ret3
      exact ⟨by rw [hA, hB, hF]; rfl, Below.refl _ _⟩
end Go.Proofs.Ytodmohepgmhipaa

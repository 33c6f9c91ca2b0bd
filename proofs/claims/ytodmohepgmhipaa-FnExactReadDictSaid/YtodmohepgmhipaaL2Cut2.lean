/-
  Chapter 2: strings.Cut at a text of one byte; numbers of lines, in the program and in its model.
-/
import Derived.Test.YtodmohepgmhipaaL2Cut
namespace Go.Proofs.Ytodmohepgmhipaa
open Go.RowKit
set_option linter.unusedVariables false
set_option maxRecDepth 100000
theorem indexByte_findIdx (l : List UInt8) (c : UInt8) : Lib.indexByte l c = if l.findIdx (fun b => b.toNat == c.toNat) < l.length then ((l.findIdx (fun b => b.toNat == c.toNat) : Nat) : Int) else -1 := by
  induction l with
  | nil => rfl
  | cons b l ih =>
    have hx := List.findIdx_le_length (xs := l) (p := fun b => b.toNat == c.toNat)
    rw [Lib.indexByte, List.findIdx_cons]
    by_cases hb : b = c
    · subst hb; simp
    · have h1 : (b == c) = false := by simpa using hb
      have h2 : (b.toNat == c.toNat) = false := by
        simp; intro e; exact hb (UInt8.toNat_inj.1 e)
      simp only [h1, h2, cond_false, Bool.false_eq_true, if_false, List.length_cons]
      rw [ih]
      clear ih hb h1 h2
      generalize l.findIdx (fun b => b.toNat == c.toNat) = m at *
      by_cases hf : m < l.length
      · have h3 : ((m : Int) == -1) = false := beq_eq_false_iff_ne.2 (by omega)
        rw [if_pos hf, h3, if_neg (by simp), if_pos (show m + 1 < l.length + 1 by omega)]; rfl
      · rw [if_neg hf, if_pos (show ((-1 : Int) == -1) = true from rfl), if_neg (show ¬ m + 1 < l.length + 1 by omega)]
theorem indexByte_cut (s : ByteArray) (c : UInt8) : Lib.indexByte s.data.toList c = if cutI s c.toNat < s.size then (cutI s c.toNat : Int) else -1 := by
  rw [indexByte_findIdx, Array.length_toList]; rfl
theorem run_indexAny (s : ByteArray) (b : UInt8) (w : World) : (callFunc 152 #[.string s, .int .u8 (b.toNat : Int)]).run Try.prog w = .ok (.value (.int .i64 (Lib.indexByte s.data.toList b))) w := by
  rw [run_callFunc_extern Try.func152 (by kernel_rfl) (by kernel_rfl) (by kernel_rfl) (e := Extern.BytealgIndexByte.indexByte) (by kernel_rfl), Lib.run_indexByteString]
  have : (b.toNat : Int).toNat.toUInt8 = b := by simp
  rw [this]; rfl
set_option maxHeartbeats 400000 in
theorem slite_cut (s : ByteArray) (c : UInt8) (w : World) (hs : s.size ≤ 1073741824) :
    Calls Try.prog 91 #[.string s, .string ⟨#[c]⟩] w fun e w' => e = .returned (.tuple #[.string (cutA s c.toNat), .string (cutB s c.toNat), .bool (cutF s c.toNat)]) ∧ Below w.heap.size w w' := by
  have hsz : (ByteArray.mk #[c]).size = 1 := rfl
  have hi0 : ∀ h, (ByteArray.mk #[c])[0]'h = c := fun _ => rfl
  by_cases hs1 : s = ⟨#[c]⟩
  · subst hs1
    obtain ⟨hA, hB, hF⟩ := cut_at ⟨#[c]⟩ c.toNat 0 (by show 0 < 1; omega) rfl (fun i h => by omega)
    rw [hA, hB, hF]
    clear hA hB hF
    have h1 : (ByteArray.mk #[c]).extract 0 0 = ⟨#[]⟩ := rfl
    have h2 : (ByteArray.mk #[c]).extract 1 1 = ⟨#[]⟩ := by rw [ByteArray.extract_mk]; rfl
    go_enter Try.func91, Try.ntmps91
    go_wp2_with (go_at_call 126; go_in)
    go_quiet (fail)
    go_wp2
    go_ret3
    exact ⟨by first | rfl | (simp; done), below_drewN (Below.refl _ _) _⟩
  · have hne : ([c] == s.toList) = false := by
      rw [ByteArray.toList_eq]; apply beq_eq_false_iff_ne.2; intro e; apply hs1; apply ByteArray.ext; apply Array.toList_inj.1; exact e.symm
    clear hs1
    have hx := run_indexAny s c
    rw [indexByte_cut] at hx
    by_cases hf : cutI s c.toNat < s.size
    · rw [if_pos hf] at hx
      have hA : cutA s c.toNat = s.extract 0 (cutI s c.toNat) := rfl
      have hB : cutB s c.toNat = s.extract (cutI s c.toNat + 1) s.size := rfl
      have hF : cutF s c.toNat = true := by unfold cutF; simpa using hf
      generalize cutA s c.toNat = A at *
      generalize cutB s c.toNat = B at *
      generalize cutF s c.toNat = F at *
      obtain ⟨k, hk⟩ : ∃ k, cutI s c.toNat = k := ⟨_, rfl⟩
      rw [hk] at hx hA hB hf
      have hkw : IntKind.i64.wrap ((k : Int) + 1) = (k : Int) + 1 := by rw [IntKind.wrap_i64]; omega
      have hk0 : (0 : Int) ≤ (k : Int) + 1 := by omega
      have hk1 : (k : Int) + 1 ≤ (s.size : Int) := by omega
      have hk2 : k + 1 ≤ s.size := by omega
      have hk3 : k ≤ s.size := by omega
      replace hA := hA.symm
      replace hB := hB.symm
      subst hF
      go_enter Try.func91, Try.ntmps91
      go_wp2_with (first | (go_at_call 126; go_in) | (go_at_call 124; go_in))
      go_quiet (fail)
      go_wp2
      go_ret3
      exact ⟨by first | rfl | (rw [hA, hB]; rfl), below_drewN (Below.refl _ _) _⟩
    · have hf2 : cutI s c.toNat = s.size := by have := cutI_le s c.toNat; omega
      rw [if_neg hf] at hx
      have hA : cutA s c.toNat = s := by unfold cutA; rw [hf2]; exact extract_all s
      have hB : cutB s c.toNat = ⟨#[]⟩ := by unfold cutB; rw [hf2]; exact extract_past s
      have hF : cutF s c.toNat = false := by unfold cutF; simpa using hf
      rw [hA, hB, hF]
      clear hA hB hF hf hf2
      go_enter Try.func91, Try.ntmps91
      go_wp2_with (first | (go_at_call 126; go_in) | (go_at_call 124; go_in))
      go_ret3
      exact ⟨rfl, Below.refl _ _⟩
theorem cut_byte (s : ByteArray) (c : UInt8) (w : World) (hs : s.size ≤ 1073741824) :
    Calls Try.prog 47 #[.string s, .string ⟨#[c]⟩] w fun e w' => e = .returned (.tuple #[.string (cutA s c.toNat), .string (cutB s c.toNat), .bool (cutF s c.toNat)]) ∧ Below w.heap.size w w' := by
  go_enter Try.func47, Try.ntmps47
  go_wp2_with (go_at_call 91; refine (slite_cut _ _ _ hs).mono ?_; rintro e w1 ⟨rfl, hb1⟩)
  go_ret3
  exact ⟨rfl, hb1⟩
end Go.Proofs.Ytodmohepgmhipaa

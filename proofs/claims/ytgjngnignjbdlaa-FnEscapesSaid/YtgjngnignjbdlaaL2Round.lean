/-
  Plain facts of chapter 2, without any program: what was escaped comes back.
-/
import Derived.Test.YtgjngnignjbdlaaL2From
namespace Go.Proofs.Ytgjngnignjbdlaa
open Go.RowKit
set_option linter.unusedVariables false
theorem hexV_hexB (n : Nat) (h : n < 16) : hexV (hexB n) = n := by
  have : ∀ m : Fin 16, hexV (hexB m.1) = m.1 := by decide
  exact this ⟨n, h⟩
theorem hexB_range (n : Nat) (h : n < 16) : 33 ≤ (hexB n).toNat ∧ (hexB n).toNat ≤ 126 := by
  have : ∀ m : Fin 16, 33 ≤ (hexB m.1).toNat ∧ (hexB m.1).toNat ≤ 126 := by decide
  exact this ⟨n, h⟩
theorem unStep_esc (b : UInt8) (r : List UInt8) : unStep (escB b ++ r) = some (b, (escB b).length) := by
  by_cases h1 : b.toNat = 92
  · obtain rfl : b = 92 := byte_of (n := 92) h1 (by omega)
    rfl
  · by_cases h2 : b.toNat = 10
    · obtain rfl : b = 10 := byte_of (n := 10) h2 (by omega)
      rfl
    · by_cases h3 : 33 ≤ b.toNat ∧ b.toNat ≤ 126
      · rw [escB_plain h3.1 h3.2 h1]
        exact unStep_plain (by omega) h1
      · rw [escB_hex h3 h2]
        have hb := b.toNat_lt
        have e1 := hexV_hexB (b.toNat / 16) (by omega)
        have e2 := hexV_hexB (b.toNat % 16) (by omega)
        refine (unStep_hex (h := hexB _) (l := hexB _) ⟨by omega, by omega⟩).trans ?_
        rw [e1, e2]
        have : 16 * (b.toNat / 16) + b.toNat % 16 = b.toNat := by omega
        rw [this]; simp
theorem escB_range (b : UInt8) : ∀ x ∈ escB b, 33 ≤ x.toNat ∧ x.toNat ≤ 126 := by
  intro x hx
  by_cases h1 : b.toNat = 92
  · rw [escB_92 h1] at hx
    simp at hx; subst hx; decide
  · by_cases h2 : b.toNat = 10
    · rw [escB_10 h2] at hx
      simp at hx; rcases hx with rfl | rfl <;> decide
    · by_cases h3 : 33 ≤ b.toNat ∧ b.toNat ≤ 126
      · rw [escB_plain h3.1 h3.2 h1] at hx
        simp at hx; subst hx; exact h3
      · rw [escB_hex h3 h2] at hx
        have hb := b.toNat_lt
        simp at hx
        rcases hx with rfl | rfl | rfl | rfl
        · decide
        · decide
        · exact hexB_range _ (by omega)
        · exact hexB_range _ (by omega)
theorem escL_range (l : List UInt8) : ∀ x ∈ escL l, 33 ≤ x.toNat ∧ x.toNat ≤ 126 := by
  intro x hx
  simp only [escL, List.mem_flatMap] at hx
  obtain ⟨b, _, hb⟩ := hx
  exact escB_range b x hb
theorem escS_list (s : ByteArray) : (escS s).data.toList = escL s.data.toList := by unfold escS; simp
theorem escS_at (s : ByteArray) (i : Nat) (hi : i < (escS s).size) : 33 ≤ ((escS s)[i]).toNat ∧ ((escS s)[i]).toNat ≤ 126 := by
  have h : (escS s)[i] ∈ escL s.data.toList := by
    rw [← escS_list]
    have : i < (escS s).data.toList.length := by rw [Array.length_toList]; exact hi
    have e : (escS s)[i] = (escS s).data.toList[i] := by rw [Array.getElem_toList]; rfl
    rw [e]; exact List.getElem_mem _
  exact escL_range _ _ h
theorem escB_ne (b : UInt8) (r : List UInt8) : escB b ++ r ≠ [] := by
  have := escB_len b
  intro e
  have := congrArg List.length e
  simp at this
  simp [this.1] at *
theorem unL_esc (l : List UInt8) : ∀ f p, (escL l).length ≤ f → unL f (escL l) p = .ok l := by
  induction l with
  | nil => intro f p _; exact unL_nil f p
  | cons b r ih =>
    intro f p hf
    have e : escL (b :: r) = escB b ++ escL r := by simp [escL]
    rw [e] at hf ⊢
    rw [unL_step (escB_ne b _) hf (unStep_esc b _), List.drop_left, ih f _ (by simp at hf; omega)]
theorem unAll_esc (s : ByteArray) : unAll (escS s) = .ok s.data.toList := by
  unfold unAll
  rw [escS_list]
  refine unL_esc _ _ _ ?_
  rw [← escS_list, Array.length_toList]
  exact Nat.le_refl _
theorem unText_esc (s : ByteArray) : unText (unAll (escS s)) = s := by rw [unAll_esc]; rfl
theorem unOk_esc (s : ByteArray) : unOk (unAll (escS s)) = true := by rw [unAll_esc]; rfl
theorem unL_length : ∀ (f : Nat) (l : List UInt8) (p : Nat) (t : List UInt8), unL f l p = .ok t → t.length ≤ l.length := by
  intro f
  induction f with
  | zero =>
    intro l p t h
    simp only [unL, Except.ok.injEq] at h
    subst h; simp
  | succ f ih =>
    intro l p t h
    by_cases hl : l = []
    · subst hl; rw [unL_nil] at h; cases h; simp
    · cases hs : unStep l with
      | none => rw [unL_none (by omega) hl hs] at h; cases h
      | some q =>
        obtain ⟨b, n⟩ := q
        have hn := unStep_len hs
        rw [unL_some hl hs] at h
        cases hu : unL f (l.drop n) (p + n) with
        | error e => rw [hu] at h; cases h
        | ok t2 =>
          rw [hu] at h; cases h
          have := ih _ _ _ hu
          simp at this ⊢; omega
theorem unText_size (s : ByteArray) : (unText (unAll s)).size ≤ s.size := by
  cases h : unAll s with
  | error e => exact Nat.zero_le _
  | ok t =>
    have := unL_length _ _ _ _ h
    rw [Array.length_toList] at this
    show t.toArray.size ≤ _
    simpa using this
theorem escS_cut (s : ByteArray) (k : Nat) : escS (s.extract 0 k) ++ escS (s.extract k s.size) = escS s := by
  have h1 : (s.extract 0 k).data.toList = s.data.toList.take k := by rw [ByteArray.data_extract]; simp
  have h2 : (s.extract k s.size).data.toList = s.data.toList.drop k := by rw [extract_drop]
  have h3 : escL s.data.toList = escL (s.data.toList.take k) ++ escL (s.data.toList.drop k) := by
    simp only [escL, ← List.flatMap_append, List.take_append_drop]
  apply ByteArray.ext
  rw [ByteArray.data_append]
  apply Array.toList_inj.mp
  rw [Array.toList_append, escS_list, escS_list, escS_list, h1, h2, h3]
end Go.Proofs.Ytgjngnignjbdlaa

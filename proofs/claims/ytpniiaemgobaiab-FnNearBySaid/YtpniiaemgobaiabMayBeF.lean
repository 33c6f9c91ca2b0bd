/-
  Chapter 16: what is near may be near by its pieces (split off XMayBe).
-/
import Derived.Test.YtpniiaemgobaiabL16P
import Derived.Test.YtpniiaemgobaiabMTree
namespace Go.Proofs.Ytpniiaemgobaiab
open Go.RowKit
set_option linter.unusedVariables false
set_option maxRecDepth 100000
theorem comI_symm (s t : ByteArray) (q : Int) : comI t s q = comI s t q := by
  unfold comI comN
  by_cases h : gramOk s q = true ∧ gramOk t q = true
  · rw [if_pos h, if_pos ⟨h.2, h.1⟩, pairN_symm]
  · rw [if_neg h, if_neg (fun h2 => h ⟨h2.2, h2.1⟩)]
theorem mayB_symm (s t : ByteArray) (k q : Int) : mayB t s k q = mayB s t k q := by
  unfold mayB
  rw [comI_symm s t, Nat.max_comm, Nat.min_comm]
  exact decide_eq_decide.2 ⟨fun h => ⟨h.2.1, h.1, h.2.2⟩, fun h => ⟨h.2.1, h.1, h.2.2⟩⟩
theorem mayB_dist (s t : ByteArray) (n : Nat) (hs : s.size ≤ 100) (ht : t.size ≤ 100) (h1 : 1 ≤ n) (h2 : n ≤ 10) : mayB s t (distI s t false) (n : Int) = true := by
  have g1 := gramOk_iff (s := s) (q := (n : Int)).2 ⟨by omega, by omega, by omega⟩
  have g2 := gramOk_iff (s := t) (q := (n : Int)).2 ⟨by omega, by omega, by omega⟩
  have hd := distI_ed (s := s) (r := t) (f := false) (by omega) (by omega)
  have hl := grams_left h1 (bl s) (bl t)
  have hr := grams_right h1 (bl s) (bl t)
  have hc : pairN (gramsL n (bl s)) (gramsL n (bl t)) = comN n s t := rfl
  rw [gramsL_len h1, bl_len, hc] at hl
  rw [gramsL_len h1, bl_len, hc] at hr
  have he := ed_len (bl s) (bl t)
  rw [bl_len, bl_len] at he
  have hf : ed (fl false s) (fl false t) = ed (bl s) (bl t) := rfl
  rw [hf] at hd
  generalize ed (bl s) (bl t) = d at *
  have hz : distI s t false * (n : Int) = ((n * d : Nat) : Int) := by rw [hd, Int.mul_comm]; simp
  generalize n * d = z at *
  unfold mayB
  rw [hz, comI_yes g1 g2, hd]
  refine decide_eq_true ⟨g1, g2, by omega, by omega, ?_, ?_⟩
  · omega
  · omega
theorem mayB_more {s t : ByteArray} {d k q : Int} (h : mayB s t d q = true) (hd : d ≤ k) (h0 : 0 ≤ k) (h1 : k ≤ 200) : mayB s t k q = true := by
  unfold mayB at h ⊢
  obtain ⟨a1, a2, a3, a4, a5, a6⟩ := of_decide_eq_true h
  obtain ⟨b1, _, _⟩ := gramOk_iff.1 a1
  have hm : d * q ≤ k * q := Int.mul_le_mul_of_nonneg_right hd (by omega)
  exact decide_eq_true ⟨a1, a2, h0, h1, by omega, by omega⟩
end Go.Proofs.Ytpniiaemgobaiab

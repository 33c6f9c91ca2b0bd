/-
  Chapter 10: plain facts: what is put in pieces is put; what is cut is what was put there last.
-/
import Derived.Test.YtglldmfhjipacaaL10Draw2
namespace Go.Proofs.Ytglldmfhjipacaa
open Go.RowKit
set_option linter.unusedVariables false
set_option maxRecDepth 100000
theorem byteAt_tail (z : Int) (t : ByteArray) (i : Nat) (h : i < min t.size z.toNat) : byteAt (tailB z t) i = byteAt t (t.size - min t.size z.toNat + i) := by
  unfold tailB
  rw [byteAt_ext _ _ _ _ (Nat.le_refl _) (by omega)]
theorem tail_tail (z : Int) (u v : ByteArray) : tailB z (tailB z u ++ v) = tailB z (u ++ v) := by
  have h1 : (tailB z u ++ v).size = min u.size z.toNat + v.size := by simp [tailB_size]
  have h2 : (u ++ v).size = u.size + v.size := by simp
  have hs : (tailB z (tailB z u ++ v)).size = (tailB z (u ++ v)).size := by rw [tailB_size, tailB_size, h1, h2]; omega
  refine ba_ext hs fun i hi => ?_
  have hi1 := hi
  have hi2 := hi
  rw [tailB_size] at hi1
  rw [hs, tailB_size] at hi2
  rw [byteAt_tail _ _ _ hi1, byteAt_tail _ _ _ hi2, byteAt_cat, byteAt_cat, tailB_size, h1, h2]
  rw [h1] at hi1
  rw [h2] at hi2
  by_cases hc : min u.size z.toNat + v.size - min (min u.size z.toNat + v.size) z.toNat + i < min u.size z.toNat
  · rw [if_pos hc, if_pos (by omega), byteAt_tail _ _ _ hc]
    exact congrArg _ (by omega)
  · rw [if_neg hc, if_neg (by omega)]
    exact congrArg _ (by omega)
theorem tail_last (z : Int) (d s : ByteArray) (n : Nat) (hn : n = min s.size z.toNat) : (tailB z (d ++ s)).extract ((tailB z (d ++ s)).size - n) (tailB z (d ++ s)).size = s.extract (s.size - n) s.size := by
  have h2 : (d ++ s).size = d.size + s.size := by simp
  have hT := tailB_size z (d ++ s)
  rw [h2] at hT
  have hsz : ((tailB z (d ++ s)).extract ((tailB z (d ++ s)).size - n) (tailB z (d ++ s)).size).size = n := by rw [ByteArray.size_extract]; omega
  refine ba_ext ?_ fun i hi => ?_
  · rw [hsz, ByteArray.size_extract]; omega
  · rw [hsz] at hi
    rw [byteAt_ext _ _ _ _ (Nat.le_refl _) (by omega), byteAt_ext _ _ _ _ (Nat.le_refl _) (by omega), byteAt_tail _ _ _ (by rw [h2]; omega), byteAt_cat, if_neg (by rw [h2]; omega)]
    exact congrArg _ (by omega)
theorem ringB_of {z e : Int} {n : Nat} (h : 0 ≤ z ∧ z ≤ 200 ∧ 0 ≤ e ∧ e ≤ 1000000 ∧ (n : Int) ≤ z ∧ (n : Int) ≤ e) : ringB z e n = true := ringB_yes h
/-- what is put in two pieces, and what is cut then -/
theorem put_facts {z e : Int} {d s : ByteArray} (h : putB z e d s = true) (len : Nat) : ∃ q n : Nat, len % (s.size + 1) = q ∧ q ≤ s.size ∧ n = min s.size z.toNat ∧ 0 ≤ z ∧ z ≤ 200 ∧ 0 ≤ e ∧ e + s.size ≤ 1000000 ∧
    putB z e d (s.extract 0 q) = true ∧ rpZ z e d (s.extract 0 q) = z ∧ rpE z e d (s.extract 0 q) = e + (q : Int) ∧ rpD z e d (s.extract 0 q) = tailB z (d ++ s.extract 0 q) ∧
    putB z (e + (q : Int)) (tailB z (d ++ s.extract 0 q)) (s.extract q s.size) = true ∧ rpZ z (e + (q : Int)) (tailB z (d ++ s.extract 0 q)) (s.extract q s.size) = z ∧ rpE z (e + (q : Int)) (tailB z (d ++ s.extract 0 q)) (s.extract q s.size) = e + (s.size : Int) ∧ rpD z (e + (q : Int)) (tailB z (d ++ s.extract 0 q)) (s.extract q s.size) = tailB z (d ++ s) ∧
    rpZ z e d s = z ∧ rpE z e d s = e + (s.size : Int) ∧ rpD z e d s = tailB z (d ++ s) ∧ (tailB z (d ++ s)).size ≤ 200 ∧ ringB z (e + (s.size : Int)) (tailB z (d ++ s)).size = true ∧ (tailB z (d ++ s.extract 0 q)).size ≤ 200 ∧
    rcB z (e + (s.size : Int)) (tailB z (d ++ s)) (e + (s.size : Int) - (n : Int)) (e + (s.size : Int)) = true ∧ rcD z (e + (s.size : Int)) (tailB z (d ++ s)) (e + (s.size : Int) - (n : Int)) (e + (s.size : Int)) = s.extract (s.size - n) s.size := by
  obtain ⟨a1, a2, a3⟩ := putB_yes h
  unfold putB at h
  simp only [Bool.and_eq_true, decide_eq_true_eq] at h
  obtain ⟨hr, hes⟩ := h
  obtain ⟨r0, r1, r2, r3, r4, r5⟩ := (ringB_iff _ _ _).1 hr
  obtain ⟨q, hq⟩ : ∃ q, len % (s.size + 1) = q := ⟨_, rfl⟩
  have hqn : q ≤ s.size := by have := Nat.mod_lt len (show 0 < s.size + 1 by omega); omega
  have z1 : (s.extract 0 q).size = q := by rw [ByteArray.size_extract]; omega
  have z2 : (s.extract q s.size).size = s.size - q := by rw [ByteArray.size_extract]; omega
  have zT : (tailB z (d ++ s)).size = min (d.size + s.size) z.toNat := by rw [tailB_size]; simp
  have zT1 : (tailB z (d ++ s.extract 0 q)).size = min (d.size + q) z.toNat := by rw [tailB_size]; simp [z1]
  have p1 : putB z e d (s.extract 0 q) = true := by unfold putB; rw [hr, z1]; simp; omega
  obtain ⟨b1, b2, b3⟩ := putB_yes p1
  have hr1 : ringB z (e + (q : Int)) (tailB z (d ++ s.extract 0 q)).size = true := ringB_yes (by omega)
  have p2 : putB z (e + (q : Int)) (tailB z (d ++ s.extract 0 q)) (s.extract q s.size) = true := by unfold putB; rw [hr1, z2]; simp; omega
  obtain ⟨c1, c2, c3⟩ := putB_yes p2
  have hrT : ringB z (e + (s.size : Int)) (tailB z (d ++ s)).size = true := ringB_yes (by omega)
  obtain ⟨n, hn⟩ : ∃ n, n = min s.size z.toNat := ⟨_, rfl⟩
  have hc : rcB z (e + (s.size : Int)) (tailB z (d ++ s)) (e + (s.size : Int) - (n : Int)) (e + (s.size : Int)) = true := by unfold rcB; rw [hrT]; simp; omega
  refine ⟨q, n, hq, hqn, hn, r0, r1, r2, hes, p1, b1, by rw [b2, z1], b3, p2, c1, by rw [c2, z2]; omega, ?_, a1, a2, a3, by omega, hrT, by omega, hc, ?_⟩
  · rw [c3, tail_tail]
    refine congrArg (tailB z) ?_
    rw [ByteArray.append_assoc, ByteArray.extract_append_extract]
    refine congrArg (fun x => d ++ x) ?_
    rw [show min 0 q = 0 by omega, show max q s.size = s.size by omega]
    exact ByteArray.extract_zero_size
  · unfold rcD
    rw [hc]
    simp only [if_true]
    rw [← tail_last z d s n hn]
    exact congr (congrArg (ByteArray.extract (tailB z (d ++ s))) (by omega)) (by omega)
end Go.Proofs.Ytglldmfhjipacaa

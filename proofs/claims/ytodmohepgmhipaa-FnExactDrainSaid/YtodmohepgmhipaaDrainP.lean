/-
  What Drain gives, as plain lists.
-/
import Derived.Test.YtodmohepgmhipaaSesOkP
namespace Go.Proofs.Ytodmohepgmhipaa
open Go.RowKit
set_option linter.unusedVariables false
set_option maxRecDepth 100000
def cutN (most : Int) (nq : Nat) : Nat := if most ≤ 0 then 0 else if most ≤ (nq : Int) then most.toNat else nq
theorem cutN_le (most : Int) (nq : Nat) : cutN most nq ≤ nq := by
  unfold cutN
  split
  · omega
  · split <;> omega
def zeroS : Ses := ⟨[], 0, 0, 0, [], [], false⟩
def drS (s : Ses) (most : Int) : Ses := if sesB s = true then { s with Q := s.Q.drop (cutN most (s.Q.length / 3) * 3) } else zeroS
def drQ (s : Ses) (most : Int) : List Int := if sesB s = true then s.Q.take (cutN most (s.Q.length / 3) * 3) else []
theorem drS_yes {s : Ses} {most : Int} {nq : Nat} (h : sesB s = true) (hn : s.Q.length = nq * 3) : drS s most = { s with Q := s.Q.drop (cutN most nq * 3) } ∧ drQ s most = s.Q.take (cutN most nq * 3) := by
  have : s.Q.length / 3 = nq := by omega
  unfold drS drQ
  rw [if_pos h, if_pos h, this]
  exact ⟨rfl, rfl⟩
theorem drS_no {s : Ses} {most : Int} (h : sesB s = false) : drS s most = zeroS ∧ drQ s most = [] := by
  unfold drS drQ
  rw [h]
  exact ⟨rfl, rfl⟩
theorem intAt_take (L : List Int) (k i : Nat) (h : i < k) : intAt (L.take k) i = intAt L i := by
  simp [intAt, List.getD_eq_getElem?_getD, h]
theorem intAt_drop (L : List Int) (k i : Nat) : intAt (L.drop k) i = intAt L (k + i) := by
  simp [intAt, List.getD_eq_getElem?_getD]
theorem Ints.take {w : World} {a : Option Addr} {L : List Int} (h : Ints w a L) (k : Nat) : Ints w a (L.take k) := by
  rcases h with rfl | ⟨b, off, rfl, h⟩
  · exact .inl (by simp)
  · refine .inr ⟨b, off, rfl, fun i hi => ?_⟩
    rw [List.length_take] at hi
    rw [intAt_take _ _ _ (by omega)]; exact h i (by omega)
theorem WrI.take {w : World} {a : Option Addr} {L : List Int} (h : WrI w a L) (k : Nat) : WrI w a (L.take k) := by
  rcases h with h | ⟨g, off, rfl, hv, hf⟩
  · have : L = [] := by simpa using h
    subst this; exact .inl (by simp)
  · refine .inr ⟨g, off, rfl, fun i hi => ?_, hf⟩
    rw [List.length_map, List.length_take] at hi
    rw [valAt_map _ _ (by rw [List.length_take]; exact hi), intAt_take _ _ _ (by omega), ← valAt_map L i (by omega)]
    exact hv i (by simp; omega)
/-- what is left of records behind the first k: further on in the same block -/
theorem WrI.drop {w : World} {g off : Nat} {L : List Int} (h : WrI w (some ⟨g, off, none⟩) L) (k : Nat) : WrI w (some ⟨g, off + k, none⟩) (L.drop k) := by
  rcases h with h | ⟨g', off', e, hv, hf⟩
  · have : L = [] := by simpa using h
    subst this; exact .inl (by simp)
  · cases e
    refine .inr ⟨g, off + k, rfl, fun i hi => ?_, hf⟩
    rw [List.length_map, List.length_drop] at hi
    rw [valAt_map _ _ (by rw [List.length_drop]; exact hi), intAt_drop, ← valAt_map L (k + i) (by omega), Nat.add_assoc]
    exact hv (k + i) (by simp; omega)
theorem Ints.drop {w : World} {g off : Nat} {L : List Int} (h : Ints w (some ⟨g, off, none⟩) L) (k : Nat) : Ints w (some ⟨g, off + k, none⟩) (L.drop k) := by
  rcases h with rfl | ⟨g', off', e, hv⟩
  · exact .inl (by simp)
  · cases e
    refine .inr ⟨g, off + k, rfl, fun i hi => ?_⟩
    rw [List.length_drop] at hi
    rw [intAt_drop, Nat.add_assoc]
    exact hv (k + i) (by omega)
theorem zero_read (w : World) : SesV w (.agg #[.slice none 0 0, .int .i64 0, .int .i64 0, .int .i64 0, .slice none 0 0, .slice none 0 0, .bool false]) zeroS :=
  ⟨none, none, none, 0, 0, 0, 0, rfl, rfl, .inl rfl, .inl rfl, .inl rfl⟩
theorem zero_own (w : World) (B E : Nat) : SesW w B E (.agg #[.slice none 0 0, .int .i64 0, .int .i64 0, .int .i64 0, .slice none 0 0, .slice none 0 0, .bool false]) zeroS :=
  ⟨none, none, none, 0, 0, 0, 0, fun _ => none, fun _ => 0, [], rfl, rfl, ⟨rfl, fun i hi => by simp [zeroS] at hi⟩, .inl rfl, ⟨.inl rfl, fun j hj => by simp [zeroS] at hj⟩, .inl rfl,
    fun i hi hn => by
      have : i = 0 ∨ i = 1 ∨ i = 2 := by simp [zeroS] at hi; omega
      rcases this with rfl | rfl | rfl <;> exact absurd rfl hn,
    fun i j hij hj ni nj => by
      have : i = 0 ∨ i = 1 := by simp [zeroS] at hj; omega
      rcases this with rfl | rfl <;> exact absurd rfl ni⟩
theorem OwnM.v_trn {S : Nat → Prop} {w w1 : World} {e m B n cap : Nat} {a : Option Addr} {L : List Int} (h : OwnM e m w B a n cap L) (ht : Trn S w w1) (hS : ∀ k, S k → k < B) : OwnM e m w1 B a n cap L :=
  h.on fun g hg => ht.block g (h.turn_lt g hg) fun hs => by have h1 := hS g hs; have h2 := (h.2.lt g hg).1; omega
/-- the same session, its records cut off at the front -/
theorem SesW.cut {w : World} {B E g : Nat} {ad ac : Option Addr} {cd cc cq cq' nq k : Nat} {s : Ses} (hk : k ≤ nq) (hn : s.Q.length = nq * 3)
    (h : SesW w B E (.agg #[.slice ad s.D.length cd, .int .i64 s.r, .int .i64 s.b, .int .i64 s.a, .slice ac s.C.length cc, .slice (some ⟨g, 0, none⟩) nq cq, .bool s.z]) s) (a' : Option Addr) (ha : k < nq → a' = some ⟨g, k * 3, none⟩) :
    SesW w B E (.agg #[.slice ad s.D.length cd, .int .i64 s.r, .int .i64 s.b, .int .i64 s.a, .slice ac s.C.length cc, .slice a' (nq - k) cq', .bool s.z]) { s with Q := s.Q.drop (k * 3) } := by
  obtain ⟨ad2, ac2, aq2, cd2, cc2, cq2, nq2, cA, cC, P, hv, hn2, hp⟩ := h
  simp only [sesV, Value.agg.injEq, Array.mk.injEq, List.cons.injEq, Value.slice.injEq, and_true, true_and] at hv
  obtain ⟨⟨rfl, rfl⟩, ⟨rfl, rfl⟩, rfl, rfl, rfl⟩ := hv
  refine ⟨ad, ac, a', cd, cc, cq', nq - k, cA, cC, P, rfl, by show (s.Q.drop _).length = _; rw [List.length_drop, hn]; omega, hp.pat, hp.dict, hp.cols, ?_, ?_⟩
  · by_cases hlt : k < nq
    · rw [ha hlt]
      have := WrI.drop hp.que (k * 3)
      rwa [Nat.zero_add] at this
    · exact .inl (by show (s.Q.drop _).map _ = []; rw [List.drop_of_length_le (by omega)]; rfl)
  · have hl : ∀ i, i < s.C.length + 3 → sLen { s with Q := s.Q.drop (k * 3) } i ≠ 0 → sLen s i ≠ 0 := fun i hi hne =>
      match i, hi, hne with
      | 0, _, h => h
      | 1, _, h => h
      | 2, _, h => by
        have h' : (s.Q.drop (k * 3)).length ≠ 0 := h
        rw [List.length_drop] at h'
        show s.Q.length ≠ 0; omega
      | j + 3, _, h => h
    have hA : ∀ i, i < s.C.length + 3 → sLen { s with Q := s.Q.drop (k * 3) } i ≠ 0 → ∀ g' o', sSlot ad ac a' cA i = some ⟨g', o', none⟩ → ∃ o2, sSlot ad ac (some ⟨g, 0, none⟩) cA i = some ⟨g', o2, none⟩ := fun i hi hne g' o' e =>
      match i, hi, hne, e with
      | 0, _, _, e => ⟨o', e⟩
      | 1, _, _, e => ⟨o', e⟩
      | 2, _, h, e => by
        have h' : (s.Q.drop (k * 3)).length ≠ 0 := h
        rw [List.length_drop, hn] at h'
        have e' : a' = some ⟨g', o', none⟩ := e
        rw [ha (by omega)] at e'
        cases e'
        exact ⟨0, rfl⟩
      | j + 3, _, _, e => ⟨o', e⟩
    have hX : ∀ i, i < s.C.length + 3 → sLen { s with Q := s.Q.drop (k * 3) } i ≠ 0 → ∃ g' o', sSlot ad ac a' cA i = some ⟨g', o', none⟩ := fun i hi hne => by
      match i, hi, hne with
      | 0, hi, h => obtain ⟨g', o', e, _⟩ := hp.lies.inn 0 hi h; exact ⟨g', o', e⟩
      | 1, hi, h => obtain ⟨g', o', e, _⟩ := hp.lies.inn 1 hi h; exact ⟨g', o', e⟩
      | 2, hi, h =>
        have h' : (s.Q.drop (k * 3)).length ≠ 0 := h
        rw [List.length_drop, hn] at h'
        exact ⟨g, k * 3, ha (by omega)⟩
      | j + 3, hi, h => obtain ⟨g', o', e, _⟩ := hp.lies.inn (j + 3) hi h; exact ⟨g', o', e⟩
    have hc0 : ({ s with Q := s.Q.drop (k * 3) } : Ses).C.length = s.C.length := rfl
    rw [hc0]
    refine ⟨fun i hi hne => ?_, fun i j hij hj ni nj g1 o1 g2 o2 e1 e2 => ?_⟩
    · obtain ⟨g', o', e⟩ := hX i hi hne
      obtain ⟨o2, e2⟩ := hA i hi hne g' o' e
      obtain ⟨g3, o3, e3, h1, h2⟩ := hp.lies.inn i hi (hl i hi hne)
      rw [e2] at e3; cases e3
      exact ⟨g', o', e, h1, h2⟩
    · obtain ⟨p1, f1⟩ := hA i (by omega) ni g1 o1 e1
      obtain ⟨p2, f2⟩ := hA j hj nj g2 o2 e2
      exact hp.lies.apart i j hij hj (hl i (by omega) ni) (hl j hj nj) g1 p1 g2 p2 f1 f2
end Go.Proofs.Ytodmohepgmhipaa

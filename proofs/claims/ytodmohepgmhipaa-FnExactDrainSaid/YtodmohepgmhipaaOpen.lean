/-
  A slice of patterns that came in, opened.
-/
import Derived.Test.YtodmohepgmhipaaPats
import Derived.Deep.Slices
import Derived.Deep.Strs
import Derived.Lib.SmallJoins
import Derived.ProofKit
namespace Go.Proofs.Ytodmohepgmhipaa
open Go.ChangeShapes Go.WideShapes Go.Deep Go.Joins
set_option linter.unusedVariables false
set_option maxRecDepth 100000
section
variable {H : Type} {enc : TypeId × Value → H} {w : World} {base : Nat} {spare : Nat → Bool} {held : Bool}
theorem open_pats {t e : TypeId} {f0 f1 f2 : Field} {fuel : Nat} {a0 : Option Addr} {len0 cap0 : Nat} {x : DataW H × List MemPlace} (ht : Try.prog.underlying t = some (.slice e)) (he : Try.prog.underlying e = some (.struct #[f0, f1, f2])) (hone : oneCellFields Try.prog #[f0, f1, f2] = true) (hC : Try.prog.cellsOf e = 3)
    (hts : Try.prog.underlying f0.type = some .string) (htk : Try.prog.underlying f1.type = some (.int .i64)) (htf : Try.prog.underlying f2.type = some .bool)
    (h : DataW.trod enc Try.prog w base spare held fuel t [.slice a0 len0 cap0] = some x) :
    ∃ L : List Pt, L.length = len0 ∧ Pats w a0 L ∧ L.length ≤ maxLen ∧ ∀ i, i < L.length → (ptAt L i).t.size ≤ maxLen := by
  rcases open_slice ht h with ⟨hcs, _⟩ | ⟨a, len, cap, m, n, D, Pl, hcs, hb, hl, hm, hmm, hx, hi⟩
  · simp only [List.cons.injEq, Value.slice.injEq, and_true] at hcs
    obtain ⟨rfl, rfl, rfl⟩ := hcs
    exact ⟨[], rfl, .inl rfl, by simp, fun i hi => by simp at hi⟩
  · simp only [List.cons.injEq, Value.slice.injEq, and_true] at hcs
    obtain ⟨rfl, rfl, rfl⟩ := hcs
    have hlm : len0 ≤ m := by rw [hmm]; split <;> omega
    have one : ∀ i, i < len0 → ∃ p : Pt, (w.cell? ((a.add (i * 3)).add 0) = some (.string p.t) ∧ w.cell? ((a.add (i * 3)).add 1) = some (.int .i64 p.k) ∧ w.cell? ((a.add (i * 3)).add 2) = some (.bool p.f)) ∧ p.t.size ≤ maxLen := by
      intro i hi0
      obtain ⟨cs', hc, ht'⟩ := hi i (by omega)
      rw [hC] at hc
      obtain ⟨_, hlen, hat⟩ := World.cells?_some hc
      obtain ⟨y0, y1, y2, n', hx', _, h0, h1, h2⟩ := trod_struct3 he ht'
      obtain ⟨o0, k0⟩ := hone_of hone 0 f0 rfl
      obtain ⟨o1, k1⟩ := hone_of hone 1 f1 rfl
      obtain ⟨o2, k2⟩ := hone_of hone 2 f2 rfl
      match cs', hlen with
      | [v0, v1, v2], _ =>
        have g0 : DataW.trod enc Try.prog w base spare held n' f0.type [v0] = some y0 := by simpa [o0, k0] using h0
        have g1 : DataW.trod enc Try.prog w base spare held n' f1.type [v1] = some y1 := by simpa [o1, k1] using h1
        have g2 : DataW.trod enc Try.prog w base spare held n' f2.type [v2] = some y2 := by simpa [o2, k2] using h2
        obtain ⟨s, e0, _, hs⟩ := DataW.trod_string hts g0
        obtain ⟨k, e1, _, hk⟩ := DataW.trod_int htk g1
        obtain ⟨f, e2, _⟩ := DataW.trod_bool htf g2
        simp only [List.cons.injEq, and_true] at e0 e1 e2
        subst e0 e1 e2
        exact ⟨⟨s, k, f⟩, ⟨by rw [hat 0 (by omega)]; rfl, by rw [hat 1 (by omega)]; rfl, by rw [hat 2 (by omega)]; rfl⟩, hs⟩
    obtain ⟨V, hV⟩ := choose_lt one
    have hpt : ∀ i, i < len0 → ptAt ((List.range len0).map V) i = V i := by
      intro i hi0
      simp [ptAt, List.getD_eq_getElem?_getD, hi0]
    refine ⟨(List.range len0).map V, by simp, ?_, by simp; omega, fun i hi0 => ?_⟩
    · by_cases h0 : len0 = 0
      · left; subst h0; rfl
      · right
        obtain ⟨b, off, spot⟩ := a
        have hspot : spot = none := by
          have := World.cell?_spot (hV 0 (by omega)).1.1
          simpa [Addr.add] using this
        subst hspot
        refine ⟨b, off, rfl, fun i hi0 => ?_⟩
        have hi1 : i < len0 := by simpa using hi0
        obtain ⟨⟨q0, q1, q2⟩, _⟩ := hV i hi1
        rw [hpt i hi1]
        rw [Addr.add_lit, Addr.add_lit] at q0 q1 q2
        exact ⟨q0, q1, q2⟩
    · have hi1 : i < len0 := by simpa using hi0
      rw [hpt i hi1]
      exact (hV i hi1).2
end
end Go.Proofs.Ytodmohepgmhipaa

/-
  A slice of nodes that came in, opened.
-/
import Derived.Test.YtodmohepgmhipaaNodes
import Derived.Test.YtodmohepgmhipaaOpenRow
namespace Go.Proofs.Ytodmohepgmhipaa
open Go.ChangeShapes Go.WideShapes Go.Deep Go.Joins Go.ChangeAt Go.RowKit
set_option linter.unusedVariables false
set_option maxRecDepth 100000
section
variable {H : Type} {enc : TypeId × Value → H} {w : World} {base : Nat} {held : Bool}
instance : Inhabited Nd := ⟨nd0⟩
theorem list_of_row {a : Option Addr} {len cap : Nat} {z : List Int} (h : IsRow .i64 w a len cap z) : ∃ K : List Int, K.length = len ∧ Ints w a K ∧ len ≤ maxLen := by
  obtain ⟨h1, h2, h3, _⟩ := ints_of_row h
  exact ⟨_, h2, h1, h3⟩
theorem open_nodes {t e ei : TypeId} {f0 f1 f2 f3 f4 : Field} {fuel : Nat} {a0 : Option Addr} {len0 cap0 : Nat} {x : DataW H × List MemPlace} (ht : Try.prog.underlying t = some (.slice e)) (he : Try.prog.underlying e = some (.struct #[f0, f1, f2, f3, f4])) (hone : oneCellFields Try.prog #[f0, f1, f2, f3, f4] = true) (hC : Try.prog.cellsOf e = 5)
    (ht0 : Try.prog.underlying f0.type = some (.int .i64)) (ht1 : Try.prog.underlying f1.type = some (.int .i64)) (ht2 : Try.prog.underlying f2.type = some (.int .i64)) (ht3 : Try.prog.underlying f3.type = some (.slice ei)) (ht4 : Try.prog.underlying f4.type = some (.slice ei)) (hi : Try.prog.underlying ei = some (.int .i64)) (hc : Try.prog.cellsOf ei = 1)
    (h : DataW.trod enc Try.prog w base (fun _ => true) held fuel t [.slice a0 len0 cap0] = some x) :
    ∃ L : List Nd, L.length = len0 ∧ Nds w a0 L ∧ L.length ≤ maxLen ∧ ∀ i, i < L.length → (ndAt L i).K.length ≤ maxLen ∧ (ndAt L i).O.length ≤ maxLen := by
  rcases open_slice ht h with ⟨hcs, _⟩ | ⟨a, len, cap, m, n, D, Pl, hcs, hb, hl, hm, hmm, hx, hit⟩
  · simp only [List.cons.injEq, Value.slice.injEq, and_true] at hcs
    obtain ⟨rfl, rfl, rfl⟩ := hcs
    exact ⟨[], rfl, .inl rfl, by simp, fun i hi => by simp at hi⟩
  · simp only [List.cons.injEq, Value.slice.injEq, and_true] at hcs
    obtain ⟨rfl, rfl, rfl⟩ := hcs
    have hlm : len0 ≤ m := by rw [hmm]; split <;> omega
    have one : ∀ i, i < len0 → ∃ p : Nd, (w.cell? ((a.add (i * 5)).add 0) = some (.int .i64 p.b) ∧ w.cell? ((a.add (i * 5)).add 1) = some (.int .i64 p.p) ∧ w.cell? ((a.add (i * 5)).add 2) = some (.int .i64 p.f) ∧ (∃ a3 c3, w.cell? ((a.add (i * 5)).add 3) = some (.slice a3 p.K.length c3) ∧ Ints w a3 p.K) ∧ ∃ a4 c4, w.cell? ((a.add (i * 5)).add 4) = some (.slice a4 p.O.length c4) ∧ Ints w a4 p.O) ∧ p.K.length ≤ maxLen ∧ p.O.length ≤ maxLen := by
      intro i hi0
      obtain ⟨cs', hcc, ht'⟩ := hit i (by omega)
      rw [hC] at hcc
      obtain ⟨_, hlen, hat⟩ := World.cells?_some hcc
      obtain ⟨xs, n', _, _, _, hxl, hf⟩ := DataW.trod_struct he ht'
      obtain ⟨o0, k0⟩ := hone_of hone 0 f0 rfl
      obtain ⟨o1, k1⟩ := hone_of hone 1 f1 rfl
      obtain ⟨o2, k2⟩ := hone_of hone 2 f2 rfl
      obtain ⟨o3, k3⟩ := hone_of hone 3 f3 rfl
      obtain ⟨o4, k4⟩ := hone_of hone 4 f4 rfl
      match xs, hxl, cs', hlen with
      | [y0, y1, y2, y3, y4], _, [v0, v1, v2, v3, v4], _ =>
        have g0 : DataW.trod enc Try.prog w base (fun _ => true) held n' f0.type [v0] = some y0 := by simpa [o0, k0] using hf 0 f0 rfl
        have g1 : DataW.trod enc Try.prog w base (fun _ => true) held n' f1.type [v1] = some y1 := by simpa [o1, k1] using hf 1 f1 rfl
        have g2 : DataW.trod enc Try.prog w base (fun _ => true) held n' f2.type [v2] = some y2 := by simpa [o2, k2] using hf 2 f2 rfl
        have g3 : DataW.trod enc Try.prog w base (fun _ => true) held n' f3.type [v3] = some y3 := by simpa [o3, k3] using hf 3 f3 rfl
        have g4 : DataW.trod enc Try.prog w base (fun _ => true) held n' f4.type [v4] = some y4 := by simpa [o4, k4] using hf 4 f4 rfl
        obtain ⟨b, e0, _, _⟩ := DataW.trod_int ht0 g0
        obtain ⟨p, e1, _, _⟩ := DataW.trod_int ht1 g1
        obtain ⟨f, e2, _, _⟩ := DataW.trod_int ht2 g2
        simp only [List.cons.injEq, and_true] at e0 e1 e2
        subst e0 e1 e2
        obtain ⟨a3, l3, c3, z3, rfl, r3⟩ := row_of_cell ht3 hi hc g3
        obtain ⟨a4, l4, c4, z4, rfl, r4⟩ := row_of_cell ht4 hi hc g4
        obtain ⟨K, rfl, hK, hKm⟩ := list_of_row r3
        obtain ⟨O, rfl, hO, hOm⟩ := list_of_row r4
        exact ⟨⟨b, p, f, K, O⟩, ⟨by rw [hat 0 (by omega)]; rfl, by rw [hat 1 (by omega)]; rfl, by rw [hat 2 (by omega)]; rfl, ⟨a3, c3, by rw [hat 3 (by omega)]; rfl, hK⟩, ⟨a4, c4, by rw [hat 4 (by omega)]; rfl, hO⟩⟩, hKm, hOm⟩
    obtain ⟨V, hV⟩ := choose_lt one
    have hpt : ∀ i, i < len0 → ndAt ((List.range len0).map V) i = V i := by
      intro i hi0
      simp [ndAt, List.getD_eq_getElem?_getD, hi0]
    refine ⟨(List.range len0).map V, by simp, ?_, by simp; omega, fun i hi0 => ?_⟩
    · by_cases h0 : len0 = 0
      · left; subst h0; rfl
      · right
        obtain ⟨b, off, spot⟩ := a
        have hspot : spot = none := by
          have := World.cell?_spot (hV 0 (by omega)).1.1
          simpa [Addr.add] using this
        subst hspot
        refine ⟨b, off, rfl, fun i hi0 => ?_⟩
        have hi1 : i < len0 := by simpa using hi0
        obtain ⟨⟨q0, q1, q2, ⟨a3, c3, q3, i3⟩, ⟨a4, c4, q4, i4⟩⟩, _⟩ := hV i hi1
        rw [hpt i hi1]
        rw [Addr.add_lit, Addr.add_lit] at q0 q1 q2 q3 q4
        exact ⟨q0, q1, q2, ⟨a3, c3, q3, i3⟩, ⟨a4, c4, q4, i4⟩⟩
    · have hi1 : i < len0 := by simpa using hi0
      rw [hpt i hi1]
      exact (hV i hi1).2
end
end Go.Proofs.Ytodmohepgmhipaa

/-
  A session that came in, opened.
-/
import Derived.Test.YtodmohepgmhipaaSesOkP
import Derived.Test.YtodmohepgmhipaaOpen
import Derived.Test.YtodmohepgmhipaaOpenRow
namespace Go.Proofs.Ytodmohepgmhipaa
open Go.ChangeShapes Go.WideShapes Go.Deep Go.Joins Go.ChangeAt Go.RowKit
set_option linter.unusedVariables false
set_option maxRecDepth 100000
section
variable {H : Type} {enc : TypeId × Value → H} {w : World} {base : Nat} {held : Bool}
theorem slice_shape {t e : TypeId} {fuel : Nat} {v : Value} {x : DataW H × List MemPlace} (ht : Try.prog.underlying t = some (.slice e))
    (h : DataW.trod enc Try.prog w base (fun _ => true) held fuel t [v] = some x) : ∃ a len cap, v = .slice a len cap := by
  rcases open_slice ht h with ⟨hcs, _⟩ | ⟨a, len, cap, m, n, D, Pl, hcs, hb, hl, hm, hmm, hx, hit⟩
  · simp only [List.cons.injEq, and_true] at hcs; exact ⟨_, _, _, hcs⟩
  · simp only [List.cons.injEq, and_true] at hcs; exact ⟨_, _, _, hcs⟩
theorem list_of_row2 {a : Option Addr} {len cap : Nat} {z : List Int} (h : IsRow .i64 w a len cap z) : ∃ K : List Int, K.length = len ∧ Ints w a K ∧ len ≤ maxLen ∧ ∀ i, i < len → -9223372036854775808 ≤ intAt K i ∧ intAt K i ≤ 9223372036854775807 := by
  obtain ⟨h1, h2, h3, h4⟩ := ints_of_row h
  exact ⟨_, h2, h1, h3, h4⟩
theorem open_cols {t e ei : TypeId} {fuel : Nat} {a0 : Option Addr} {len0 cap0 : Nat} {x : DataW H × List MemPlace} (ht : Try.prog.underlying t = some (.slice e)) (he : Try.prog.underlying e = some (.slice ei)) (hC : Try.prog.cellsOf e = 1) (hi : Try.prog.underlying ei = some (.int .i64)) (hc : Try.prog.cellsOf ei = 1)
    (h : DataW.trod enc Try.prog w base (fun _ => true) held fuel t [.slice a0 len0 cap0] = some x) :
    ∃ C : List (List Int), C.length = len0 ∧ Cols w a0 C ∧ C.length ≤ maxLen ∧ ∀ i, i < C.length → (rowAt C i).length ≤ maxLen ∧ ∀ j, j < (rowAt C i).length → -9223372036854775808 ≤ intAt (rowAt C i) j ∧ intAt (rowAt C i) j ≤ 9223372036854775807 := by
  rcases open_slice ht h with ⟨hcs, _⟩ | ⟨a, len, cap, m, n, D, Pl, hcs, hb, hl, hm, hmm, hx, hit⟩
  · simp only [List.cons.injEq, Value.slice.injEq, and_true] at hcs
    obtain ⟨rfl, rfl, rfl⟩ := hcs
    exact ⟨[], rfl, .inl rfl, by simp, fun i hi => by simp at hi⟩
  · simp only [List.cons.injEq, Value.slice.injEq, and_true] at hcs
    obtain ⟨rfl, rfl, rfl⟩ := hcs
    have hlm : len0 ≤ m := by rw [hmm]; split <;> omega
    have one : ∀ i, i < len0 → ∃ K : List Int, (∃ a3 c3, w.cell? ((a.add (i * 1)).add 0) = some (.slice a3 K.length c3) ∧ Ints w a3 K) ∧ K.length ≤ maxLen ∧ ∀ j, j < K.length → -9223372036854775808 ≤ intAt K j ∧ intAt K j ≤ 9223372036854775807 := by
      intro i hi0
      obtain ⟨cs', hcc, ht'⟩ := hit i (by omega)
      rw [hC] at hcc
      obtain ⟨_, hlen, hat⟩ := World.cells?_some hcc
      match cs', hlen with
      | [v0], _ =>
        obtain ⟨a3, l3, c3, z3, rfl, r3⟩ := row_of_cell he hi hc ht'
        obtain ⟨K, rfl, hK, hKm, hKr⟩ := list_of_row2 r3
        exact ⟨K, ⟨a3, c3, by rw [hat 0 (by omega)]; rfl, hK⟩, hKm, hKr⟩
    obtain ⟨V, hV⟩ := choose_lt one
    have hpt : ∀ i, i < len0 → rowAt ((List.range len0).map V) i = V i := by
      intro i hi0
      simp [rowAt, List.getD_eq_getElem?_getD, hi0]
    refine ⟨(List.range len0).map V, by simp, ?_, by simp; omega, fun i hi0 => ?_⟩
    · by_cases h0 : len0 = 0
      · left; subst h0; rfl
      · right
        obtain ⟨b, off, spot⟩ := a
        have hspot : spot = none := by
          obtain ⟨⟨a3, c3, q3, _⟩, _⟩ := hV 0 (by omega)
          have := World.cell?_spot q3
          simpa [Addr.add] using this
        subst hspot
        refine ⟨b, off, rfl, fun i hi0 => ?_⟩
        have hi1 : i < len0 := by simpa using hi0
        obtain ⟨⟨a3, c3, q3, i3⟩, _⟩ := hV i hi1
        rw [hpt i hi1]
        rw [Addr.add_lit, Addr.add_lit, Nat.mul_one, Nat.add_zero] at q3
        exact ⟨a3, c3, q3, i3⟩
    · have hi1 : i < len0 := by simpa using hi0
      rw [hpt i hi1]
      exact (hV i hi1).2
theorem open_recs {t e : TypeId} {f0 f1 f2 : Field} {fuel : Nat} {a0 : Option Addr} {len0 cap0 : Nat} {x : DataW H × List MemPlace} (ht : Try.prog.underlying t = some (.slice e)) (he : Try.prog.underlying e = some (.struct #[f0, f1, f2])) (hone : oneCellFields Try.prog #[f0, f1, f2] = true) (hC : Try.prog.cellsOf e = 3)
    (ht0 : Try.prog.underlying f0.type = some (.int .i64)) (ht1 : Try.prog.underlying f1.type = some (.int .i64)) (ht2 : Try.prog.underlying f2.type = some (.int .i64))
    (h : DataW.trod enc Try.prog w base (fun _ => true) held fuel t [.slice a0 len0 cap0] = some x) :
    ∃ Q : List Int, Q.length = len0 * 3 ∧ Ints w a0 Q ∧ len0 ≤ maxLen := by
  rcases open_slice ht h with ⟨hcs, _⟩ | ⟨a, len, cap, m, n, D, Pl, hcs, hb, hl, hm, hmm, hx, hit⟩
  · simp only [List.cons.injEq, Value.slice.injEq, and_true] at hcs
    obtain ⟨rfl, rfl, rfl⟩ := hcs
    exact ⟨[], rfl, .inl rfl, by omega⟩
  · simp only [List.cons.injEq, Value.slice.injEq, and_true] at hcs
    obtain ⟨rfl, rfl, rfl⟩ := hcs
    have hlm : len0 ≤ m := by rw [hmm]; split <;> omega
    have one : ∀ i, i < len0 → ∃ p : Int × Int × Int, w.cell? ((a.add (i * 3)).add 0) = some (.int .i64 p.1) ∧ w.cell? ((a.add (i * 3)).add 1) = some (.int .i64 p.2.1) ∧ w.cell? ((a.add (i * 3)).add 2) = some (.int .i64 p.2.2) := by
      intro i hi0
      obtain ⟨cs', hcc, ht'⟩ := hit i (by omega)
      rw [hC] at hcc
      obtain ⟨_, hlen, hat⟩ := World.cells?_some hcc
      obtain ⟨y0, y1, y2, n', hx', _, h0, h1, h2⟩ := trod_struct3 he ht'
      obtain ⟨o0, k0⟩ := hone_of hone 0 f0 rfl
      obtain ⟨o1, k1⟩ := hone_of hone 1 f1 rfl
      obtain ⟨o2, k2⟩ := hone_of hone 2 f2 rfl
      match cs', hlen with
      | [v0, v1, v2], _ =>
        have g0 : DataW.trod enc Try.prog w base (fun _ => true) held n' f0.type [v0] = some y0 := by simpa [o0, k0] using h0
        have g1 : DataW.trod enc Try.prog w base (fun _ => true) held n' f1.type [v1] = some y1 := by simpa [o1, k1] using h1
        have g2 : DataW.trod enc Try.prog w base (fun _ => true) held n' f2.type [v2] = some y2 := by simpa [o2, k2] using h2
        obtain ⟨p, e0, _, _⟩ := DataW.trod_int ht0 g0
        obtain ⟨q, e1, _, _⟩ := DataW.trod_int ht1 g1
        obtain ⟨d, e2, _, _⟩ := DataW.trod_int ht2 g2
        simp only [List.cons.injEq, and_true] at e0 e1 e2
        subst e0 e1 e2
        exact ⟨⟨p, q, d⟩, by rw [hat 0 (by omega)]; rfl, by rw [hat 1 (by omega)]; rfl, by rw [hat 2 (by omega)]; rfl⟩
    obtain ⟨V, hV⟩ := choose_lt one
    let F : Nat → Int := fun i => if i % 3 = 0 then (V (i / 3)).1 else if i % 3 = 1 then (V (i / 3)).2.1 else (V (i / 3)).2.2
    refine ⟨tab F (len0 * 3), tab_length _ _, ?_, by omega⟩
    by_cases h0 : len0 = 0
    · left; subst h0; rfl
    · right
      obtain ⟨b, off, spot⟩ := a
      have hspot : spot = none := by
        have := World.cell?_spot (hV 0 (by omega)).1
        simpa [Addr.add] using this
      subst hspot
      refine ⟨b, off, rfl, fun i hi0 => ?_⟩
      rw [tab_length] at hi0
      rw [intAt_tab _ _ _ hi0]
      obtain ⟨q0, q1, q2⟩ := hV (i / 3) (by omega)
      rw [Addr.add_lit, Addr.add_lit] at q0 q1 q2
      have hm : i % 3 = 0 ∨ i % 3 = 1 ∨ i % 3 = 2 := by omega
      show w.cell? ⟨b, off + i, none⟩ = some (.int .i64 (if i % 3 = 0 then (V (i / 3)).1 else if i % 3 = 1 then (V (i / 3)).2.1 else (V (i / 3)).2.2))
      rcases hm with hm | hm | hm
      · rw [if_pos hm, ← q0]; congr 2; omega
      · rw [if_neg (by omega), if_pos hm, ← q1]; congr 2; omega
      · rw [if_neg (by omega), if_neg (by omega), ← q2]; congr 2; omega
theorem array7 {α : Type} {cs : Array α} (h : cs.size = 7) : ∃ c0 c1 c2 c3 c4 c5 c6, cs = #[c0, c1, c2, c3, c4, c5, c6] := by
  obtain ⟨l⟩ := cs
  match l, h with
  | [c0, c1, c2, c3, c4, c5, c6], _ => exact ⟨c0, c1, c2, c3, c4, c5, c6, rfl⟩
theorem open_session {r : Reach} {b0 : Nat} {t ep eu ei er : TypeId} {f0 f1 f2 f3 f4 f5 f6 p0 p1 p2 r0 r1 r2 : Field} {v : Value} {d : DataW H} {p : List MemPlace} (hs : Try.prog.underlying t = some (.struct #[f0, f1, f2, f3, f4, f5, f6])) (hone : oneCellFields Try.prog #[f0, f1, f2, f3, f4, f5, f6] = true) (hC : Try.prog.cellsOf t = 7)
    (h0 : Try.prog.underlying f0.type = some (.slice ep)) (hp : Try.prog.underlying ep = some (.struct #[p0, p1, p2])) (hpo : oneCellFields Try.prog #[p0, p1, p2] = true) (hpc : Try.prog.cellsOf ep = 3) (hp0 : Try.prog.underlying p0.type = some .string) (hp1 : Try.prog.underlying p1.type = some (.int .i64)) (hp2 : Try.prog.underlying p2.type = some .bool)
    (h1 : Try.prog.underlying f1.type = some (.int .i64)) (h2 : Try.prog.underlying f2.type = some (.int .i64)) (h3 : Try.prog.underlying f3.type = some (.int .i64))
    (h4 : Try.prog.underlying f4.type = some (.slice eu)) (hu : Try.prog.underlying eu = some (.slice ei)) (huc : Try.prog.cellsOf eu = 1) (hi : Try.prog.underlying ei = some (.int .i64)) (hic : Try.prog.cellsOf ei = 1)
    (h5 : Try.prog.underlying f5.type = some (.slice er)) (hr : Try.prog.underlying er = some (.struct #[r0, r1, r2])) (hro : oneCellFields Try.prog #[r0, r1, r2] = true) (hrc : Try.prog.cellsOf er = 3) (hr0 : Try.prog.underlying r0.type = some (.int .i64)) (hr1 : Try.prog.underlying r1.type = some (.int .i64)) (hr2 : Try.prog.underlying r2.type = some (.int .i64))
    (h6 : Try.prog.underlying f6.type = some .bool)
    (hv : Value.okWide Try.prog w r b0 t v) (h : DataW.Trod enc Try.prog w base (fun _ => true) held t v d p) : ∃ s : Ses, SesV w v s ∧ SesB maxLen s ∧ SesF s := by
  obtain ⟨cs, rfl, hsz⟩ := okWide_struct hs hv
  obtain ⟨c0, c1, c2, c3, c4, c5, c6, rfl⟩ := array7 (hsz.trans hC)
  obtain ⟨fuel, hf⟩ := h
  obtain ⟨xs, n, _, _, _, hxl, hft⟩ := DataW.trod_struct hs hf
  obtain ⟨o0, k0⟩ := hone_of hone 0 f0 rfl
  obtain ⟨o1, k1⟩ := hone_of hone 1 f1 rfl
  obtain ⟨o2, k2⟩ := hone_of hone 2 f2 rfl
  obtain ⟨o3, k3⟩ := hone_of hone 3 f3 rfl
  obtain ⟨o4, k4⟩ := hone_of hone 4 f4 rfl
  obtain ⟨o5, k5⟩ := hone_of hone 5 f5 rfl
  obtain ⟨o6, k6⟩ := hone_of hone 6 f6 rfl
  match xs, hxl with
  | [y0, y1, y2, y3, y4, y5, y6], _ =>
    have g0 : DataW.trod enc Try.prog w base (fun _ => true) held n f0.type [c0] = some y0 := by simpa [Value.cells, o0, k0] using hft 0 f0 rfl
    have g1 : DataW.trod enc Try.prog w base (fun _ => true) held n f1.type [c1] = some y1 := by simpa [Value.cells, o1, k1] using hft 1 f1 rfl
    have g2 : DataW.trod enc Try.prog w base (fun _ => true) held n f2.type [c2] = some y2 := by simpa [Value.cells, o2, k2] using hft 2 f2 rfl
    have g3 : DataW.trod enc Try.prog w base (fun _ => true) held n f3.type [c3] = some y3 := by simpa [Value.cells, o3, k3] using hft 3 f3 rfl
    have g4 : DataW.trod enc Try.prog w base (fun _ => true) held n f4.type [c4] = some y4 := by simpa [Value.cells, o4, k4] using hft 4 f4 rfl
    have g5 : DataW.trod enc Try.prog w base (fun _ => true) held n f5.type [c5] = some y5 := by simpa [Value.cells, o5, k5] using hft 5 f5 rfl
    have g6 : DataW.trod enc Try.prog w base (fun _ => true) held n f6.type [c6] = some y6 := by simpa [Value.cells, o6, k6] using hft 6 f6 rfl
    obtain ⟨ad, ld, cd, rfl⟩ := slice_shape h0 g0
    obtain ⟨ac, lc, cc, rfl⟩ := slice_shape h4 g4
    obtain ⟨aq, lq, cq, rfl⟩ := slice_shape h5 g5
    obtain ⟨D, rfl, hD, hDl, hDt⟩ := open_pats h0 hp hpo hpc hp0 hp1 hp2 g0
    obtain ⟨C, rfl, hCc, hCl, hCr⟩ := open_cols h4 hu huc hi hic g4
    obtain ⟨Q, hQl, hQ, hQm⟩ := open_recs h5 hr hro hrc hr0 hr1 hr2 g5
    obtain ⟨n1, e1, _, _⟩ := DataW.trod_int h1 g1
    obtain ⟨n2, e2, _, _⟩ := DataW.trod_int h2 g2
    obtain ⟨n3, e3, _, _⟩ := DataW.trod_int h3 g3
    obtain ⟨z, e6, _⟩ := DataW.trod_bool h6 g6
    simp only [List.cons.injEq, and_true] at e1 e2 e3 e6
    subst e1 e2 e3 e6
    exact ⟨⟨D, n1, n2, n3, C, Q, z⟩, ⟨ad, ac, aq, cd, cc, cq, lq, rfl, hQl, hD, hCc, hQ⟩, ⟨hDl, hDt, hCl, fun i hi => (hCr i hi).1, by show Q.length ≤ _; omega⟩, fun i hi => (hCr i hi).2⟩
end
end Go.Proofs.Ytodmohepgmhipaa

/-
  A slice of structs of three numbers that came in: opened.
-/
import Derived.Deep.Slices
import Derived.Deep.Strs
import Derived.Lib.SmallJoins
import Derived.ProofKit
import Derived.Test.YtpniiaemgobaiaaInts
namespace Go.Proofs.Ytpniiaemgobaiaa
open Go.ChangeShapes Go.WideShapes Go.Deep Go.Joins Go.ChangeAt Go.RowKit
set_option linter.unusedVariables false
set_option maxRecDepth 100000
section
variable {H : Type} {enc : TypeId × Value → H} {w : World} {base : Nat} {held : Bool}
theorem open_recs {t e : TypeId} {f0 f1 f2 : Field} {fuel : Nat} {a0 : Option Addr} {len0 cap0 : Nat} {x : DataW H × List MemPlace} (ht : Try.prog.underlying t = some (.slice e)) (he : Try.prog.underlying e = some (.struct #[f0, f1, f2])) (hone : oneCellFields Try.prog #[f0, f1, f2] = true) (hC : Try.prog.cellsOf e = 3)
    (ht0 : Try.prog.underlying f0.type = some (.int .i64)) (ht1 : Try.prog.underlying f1.type = some (.int .i64)) (ht2 : Try.prog.underlying f2.type = some (.int .i64))
    (h : DataW.trod enc Try.prog w base (fun _ => true) held fuel t [.slice a0 len0 cap0] = some x) :
    ∃ Q : List Int, Q.length = len0 * 3 ∧ Ints w a0 Q ∧ len0 ≤ maxLen := by
  rcases open_slice ht h with ⟨hcs, _⟩ | ⟨a, len, cap, m, n, D, Pl, hcs, hb, hl, hm, hmm, hx, hit⟩
  · simp only [List.cons.injEq, Value.slice.injEq, and_true] at hcs
    obtain ⟨rfl, rfl, rfl⟩ := hcs
    exact ⟨[], rfl, .inl rfl, by omega⟩
  · simp only [List.cons.injEq, Value.slice.injEq, and_true] at hcs
    obtain ⟨rfl, rfl, rfl⟩ := hcs
    have hlm : len0 ≤ m := by rw [hmm]; split <;> omega
    have one : ∀ i, i < len0 → ∃ p : Int × Int × Int, w.cell? ((a.add (i * 3)).add 0) = some (.int .i64 p.1) ∧ w.cell? ((a.add (i * 3)).add 1) = some (.int .i64 p.2.1) ∧ w.cell? ((a.add (i * 3)).add 2) = some (.int .i64 p.2.2) := by
      intro i hi0
      obtain ⟨cs', hcc, ht'⟩ := hit i (by omega)
      rw [hC] at hcc
      obtain ⟨_, hlen, hat⟩ := World.cells?_some hcc
      obtain ⟨y0, y1, y2, n', hx', _, h0, h1, h2⟩ := trod_struct3 he ht'
      obtain ⟨o0, k0⟩ := hone_of hone 0 f0 rfl
      obtain ⟨o1, k1⟩ := hone_of hone 1 f1 rfl
      obtain ⟨o2, k2⟩ := hone_of hone 2 f2 rfl
      match cs', hlen with
      | [v0, v1, v2], _ =>
        have g0 : DataW.trod enc Try.prog w base (fun _ => true) held n' f0.type [v0] = some y0 := by simpa [o0, k0] using h0
        have g1 : DataW.trod enc Try.prog w base (fun _ => true) held n' f1.type [v1] = some y1 := by simpa [o1, k1] using h1
        have g2 : DataW.trod enc Try.prog w base (fun _ => true) held n' f2.type [v2] = some y2 := by simpa [o2, k2] using h2
        obtain ⟨p, e0, _, _⟩ := DataW.trod_int ht0 g0
        obtain ⟨q, e1, _, _⟩ := DataW.trod_int ht1 g1
        obtain ⟨d, e2, _, _⟩ := DataW.trod_int ht2 g2
        simp only [List.cons.injEq, and_true] at e0 e1 e2
        subst e0 e1 e2
        exact ⟨⟨p, q, d⟩, by rw [hat 0 (by omega)]; rfl, by rw [hat 1 (by omega)]; rfl, by rw [hat 2 (by omega)]; rfl⟩
    obtain ⟨V, hV⟩ := choose_lt one
    let F : Nat → Int := fun i => if i % 3 = 0 then (V (i / 3)).1 else if i % 3 = 1 then (V (i / 3)).2.1 else (V (i / 3)).2.2
    refine ⟨tab F (len0 * 3), tab_length _ _, ?_, by omega⟩
    by_cases h0 : len0 = 0
    · left; subst h0; rfl
    · right
      obtain ⟨b, off, spot⟩ := a
      have hspot : spot = none := by
        have := World.cell?_spot (hV 0 (by omega)).1
        simpa [Addr.add] using this
      subst hspot
      refine ⟨b, off, rfl, fun i hi0 => ?_⟩
      rw [tab_length] at hi0
      rw [intAt_tab _ _ _ hi0]
      obtain ⟨q0, q1, q2⟩ := hV (i / 3) (by omega)
      rw [Addr.add_lit, Addr.add_lit] at q0 q1 q2
      have hm : i % 3 = 0 ∨ i % 3 = 1 ∨ i % 3 = 2 := by omega
      show w.cell? ⟨b, off + i, none⟩ = some (.int .i64 (if i % 3 = 0 then (V (i / 3)).1 else if i % 3 = 1 then (V (i / 3)).2.1 else (V (i / 3)).2.2))
      rcases hm with hm | hm | hm
      · rw [if_pos hm, ← q0]; congr 2; omega
      · rw [if_neg (by omega), if_pos hm, ← q1]; congr 2; omega
      · rw [if_neg (by omega), if_neg (by omega), ← q2]; congr 2; omega
end
end Go.Proofs.Ytpniiaemgobaiaa

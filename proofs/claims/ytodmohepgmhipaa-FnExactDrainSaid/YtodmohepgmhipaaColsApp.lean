/-
  Rows that a call makes one by one and appends.
-/
import Derived.Test.YtodmohepgmhipaaColsMade
import Derived.Deep.AppendLies
namespace Go.Proofs.Ytodmohepgmhipaa
open Go.RowKit
set_option linter.unusedVariables false
set_option maxRecDepth 100000
def colTo (cA : Nat → Option Addr) (cC : Nat → Nat) (C : List (List Int)) (k : Nat) : List Value := (List.range k).map fun j => .slice (cA j) (rowAt C j).length (cC j)
theorem colTo_succ (cA : Nat → Option Addr) (cC : Nat → Nat) (C : List (List Int)) (k : Nat) (a : Option Addr) (c : Nat) : colTo (upf cA k a) (upf cC k c) C (k + 1) = colTo cA cC C k ++ [.slice a (rowAt C k).length c] := by
  unfold colTo
  rw [List.range_succ, List.map_append]
  congr 1
  · apply List.map_congr_left
    intro j hj
    have : j ≠ k := by have := List.mem_range.1 hj; omega
    rw [upf_other _ _ _ _ this, upf_other _ _ _ _ this]
  · simp [upf_self]
structure CApp (w : World) (B k : Nat) (C : List (List Int)) (ac : Option Addr) (cap : Nat) (cA : Nat → Option Addr) (cC : Nat → Nat) : Prop where
  top : OwnV 56 1 w B ac k cap (colTo cA cC C k)
  row : ∀ j, j < k → WrI w (cA j) (rowAt C j)
  lies : Lies B w.heap.size k cA (fun j => (rowAt C j).length)
  far : ∀ j, j < k → (rowAt C j).length ≠ 0 → ∀ g o, cA j = some ⟨g, o, none⟩ → (Value.slice ac k cap).ownBlock ≠ some g
theorem CApp.start (w : World) (B : Nat) (C : List (List Int)) : CApp w B 0 C none 0 (fun _ => none) (fun _ => 0) :=
  ⟨OwnV.nil _ _, fun j hj => by omega, Lies.zero _ _ _ _, fun j hj => by omega⟩
theorem CApp.kept {w w1 : World} {B k cap : Nat} {C : List (List Int)} {ac : Option Addr} {cA : Nat → Option Addr} {cC : Nat → Nat} (h : CApp w B k C ac cap cA cC) (hb : Below w.heap.size w w1) : CApp w1 B k C ac cap cA cC :=
  ⟨h.top.kept hb, fun j hj => Wr.kept (h.row j hj) hb, h.lies.wide (Nat.le_refl _) hb.size, h.far⟩
theorem CApp.step {w w1 w2 : World} {B k cap c g cap2 : Nat} {C : List (List Int)} {ac a : Option Addr} {cA : Nat → Option Addr} {cC : Nat → Nat} (h : CApp w B k C ac cap cA cC) (hB : B ≤ w.heap.size)
    (hb1 : Below w.heap.size w w1) (ho : OwnN w1 w.heap.size a (rowAt C k).length c (rowAt C k))
    (hown : w2.ownsRow B 56 1 (.slice (some ⟨g, 0, none⟩) (k + 1) cap2) (k + 1) (colTo cA cC C k ++ [.slice a (rowAt C k).length c]))
    (hg : w1.grownBy w2 (Value.slice ac k cap).ownBlock) (hgl : (Value.slice ac k cap).ownBlock = some g ∨ g = w1.heap.size) (hlt : g < w2.heap.size) :
    CApp w2 B (k + 1) C (some ⟨g, 0, none⟩) cap2 (upf cA k a) (upf cC k c) := by
  have htop : ∀ q, (Value.slice ac k cap).ownBlock = some q → q < w.heap.size := h.top.turn_lt
  refine ⟨⟨?_, ?_⟩, fun j hj => ?_, ?_, fun j hj hn g' o' e => ?_⟩
  · rw [colTo_succ, List.length_append, h.top.len]; simp
  · rw [colTo_succ]; exact hown
  · by_cases e : j = k
    · subst e
      rw [upf_self]
      exact Wr.grown ho.v.wr hg fun hV g' o' e1 e2 => by
        obtain ⟨g3, o3, e3, h3, _⟩ := ho.v.lie (map_nil hV)
        rw [e1] at e3; cases e3
        have := htop _ e2; omega
    · rw [upf_other _ _ _ _ e]
      exact Wr.grown (Wr.kept (h.row j (by omega)) hb1) hg fun hV g' o' e1 e2 => h.far j (by omega) (map_nil hV) g' o' e1 e2
  · have h1 := h.lies.congr (A' := upf cA k a) (N' := fun j => (rowAt C j).length) (fun i hi => upf_other _ _ _ _ (by omega)) (fun _ _ => rfl)
    have h2 := h1.more (E := w1.heap.size) hB hb1.size (fun hn => by
      obtain ⟨g3, o3, e3, h3, h4⟩ := ho.v.lie hn
      exact ⟨g3, o3, by rw [upf_self]; exact e3, h3, h4⟩)
    exact h2.wide (Nat.le_refl _) hg.size
  · by_cases ej : j = k
    · subst ej
      rw [upf_self] at e
      obtain ⟨g3, o3, e3, h3, h4⟩ := ho.v.lie hn
      rw [e] at e3; cases e3
      intro e4
      simp only [Value.ownBlock, Option.some.injEq] at e4
      rcases hgl with h5 | h5
      · have := htop _ h5; omega
      · omega
    · rw [upf_other _ _ _ _ ej] at e
      intro e4
      simp only [Value.ownBlock, Option.some.injEq] at e4
      subst e4
      rcases hgl with h5 | h5
      · exact h.far j (by omega) hn g o' e h5
      · obtain ⟨g3, o3, e3, _, h4⟩ := h.lies.inn j (by omega) hn
        rw [e] at e3; cases e3
        have := hb1.size; omega
theorem CApp.done {w : World} {B cap : Nat} {C : List (List Int)} {ac : Option Addr} {cA : Nat → Option Addr} {cC : Nat → Nat} (h : CApp w B C.length C ac cap cA cC) : ColsW w ac cA cC C ∧ Lies B w.heap.size (C.length + 1) (cSlot ac cA) (cLen C.length C) := by
  refine ⟨⟨h.top.wr, h.row⟩, fun i hi hn => ?_, fun i j hij hj ni nj g o g' o' e1 e2 => ?_⟩
  · match i, hi, hn with
    | 0, _, hn => exact h.top.lie hn
    | i + 1, hi, hn => exact h.lies.inn i (by omega) hn
  · match i, j, hij, hj, ni, nj, e1, e2 with
    | 0, j + 1, _, hj, ni, nj, e1, e2 =>
      intro e
      subst e
      have e1' : ac = some ⟨g, o, none⟩ := e1
      refine h.far j (by omega) nj g o' e2 ?_
      rw [e1']; rfl
    | i + 1, j + 1, hij, hj, ni, nj, e1, e2 => exact h.lies.apart i j (by omega) (by omega) ni nj g o g' o' e1 e2
end Go.Proofs.Ytodmohepgmhipaa

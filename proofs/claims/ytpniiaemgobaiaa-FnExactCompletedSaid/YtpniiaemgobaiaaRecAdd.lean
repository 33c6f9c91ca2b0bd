/-
  Chapter 9's model: one record more, put in.
-/
import Derived.Test.YtpniiaemgobaiaaRecsOf
import Derived.Test.YtpniiaemgobaiaaRecs
import Derived.Laws.AppendOwnNone
namespace Go.Proofs.Ytpniiaemgobaiaa
open Go.RowKit
set_option linter.unusedVariables false
set_option maxRecDepth 100000
def rcAt (L : List Rc) (i : Nat) : Rc := L.getD i ⟨0, 0, 0⟩
def recI : List Rc → List Int
  | [] => []
  | r :: l => r.p :: r.e :: r.d :: recI l
theorem recI_length (L : List Rc) : (recI L).length = L.length * 3 := by
  induction L with
  | nil => rfl
  | cons r l ih => simp only [recI, List.length_cons, ih]; omega
theorem recI_append (L M : List Rc) : recI (L ++ M) = recI L ++ recI M := by
  induction L with
  | nil => rfl
  | cons r l ih => simp only [List.cons_append, recI, ih]
theorem recI_take (L : List Rc) (k : Nat) (h : k ≤ L.length) : recI (L.take k) = (recI L).take (k * 3) := by
  have e := recI_append (L.take k) (L.drop k)
  rw [List.take_append_drop] at e
  rw [e, List.take_left' (by rw [recI_length, List.length_take]; omega)]
theorem recI_drop (L : List Rc) (k : Nat) (h : k ≤ L.length) : recI (L.drop k) = (recI L).drop (k * 3) := by
  have e := recI_append (L.take k) (L.drop k)
  rw [List.take_append_drop] at e
  rw [e, List.drop_left' (by rw [recI_length, List.length_take]; omega)]
theorem recI_at (L : List Rc) : ∀ i, i < L.length → intAt (recI L) (i * 3) = (rcAt L i).p ∧ intAt (recI L) (i * 3 + 1) = (rcAt L i).e ∧ intAt (recI L) (i * 3 + 2) = (rcAt L i).d := by
  induction L with
  | nil => intro i hi; simp at hi
  | cons r l ih =>
    intro i hi
    cases i with
    | zero => exact ⟨rfl, rfl, rfl⟩
    | succ i =>
      have h := ih i (by simpa using hi)
      have e : (i + 1) * 3 = i * 3 + 3 := by omega
      rw [e]
      simpa [recI, intAt, rcAt, List.getD_eq_getElem?_getD] using h
theorem addR_split (L : List Rc) (x : Rc) : ∀ k, k ≤ L.length → (∀ i, i < k → ltR (rcAt L i) x) → (k = L.length ∨ ¬ ltR (rcAt L k) x) → addR L x = L.take k ++ x :: L.drop k := by
  induction L with
  | nil => intro k hk _ _; simp [addR]
  | cons y l ih =>
    intro k hk h1 h2
    cases k with
    | zero =>
      have hn : ¬ ltR y x := by
        rcases h2 with h2 | h2
        · simp at h2
        · exact h2
      unfold addR
      rw [if_neg hn]; rfl
    | succ k =>
      have hy : ltR y x := h1 0 (by omega)
      unfold addR
      rw [if_pos hy, ih k (by simpa using hk) (fun i hi => h1 (i + 1) (by omega)) (by
        rcases h2 with h2 | h2
        · left; simpa using h2
        · right; exact h2)]
      rfl
theorem OwnM.part {e m : Nat} {w : World} {B g n cap : Nat} {L : List Int} (h : OwnM e m w B (some ⟨g, 0, none⟩) n cap L) (s t : Nat) : ∀ j u, (((L.drop s).take t).map (Value.int .i64))[j]? = some u → w.cell? ((⟨g, s, none⟩ : Addr).add j) = some u := by
  intro j u hu
  have hj : j < ((L.drop s).take t).length := by
    have := (List.getElem?_eq_some_iff.1 hu).1
    simpa using this
  have hj2 : s + j < n * m := by
    have := h.len; rw [List.length_take, List.length_drop] at hj; omega
  rw [Addr.add_lit, h.cell (s + j) hj2]
  rw [List.getElem?_map, List.getElem?_take, if_pos (by rw [List.length_take] at hj; omega), List.getElem?_drop] at hu
  have hl := h.len
  rw [List.getElem?_eq_getElem (by omega)] at hu
  simp only [Option.map_some, Option.some.injEq] at hu
  rw [← hu]
  simp [intAt, List.getD_eq_getElem?_getD, List.getElem?_eq_getElem (show s + j < L.length by omega)]
end Go.Proofs.Ytpniiaemgobaiaa

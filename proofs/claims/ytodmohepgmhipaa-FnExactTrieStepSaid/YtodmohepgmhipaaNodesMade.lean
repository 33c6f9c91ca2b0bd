/-
  Slices of nodes that a law makes: the slices nested in them, apart from each other.
-/
import Derived.Test.YtodmohepgmhipaaNodesOwn
namespace Go.Proofs.Ytodmohepgmhipaa
open Go.RowKit
set_option linter.unusedVariables false
set_option maxRecDepth 100000
theorem node_info : (Try.prog.info? 87).map (fun i => (i.zero, i.size, i.bytes)) = some (some (.agg #[.int .i64 0, .int .i64 0, .int .i64 0, .slice none 0 0, .slice none 0 0]), 5, 72) := by kernel_rfl
def updN {α : Type} (f : Nat → α) (i : Nat) (x : α) : Nat → α := fun j => if j = i then x else f j
theorem updN_other {α : Type} (f : Nat → α) (i j : Nat) (x : α) (h : j ≠ i) : updN f i x j = f j := by unfold updN; rw [if_neg h]
theorem updN_self {α : Type} (f : Nat → α) (i : Nat) (x : α) : updN f i x i = x := by unfold updN; rw [if_pos rfl]
/-- m slices of numbers, owned from B on, below C, none of them in block g, no two in one block -/
structure Nest (w : World) (B C g m : Nat) (S : Nat → Value) (M : Nat → List Int) : Prop where
  own : ∀ j, j < m → ∃ a cap, S j = .slice a (M j).length cap ∧ OwnN w B a (M j).length cap (M j)
  lies : ∀ j, j < m → ∀ k, (S j).ownBlock = some k → k < C ∧ k ≠ g
  apart : ∀ i j, i < j → j < m → ∀ k, (S i).ownBlock = some k → (S j).ownBlock ≠ some k
theorem Nest.kept {w w1 : World} {B C g m : Nat} {S : Nat → Value} {M : Nat → List Int} (h : Nest w B C g m S M) (hb : Below w.heap.size w w1) : Nest w1 B C g m S M :=
  ⟨fun j hj => by obtain ⟨a, cap, e, ho⟩ := h.own j hj; exact ⟨a, cap, e, ho.kept hb⟩, h.lies, h.apart⟩
theorem OwnN.grown {w w1 : World} {B : Nat} {a : Option Addr} {n cap : Nat} {L : List Int} {r : Option Nat} (h : OwnN w B a n cap L) (hg : w.grownBy w1 r) (hr : ∀ k, (Value.slice a n cap).ownBlock = some k → r ≠ some k) : OwnN w1 B a n cap L := by
  refine ⟨h.1, h.2.kept hg ?_⟩
  cases hv : (Value.slice a n cap).ownBlock with
  | none => exact .inl rfl
  | some k => exact .inr fun e => hr k hv e.symm
theorem Nest.setg {w : World} {B C g m : Nat} {S : Nat → Value} {M : Nat → List Int} (h : Nest w B C g m S M) (o : Nat) (v : Value) : Nest (w.setCell ⟨g, o, none⟩ v) B C g m S M :=
  ⟨fun j hj => by
    obtain ⟨a, cap, e, ho⟩ := h.own j hj
    refine ⟨a, cap, e, ho.grown (grownBy_setCell1 w g o v) fun k hk e2 => ?_⟩
    have := (h.lies j hj k (by rw [e]; exact hk)).2
    simp only [Option.some.injEq] at e2
    exact this e2.symm, h.lies, h.apart⟩
theorem Nest.mono {w : World} {B C D g m : Nat} {S : Nat → Value} {M : Nat → List Int} (h : Nest w B C g m S M) (hC : C ≤ D) : Nest w B D g m S M :=
  ⟨h.own, fun j hj k hk => ⟨by have := (h.lies j hj k hk).1; omega, (h.lies j hj k hk).2⟩, h.apart⟩
theorem Nest.congr {w : World} {B C g m : Nat} {S S' : Nat → Value} {M M' : Nat → List Int} (h : Nest w B C g m S M) (hS : ∀ j, j < m → S' j = S j) (hM : ∀ j, j < m → M' j = M j) : Nest w B C g m S' M' :=
  ⟨fun j hj => by obtain ⟨a, cap, e, ho⟩ := h.own j hj; exact ⟨a, cap, by rw [hS j hj, hM j hj]; exact e, by rw [hM j hj]; exact ho⟩,
   fun j hj k hk => h.lies j hj k (by rw [← hS j hj]; exact hk), fun i j hij hj k hk => by rw [hS j hj]; exact h.apart i j hij hj k (by rw [← hS i (by omega)]; exact hk)⟩
/-- one more, all of whose block lies behind the others -/
theorem Nest.more {w : World} {B C D g m : Nat} {S : Nat → Value} {M : Nat → List Int} {a : Option Addr} {cap : Nat} {K : List Int} (h : Nest w B C g m S M) (ho : OwnN w C a K.length cap K) (hB : B ≤ C) (hg : g < C) (hD : ∀ k, (Value.slice a K.length cap).ownBlock = some k → k < D) (hC : C ≤ D) :
    Nest w B D g (m + 1) (updN S m (.slice a K.length cap)) (updN M m K) := by
  have hlo : ∀ k, (Value.slice a K.length cap).ownBlock = some k → C ≤ k := fun k hk => (ho.2.lt k hk).1
  refine ⟨fun j hj => ?_, fun j hj k hk => ?_, fun i j hij hj k hk => ?_⟩
  · by_cases e : j = m
    · subst e; rw [updN_self, updN_self]; exact ⟨a, cap, rfl, ho.mono hB⟩
    · rw [updN_other _ _ _ _ e, updN_other _ _ _ _ e]; exact h.own j (by omega)
  · by_cases e : j = m
    · subst e; rw [updN_self] at hk; have := hlo k hk; exact ⟨hD k hk, by omega⟩
    · rw [updN_other _ _ _ _ e] at hk; have := h.lies j (by omega) k hk; exact ⟨by omega, this.2⟩
  · have hi : i ≠ m := by omega
    rw [updN_other _ _ _ _ hi] at hk
    by_cases e : j = m
    · subst e; rw [updN_self]; intro e2; have h1 := hlo k e2; have h2 := (h.lies i hij k hk).1; omega
    · rw [updN_other _ _ _ _ e]; exact h.apart i j hij (by omega) k hk
/-- one of them marked -/
theorem Nest.mark {w w1 : World} {B C g m j : Nat} {S : Nat → Value} {M : Nat → List Int} {a : Option Addr} {cap : Nat} {K : List Int} (h : Nest w B C g m S M) (hj : j < m) (hS : S j = .slice a (M j).length cap) (hl : K.length = (M j).length)
    (ho : OwnN w1 B a (M j).length cap K) (hg : w.grownBy w1 (Value.slice a (M j).length cap).ownBlock) : Nest w1 B C g m S (updN M j K) := by
  refine ⟨fun i hi => ?_, h.lies, h.apart⟩
  by_cases e : i = j
  · subst e; rw [updN_self, hl]; exact ⟨a, cap, hS, ho⟩
  · rw [updN_other _ _ _ _ e]
    obtain ⟨a', cap', e', ho'⟩ := h.own i hi
    refine ⟨a', cap', e', ho'.grown hg fun k hk e2 => ?_⟩
    have hk2 : (S i).ownBlock = some k := by rw [e']; exact hk
    have hk3 : (S j).ownBlock = some k := by rw [hS]; exact e2
    by_cases hij : i < j
    · exact h.apart i j hij hj k hk2 hk3
    · exact h.apart j i (by omega) hi k hk3 hk2
theorem Nest.none (w : World) (B C g : Nat) (S : Nat → Value) (M : Nat → List Int) : Nest w B C g 0 S M := ⟨fun j hj => by omega, fun j hj => by omega, fun i j _ hj => by omega⟩
/-- the lists of the nodes, two a node -/
def lstOf (L : List Nd) (j : Nat) : List Int := if j % 2 = 0 then (ndAt L (j / 2)).K else (ndAt L (j / 2)).O
theorem lstOf_even (L : List Nd) (i : Nat) : lstOf L (i * 2) = (ndAt L i).K := by
  unfold lstOf; rw [if_pos (by omega), show i * 2 / 2 = i by omega]
theorem lstOf_odd (L : List Nd) (i : Nat) : lstOf L (i * 2 + 1) = (ndAt L i).O := by
  unfold lstOf; rw [if_neg (by omega), show (i * 2 + 1) / 2 = i by omega]
/-- block g holds n nodes, the first k those of L; what is nested in them lies apart -/
structure NMade (w : World) (B C g n k : Nat) (L : List Nd) (cur : Array Value) (S : Nat → Value) : Prop where
  blk : w.heap[g]? = some (.cells cur 87 (0, 0))
  siz : cur.size = n * 5
  row : ∀ i, i < k → cur[i * 5]? = some (.int .i64 (ndAt L i).b) ∧ cur[i * 5 + 1]? = some (.int .i64 (ndAt L i).p) ∧ cur[i * 5 + 2]? = some (.int .i64 (ndAt L i).f) ∧ cur[i * 5 + 3]? = some (S (i * 2)) ∧ cur[i * 5 + 4]? = some (S (i * 2 + 1))
  nest : Nest w B C g (k * 2) S (lstOf L)
theorem NMade.kept {w w1 : World} {B C g n k : Nat} {L : List Nd} {cur : Array Value} {S : Nat → Value} (h : NMade w B C g n k L cur S) (hb : Below w.heap.size w w1) : NMade w1 B C g n k L cur S :=
  ⟨(hb.block _ (lt_of_block h.blk)).trans h.blk, h.siz, h.row, h.nest.kept hb⟩
theorem NMade.nds {w : World} {B C g : Nat} {L : List Nd} {cur : Array Value} {S : Nat → Value} (h : NMade w B C g L.length L.length L cur S) : Nds w (some ⟨g, 0, none⟩) L := by
  refine .inr ⟨g, 0, rfl, fun i hi => ?_⟩
  obtain ⟨q0, q1, q2, q3, q4⟩ := h.row i hi
  obtain ⟨a3, c3, e3, o3⟩ := h.nest.own (i * 2) (by omega)
  obtain ⟨a4, c4, e4, o4⟩ := h.nest.own (i * 2 + 1) (by omega)
  rw [lstOf_even] at e3 o3
  rw [lstOf_odd] at e4 o4
  simp only [Nat.zero_add]
  exact ⟨(cell_of_row w g _ _ _ _ h.blk).trans q0, (cell_of_row w g _ _ _ _ h.blk).trans q1, (cell_of_row w g _ _ _ _ h.blk).trans q2, ⟨a3, c3, ((cell_of_row w g _ _ _ _ h.blk).trans q3).trans (by rw [e3]), o3.ints⟩, ⟨a4, c4, ((cell_of_row w g _ _ _ _ h.blk).trans q4).trans (by rw [e4]), o4.ints⟩⟩
def row5 (cur : Array Value) (o : Nat) (v0 v1 v2 v3 v4 : Value) : Array Value := ((((cur.setIfInBounds o v0).setIfInBounds (o + 1) v1).setIfInBounds (o + 2) v2).setIfInBounds (o + 3) v3).setIfInBounds (o + 4) v4
def set5 (w : World) (g o : Nat) (v0 v1 v2 v3 v4 : Value) : World := ((((w.setCell ⟨g, o, none⟩ v0).setCell ⟨g, o + 1, none⟩ v1).setCell ⟨g, o + 2, none⟩ v2).setCell ⟨g, o + 3, none⟩ v3).setCell ⟨g, o + 4, none⟩ v4
theorem row5_at (cur : Array Value) (o n : Nat) (v0 v1 v2 v3 v4 : Value) (hs : cur.size = n) (ho : o + 5 ≤ n) : (row5 cur o v0 v1 v2 v3 v4)[o]? = some v0 ∧ (row5 cur o v0 v1 v2 v3 v4)[o + 1]? = some v1 ∧ (row5 cur o v0 v1 v2 v3 v4)[o + 2]? = some v2 ∧ (row5 cur o v0 v1 v2 v3 v4)[o + 3]? = some v3 ∧ (row5 cur o v0 v1 v2 v3 v4)[o + 4]? = some v4 := by
  unfold row5
  simp only [Array.getElem?_setIfInBounds, Array.size_setIfInBounds]
  refine ⟨?_, ?_, ?_, ?_, ?_⟩
  · rw [if_neg (by omega), if_neg (by omega), if_neg (by omega), if_neg (by omega), if_pos trivial, if_pos (by omega)]
  · rw [if_neg (by omega), if_neg (by omega), if_neg (by omega), if_pos trivial, if_pos (by omega)]
  · rw [if_neg (by omega), if_neg (by omega), if_pos trivial, if_pos (by omega)]
  · rw [if_neg (by omega), if_pos trivial, if_pos (by omega)]
  · rw [if_pos trivial, if_pos (by omega)]
theorem row5_other (cur : Array Value) (o i : Nat) (v0 v1 v2 v3 v4 : Value) (h : i < o ∨ o + 5 ≤ i) : (row5 cur o v0 v1 v2 v3 v4)[i]? = cur[i]? := by
  unfold row5
  simp only [Array.getElem?_setIfInBounds]
  rw [if_neg (by omega), if_neg (by omega), if_neg (by omega), if_neg (by omega), if_neg (by omega)]
theorem NMade.step {w : World} {B C D E g n k : Nat} {L : List Nd} {cur : Array Value} {S : Nat → Value} {a1 a2 : Option Addr} {c1 c2 : Nat} (h : NMade w B C g n k L cur S) (hk : k < n) (hB : B ≤ C) (hg : g < C) (hCD : C ≤ D) (hDE : D ≤ E)
    (h1 : OwnN w C a1 (ndAt L k).K.length c1 (ndAt L k).K) (h1D : ∀ j, (Value.slice a1 (ndAt L k).K.length c1).ownBlock = some j → j < D)
    (h2 : OwnN w D a2 (ndAt L k).O.length c2 (ndAt L k).O) (h2E : ∀ j, (Value.slice a2 (ndAt L k).O.length c2).ownBlock = some j → j < E) :
    ∃ cur' S', NMade (set5 w g (k * 5) (.int .i64 (ndAt L k).b) (.int .i64 (ndAt L k).p) (.int .i64 (ndAt L k).f) (.slice a1 (ndAt L k).K.length c1) (.slice a2 (ndAt L k).O.length c2)) B E g n (k + 1) L cur' S' := by
  refine ⟨row5 cur (k * 5) (.int .i64 (ndAt L k).b) (.int .i64 (ndAt L k).p) (.int .i64 (ndAt L k).f) (.slice a1 (ndAt L k).K.length c1) (.slice a2 (ndAt L k).O.length c2), updN (updN S (k * 2) (.slice a1 (ndAt L k).K.length c1)) (k * 2 + 1) (.slice a2 (ndAt L k).O.length c2), ?_, ?_, ?_, ?_⟩
  · exact heap_setCell_same _ _ _ _ _ _ (heap_setCell_same _ _ _ _ _ _ (heap_setCell_same _ _ _ _ _ _ (heap_setCell_same _ _ _ _ _ _ (heap_setCell_same _ _ _ _ _ _ h.blk))))
  · simpa [row5] using h.siz
  · intro i hi
    by_cases e : i = k
    · subst e
      obtain ⟨q0, q1, q2, q3, q4⟩ := row5_at cur (i * 5) (n * 5) (.int .i64 (ndAt L i).b) (.int .i64 (ndAt L i).p) (.int .i64 (ndAt L i).f) (.slice a1 (ndAt L i).K.length c1) (.slice a2 (ndAt L i).O.length c2) h.siz (by omega)
      refine ⟨q0, q1, q2, ?_, ?_⟩
      · rw [updN_other _ _ _ _ (by omega), updN_self]; exact q3
      · rw [updN_self]; exact q4
    · obtain ⟨q0, q1, q2, q3, q4⟩ := h.row i (by omega)
      rw [row5_other _ _ _ _ _ _ _ _ (by omega), row5_other _ _ _ _ _ _ _ _ (by omega), row5_other _ _ _ _ _ _ _ _ (by omega), row5_other _ _ _ _ _ _ _ _ (by omega), row5_other _ _ _ _ _ _ _ _ (by omega)]
      refine ⟨q0, q1, q2, ?_, ?_⟩
      · rw [updN_other _ _ _ _ (by omega), updN_other _ _ _ _ (by omega)]; exact q3
      · rw [updN_other _ _ _ _ (by omega), updN_other _ _ _ _ (by omega)]; exact q4
  · have hm := (h.nest.more h1 hB hg h1D hCD).more h2 (by omega) (by omega) h2E hDE
    have hm2 := hm.congr (S' := updN (updN S (k * 2) (.slice a1 (ndAt L k).K.length c1)) (k * 2 + 1) (.slice a2 (ndAt L k).O.length c2)) (M' := lstOf L) (fun _ _ => rfl) (fun j hj => by
      by_cases e : j = k * 2 + 1
      · subst e; rw [updN_self, lstOf_odd]
      · rw [updN_other _ _ _ _ e]
        by_cases e2 : j = k * 2
        · subst e2; rw [updN_self, lstOf_even]
        · rw [updN_other _ _ _ _ e2])
    rw [show (k + 1) * 2 = k * 2 + 1 + 1 by omega]
    exact ((((hm2.setg _ _).setg _ _).setg _ _).setg _ _).setg _ _
end Go.Proofs.Ytodmohepgmhipaa

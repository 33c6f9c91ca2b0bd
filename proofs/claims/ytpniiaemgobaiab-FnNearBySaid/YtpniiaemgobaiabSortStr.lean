/-
  slices.Sort and slices.Compact of texts of one's own.
-/
import Derived.Test.YtpniiaemgobaiabMTree
import Derived.Test.YtpniiaemgobaiabIterLay
import Derived.Test.YtpniiaemgobaiabCompLay
import Derived.Shelf.SlicesG.CompactS
namespace Go.Proofs.Ytpniiaemgobaiab
open Go.RowKit Go.Sort Go.Shelf
set_option linter.unusedVariables false
set_option maxRecDepth 100000
theorem putCells_strs (K : List (List UInt8)) (off : Nat) (c : Array Value) : putCells Go.Proofs.encStr off K.toArray c = putCells id off (strs K).toArray c := by
  unfold putCells
  apply Array.ext_getElem?
  intro i
  simp only [Array.getElem?_mapIdx, List.size_toArray, strs_length]
  congr 1
  funext v
  by_cases hc : off ≤ i ∧ i < off + K.length
  · rw [if_pos hc, if_pos hc]
    have hk : i - off < K.length := by omega
    have e1 : K.toArray[i - off]! = K[i - off] := by rw [getElem!_pos _ _ (by simpa using hk)]; simp
    have e2 : (strs K).toArray[i - off]! = strV K[i - off] := by rw [getElem!_pos _ _ (by simpa [strs_length] using hk)]; simp [strs]
    rw [e1, e2]
    rfl
  · rw [if_neg hc, if_neg hc]
theorem putRow_strs (K : List (List UInt8)) (w : World) (g off : Nat) : putRow Go.Proofs.encStr w g off K.toArray = putRow id w g off (strs K).toArray := by
  unfold putRow
  congr 1
  funext c
  exact putCells_strs K off c
theorem grow_none (w : World) : grow w #[] = w := by simp [grow]
theorem hput {w : World} {g m : Nat} {os : Array Obj} {cur : Array Value} {e : TypeId} {fr : Nat × Nat} (d : Array Value) (hb : w.heap[g]? = some (.cells cur e fr)) :
    (grow (putRow id (Sort.ahead w m) g 0 d) os).heap[g]? = some (.cells (putCells id 0 d cur) e fr) := by
  have hg : g < w.heap.size := (Array.getElem?_eq_some_iff.1 hb).1
  rw [heap_grow_old _ _ (by simpa using hg)]
  simp [putRow, mapBlock, Sort.ahead, Array.getElem?_modify, hb, onCells]
theorem gput {w : World} {g m : Nat} {os : Array Obj} (d : Array Value) : w.grownBy (grow (putRow id (Sort.ahead w m) g 0 d) os) (some g) := by
  refine ⟨rfl, rfl, rfl, by simp, fun k hk hne => ?_⟩
  rw [heap_grow_old _ _ (by simpa using hk)]
  have : g ≠ k := fun e => hne (by rw [e])
  simp [putRow, mapBlock, Sort.ahead, Array.getElem?_modify, this]
theorem tput (cur : Array Value) (V : List Value) (h : V.length ≤ cur.size) : (putCells id 0 V.toArray cur).toList.take V.length = V := by
  apply List.ext_getElem?
  intro j
  by_cases hj : j < V.length
  · rw [List.getElem?_take_of_lt hj, Array.getElem?_toList]
    simp [putCells, hj, show j < cur.size by omega]
  · rw [List.getElem?_take_eq_none (by omega), List.getElem?_eq_none (by omega)]
/-- behind a row of texts put in place: the row, cut to its first n' texts, is one's own -/
theorem own_put {w : World} {g n n' cap B m : Nat} {os : Array Obj} {V : List Value} (K : List (List UInt8)) (hO : OwnV 9 1 w B (some ⟨g, 0, none⟩) n cap V) (hK : K.length = n) (hn : n' ≤ n) :
    OwnV 9 1 (grow (putRow id (Sort.ahead w m) g 0 (strs K).toArray) os) B (some ⟨g, 0, none⟩) n' cap (strs (K.take n')) := by
  obtain ⟨hlen, hrow⟩ := hO
  rcases hrow.2 with ⟨hv, _⟩ | ⟨g2, cap2, cur, hv, hB, hg, hnc, hcm, hcs, htk⟩
  · cases hv
  simp only [Value.slice.injEq, Option.some.injEq, Addr.mk.injEq] at hv
  obtain ⟨⟨rfl, _⟩, _, rfl⟩ := hv
  have hl : (strs (K.take n')).length = n' * 1 := by rw [strs_length, List.length_take]; omega
  refine ⟨hl, hl, .inr ⟨g, cap, _, rfl, hB, hput _ hg, by omega, hcm, by simp [putCells, hcs], ?_⟩⟩
  have h1 := tput cur (strs K) (by rw [strs_length]; omega)
  rw [strs_length, hK] at h1
  have h2 : (strs K).take n' = strs (K.take n') := by unfold strs; rw [List.map_take]
  have h3 : (putCells id 0 (strs K).toArray cur).toList.take n' = ((putCells id 0 (strs K).toArray cur).toList.take n).take n' := by rw [List.take_take, show min n' n = n' by omega]
  rw [Nat.mul_one, h3, h1, h2]
theorem holds_strs {w : World} {g n cap B : Nat} {K : List (List UInt8)} (hl : K.length = n) (hO : OwnV 9 1 w B (some ⟨g, 0, none⟩) n cap (strs K)) : Holds Go.Proofs.encStr w g 0 K.toArray := by
  intro j hj
  have hj' : j < K.length := by simpa using hj
  have hc := hO.cell j (by omega)
  rw [strs_at hj'] at hc
  refine ⟨?_, ?_⟩
  · rw [Nat.zero_add, hc, getElem!_pos _ j (by simpa using hj')]
    simp [Go.Proofs.encStr, List.getD_eq_getElem?_getD, hj', txt]
  · rw [Nat.zero_add]; exact hO.frozen j
theorem compact_len (K : List (List UInt8)) : (Lib.compact K).length ≤ K.length := by
  unfold Lib.compact Lib.compactUpTo
  rw [List.length_map]
  exact Nat.le_trans (List.length_filter_le _ _) (by simp)
theorem sl_sortStrs (K : List (List UInt8)) (a : Option Addr) (n cap B : Nat) (w : World) (hl : K.length = n) (hO : OwnV 9 1 w B a n cap (strs K)) (hn : n < 4611686018427387904) :
    Calls Try.prog 58 #[.slice a n cap] w fun e w' => e = .returned (.tuple #[]) ∧ OwnV 9 1 w' B a n cap (strs (K.mergeSort (fun x y => decide (x ≤ y)))) ∧ w.grownBy w' (Value.slice a n cap).ownBlock := by
  by_cases h0 : n = 0
  · subst h0
    obtain rfl := List.eq_nil_of_length_eq_zero hl
    refine (AnyM.slices_Sort_string_none Try.sortOf a cap w).mono ?_
    rintro e w' ⟨rfl, rfl⟩
    exact ⟨rfl, by rw [List.mergeSort_nil]; exact hO, World.grownBy.refl _ _⟩
  · obtain ⟨g, rfl, hg1, hg2⟩ := hO.head 0 (by omega)
    have h := AnyM.slices_Sort_string Try.sortOf g 0 cap K w (holds_strs hl hO) hg2 (by omega)
    rw [hl] at h
    refine h.mono ?_
    rintro e w' ⟨rfl, m, os, rfl⟩
    rw [putRow_strs]
    have hs : (K.mergeSort (fun x y => decide (x ≤ y))).length = n := by rw [List.length_mergeSort, hl]
    have h1 := own_put (n' := n) (m := m) (os := os) (K.mergeSort (fun x y => decide (x ≤ y))) hO hs (Nat.le_refl _)
    rw [List.take_of_length_le (by omega)] at h1
    exact ⟨rfl, h1, gput _⟩
theorem sl_compactStrs (K : List (List UInt8)) (a : Option Addr) (n cap B : Nat) (w : World) (hl : K.length = n) (hO : OwnV 9 1 w B a n cap (strs K)) (hn : n < 4611686018427387904) :
    Calls Try.prog 63 #[.slice a n cap] w fun e w' => e = .returned (.slice a (Lib.compact K).length cap) ∧ OwnV 9 1 w' B a (Lib.compact K).length cap (strs (Lib.compact K)) ∧ w.grownBy w' (Value.slice a n cap).ownBlock := by
  by_cases h0 : n = 0
  · subst h0
    obtain rfl := List.eq_nil_of_length_eq_zero hl
    refine (AnyG.slices_Compact_string_empty Try.compactOf a cap w).mono ?_
    rintro e w' ⟨rfl, rfl⟩
    exact ⟨rfl, hO, World.grownBy.refl _ _⟩
  · obtain ⟨g, rfl, hg1, hg2⟩ := hO.head 0 (by omega)
    have hc := hO.cap_le
    have h := AnyG.slices_Compact_string Try.compactOf g 0 cap K w (holds_strs hl hO) (by omega) (by omega)
    rw [hl] at h
    refine h.mono ?_
    rintro e w' ⟨rfl, m, rfl⟩
    rw [putRow_strs]
    have hcl := compact_len K
    have h1 := own_put (n' := (Lib.compact K).length) (m := m) (os := #[]) (Lib.compact K ++ List.replicate (n - (Lib.compact K).length) []) hO (by rw [List.length_append, List.length_replicate]; omega) (by omega)
    rw [List.take_left, grow_none] at h1
    have h2 := gput (w := w) (g := g) (m := m) (os := #[]) (strs (Lib.compact K ++ List.replicate (n - (Lib.compact K).length) [])).toArray
    rw [grow_none] at h2
    exact ⟨rfl, h1, h2⟩
end Go.Proofs.Ytpniiaemgobaiab

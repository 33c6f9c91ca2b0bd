/-
  slices.SortFunc of records, by end, then pattern.
-/
import Derived.Test.YtodmohepgmhipaaRecAdd
import Derived.Test.YtodmohepgmhipaaCmp
import Derived.Test.YtodmohepgmhipaaSortLay
import Derived.Shelf.SlSortCmp.NoneTotal
namespace Go.Proofs.Ytodmohepgmhipaa
open Go.RowKit Go.Sort Go.Shelf
set_option linter.unusedVariables false
set_option maxRecDepth 100000
def encR (x : Rc) : List Value := [.int .i64 x.p, .int .i64 x.e, .int .i64 x.d]
instance inhR : Inhabited Rc := ⟨⟨0, 0, 0⟩⟩
def cfR (x y : Rc) : Int := cmpR x.p x.e y.p y.e
theorem cmpI_neg (x y : Int) : cmpI x y < 0 ↔ x < y := by
  unfold cmpI
  split
  · simp [*]
  · split <;> omega
theorem cmpI_zero (x y : Int) : cmpI x y = 0 ↔ x = y := by
  unfold cmpI
  split
  · omega
  · split <;> omega
theorem cfR_neg (x y : Rc) : cfR x y < 0 ↔ ltR x y := by
  have a1 := cmpI_neg x.e y.e
  have a2 := cmpI_zero x.e y.e
  have a3 := cmpI_neg x.p y.p
  unfold cfR cmpR orI ltR
  split
  · omega
  · omega
theorem ltOf_cfR (x y : Rc) : ltOf cfR x y = true ↔ ltR x y := by
  unfold ltOf; rw [decide_eq_true_eq]; exact cfR_neg x y
theorem ltOf_cfR_no (x y : Rc) : ltOf cfR x y = false ↔ ¬ ltR x y := by
  rw [← ltOf_cfR]; simp
theorem swoR : SWO (ltOf cfR) :=
  ⟨fun x => by rw [ltOf_cfR_no]; exact ltR_irrefl x, fun x y z h1 h2 => by rw [ltOf_cfR] at *; exact ltR_trans h1 h2, fun x y z h1 h2 => by rw [ltOf_cfR_no] at *; unfold ltR at *; omega⟩
theorem grow_of_below {w w' : World} (hb : Below w.heap.size w w') (hd : w.drawn ≤ w'.drawn) : ∃ q os, w' = grow (w.drewN q) os := by
  refine ⟨w'.drawn - w.drawn, w'.heap.extract w.heap.size w'.heap.size, ?_⟩
  obtain ⟨h1, h2, h3, h4, h5⟩ := hb
  have hh : w'.heap = w.heap ++ w'.heap.extract w.heap.size w'.heap.size := by
    apply Array.ext_getElem?
    intro i
    by_cases hi : i < w.heap.size
    · rw [Array.getElem?_append_left hi, h5 i hi]
    · rw [Array.getElem?_append_right (by omega), Array.getElem?_extract]
      by_cases hj : i < w'.heap.size
      · rw [if_pos (by omega), show w.heap.size + (i - w.heap.size) = i by omega]
      · rw [if_neg (by omega), Array.getElem?_eq_none (by omega)]
  cases w
  cases w'
  simp only at h1 h2 h3 hd hh
  simp only [grow, World.drewN, World.mk.injEq]
  exact ⟨hh, h2, by omega, h1, h3⟩
set_option maxHeartbeats 2000000 in
theorem impl_compareRecs_d (p1 e1 d1 p2 e2 d2 : Int) (w : World) :
    Calls Try.prog 68 #[.agg #[.int .i64 p1, .int .i64 e1, .int .i64 d1], .agg #[.int .i64 p2, .int .i64 e2, .int .i64 d2]] w fun e w' => e = .returned (.int .i64 (cmpR p1 e1 p2 e2)) ∧ Below w.heap.size w w' ∧ w.drawn ≤ w'.drawn := by
  go_enter Try.func68, Try.ntmps68
  go_wp2_with fail
  go_region_law ((go_simp; first
    | (go_at_call 110; refine (cmp_compare _ _ _).mono ?_; rintro e w' ⟨rfl, rfl⟩)
    | (go_at_call 109; refine (cmp_or2 (cmpI e1 e2) (cmpI p1 p2) _ _ _ (by go_simp) (by go_simp)).mono ?_; rintro e w' ⟨rfl, rfl⟩)))
  all_goals
    go_wp2
    go_ret
    refine ⟨rfl, (by repeat (first | exact Below.refl _ _ | assumption | (refine Below.drew ?_) | (refine below_drewN ?_ _) | (refine Below.alloc ?_ (by first | omega | (simp; done) | (simp; omega)) _) | (refine Below.setCell ?_ (by first | omega | (simp; done) | (simp; omega)) _))), ?_⟩
    first | exact Nat.le_add_right w.drawn 2 | exact Nat.le_add_right w.drawn 1 | exact Nat.le_add_right w.drawn 3 | exact Nat.le_add_right w.drawn 4 | exact Nat.le_add_right w.drawn 5 | exact Nat.le_add_right w.drawn 0
theorem cmpLaysR (blk off size : Nat) (w : World) : CmpLays Try.prog 68 #[] encR 3 cfR blk off size w :=
  fun m os dk _ x y => (impl_compareRecs_d x.p x.e x.d y.p y.e y.d (sortWorldK encR 3 w blk off m dk os)).mono fun _ _ ⟨he, hb, hd⟩ => ⟨he, grow_of_below hb hd⟩
theorem flat_recI (l : List Rc) : flatK encR 3 l.toArray = ((recI l).map (Value.int .i64)).toArray := by
  refine ext_get! (by simp [recI_length]) fun t ht => ?_
  have ht' : t < l.length * 3 := by simpa using ht
  rw [get_flatK _ _ _ t (by simpa using ht')]
  have hq : t / 3 < l.length := by omega
  obtain ⟨e0, e1, e2⟩ := recI_at l (t / 3) hq
  have hv : (((recI l).map (Value.int .i64)).toArray)[t]! = .int .i64 (intAt (recI l) t) := by
    have hl : t < (recI l).length := by rw [recI_length]; exact ht'
    rw [getElem!_pos _ t (by simpa using hl)]
    simp [intAt, List.getD_eq_getElem?_getD, hl]
  have hr : l.toArray[t / 3]! = rcAt l (t / 3) := by
    rw [getElem!_pos _ _ (by simpa using hq)]
    simp [rcAt, List.getD_eq_getElem?_getD, hq]
  rw [hv, hr]
  have hm : t % 3 = 0 ∨ t % 3 = 1 ∨ t % 3 = 2 := by omega
  rcases hm with hm | hm | hm
  · rw [hm, show t = t / 3 * 3 by omega, e0]; rw [show t / 3 * 3 / 3 = t / 3 by omega]; rfl
  · rw [hm, show t = t / 3 * 3 + 1 by omega, e1]; rw [show (t / 3 * 3 + 1) / 3 = t / 3 by omega]; rfl
  · rw [hm, show t = t / 3 * 3 + 2 by omega, e2]; rw [show (t / 3 * 3 + 2) / 3 = t / 3 by omega]; rfl
theorem heap_put {w : World} {g m : Nat} {os : Array Obj} {cur : Array Value} {e : TypeId} {fr : Nat × Nat} (d : Array Value) (hb : w.heap[g]? = some (.cells cur e fr)) :
    (grow (putRow id (Sort.ahead w m) g 0 d) os).heap[g]? = some (.cells (putCells id 0 d cur) e fr) := by
  have hg : g < w.heap.size := (Array.getElem?_eq_some_iff.1 hb).1
  rw [heap_grow_old _ _ (by simpa using hg)]
  simp [putRow, mapBlock, Sort.ahead, Array.getElem?_modify, hb, onCells]
theorem grown_put {w : World} {g m : Nat} {os : Array Obj} (d : Array Value) : w.grownBy (grow (putRow id (Sort.ahead w m) g 0 d) os) (some g) := by
  refine ⟨rfl, rfl, rfl, by simp, fun k hk hne => ?_⟩
  rw [heap_grow_old _ _ (by simpa using hk)]
  have : g ≠ k := fun e => hne (by rw [e])
  simp [putRow, mapBlock, Sort.ahead, Array.getElem?_modify, this]
theorem take_put (cur : Array Value) (V : List Value) (h : V.length ≤ cur.size) : (putCells id 0 V.toArray cur).toList.take V.length = V := by
  apply List.ext_getElem?
  intro j
  by_cases hj : j < V.length
  · rw [List.getElem?_take_of_lt hj, Array.getElem?_toList]
    simp [putCells, hj, show j < cur.size by omega]
  · rw [List.getElem?_take_eq_none (by omega), List.getElem?_eq_none (by omega)]
set_option maxHeartbeats 1000000 in
theorem sl_sortRecs (l : List Rc) (g n cap B : Nat) (w : World) (hl : l.length = n) (hO : OwnM 106 3 w B (some ⟨g, 0, none⟩) n cap (recI l)) (hn : n < 4611686018427387904) :
    Calls Try.prog 67 #[.slice (some ⟨g, 0, none⟩) n cap, .func (.func 68) #[] #[]] w fun e w' => e = .returned (.tuple #[]) ∧ ∃ s : List Rc, s.Perm l ∧ s.Pairwise (fun x y => ¬ ltR y x) ∧ OwnM 106 3 w' B (some ⟨g, 0, none⟩) n cap (recI s) ∧ w.grownBy w' (some g) := by
  subst hl
  obtain ⟨hlen, hrow⟩ := hO
  rcases hrow.2 with ⟨hv, _⟩ | ⟨g2, cap2, cur, hv, hB, hg, hnc, hcm, hcs, htk⟩
  · cases hv
  simp only [Value.slice.injEq, Option.some.injEq, Addr.mk.injEq] at hv
  obtain ⟨⟨rfl, _⟩, _, rfl⟩ := hv
  have hH : HoldsK encR 3 w g 0 l.toArray := by
    unfold HoldsK
    rw [flat_recI]
    intro j hj
    have hj' : j < (recI l).length := by simpa using hj
    have hc : w.cell? ⟨g, j, none⟩ = some (.int .i64 (intAt (recI l) j)) := OwnM.cell ⟨hlen, hrow⟩ j (by rw [recI_length] at hj'; exact hj')
    refine ⟨?_, ?_⟩
    · rw [Nat.zero_add, hc, getElem!_pos _ j (by simpa using hj')]
      simp [intAt, List.getD_eq_getElem?_getD, hj']
    · rw [Nat.zero_add]; exact hrow.frozenAt j
  have hgl : g < w.heap.size := (Array.getElem?_eq_some_iff.1 hg).1
  have eg : ∀ args w, (callFunc 68 args).run Try.prog w = .ok (.enter 68 args) w := enters_of Try.func68 (by kernel_rfl) rfl
  have hcon := AnyQ.slices_SortFunc Try.sortRecs 3 Try.isAgg106 Try.sizeOf106 encR (fun _ => rfl) (fun x v hv => by simp [encR] at hv; rcases hv with rfl | rfl | rfl <;> rfl) cfR swoR 68 #[] g 0 cap l.toArray w eg (cmpLaysR g 0 _ w) hH hgl (by simpa using hn)
  have hcon2 : Calls Try.prog 67 #[.slice (some ⟨g, 0, none⟩) l.length cap, .func (.func 68) #[] #[]] w fun e w' =>
      e = .returned (.tuple #[]) ∧ ∃ d' m os, PermIn 0 l.toArray.size l.toArray d' ∧ SortedIn (ltOf cfR) 0 l.toArray.size d' ∧ w' = sortWorldK encR 3 w g 0 m d' os := hcon
  refine hcon2.mono ?_
  rintro e w' ⟨rfl, d', m, os, ⟨hs, _, hp⟩, hsd, rfl⟩
  refine ⟨rfl, d'.toList, ?_, ?_, ?_, ?_⟩
  · have h1 : d'.extract 0 l.toArray.size = d' := by rw [← hs]; simp
    have h2 : l.toArray.extract 0 l.toArray.size = l.toArray := by simp
    rw [h1, h2] at hp
    simpa using hp
  · rw [List.pairwise_iff_getElem]
    intro i j hi hj hij
    have hi' : i < d'.size := by simpa using hi
    have hj' : j < d'.size := by simpa using hj
    have := hsd i j (Nat.zero_le _) hij (by rw [← hs]; exact hj')
    rw [getElem!_pos _ i hi', getElem!_pos _ j hj'] at this
    rw [ltOf_cfR_no] at this
    simpa using this
  · have hd : flatK encR 3 d' = ((recI d'.toList).map (Value.int .i64)).toArray := by have := flat_recI d'.toList; simpa using this
    have hdl : (recI d'.toList).length = l.length * 3 := by rw [recI_length]; simp at hs; simp [hs]
    unfold sortWorldK putRowK
    rw [hd]
    refine ⟨hdl, by simp [hdl], .inr ⟨g, cap, _, rfl, hB, heap_put _ hg, hnc, hcm, by simp [putCells, hcs], ?_⟩⟩
    have h3 : ((recI d'.toList).map (Value.int .i64)).length = l.length * 3 := by simp [hdl]
    rw [← h3]
    exact take_put cur _ (by rw [h3, hcs]; exact Nat.mul_le_mul_right _ hnc)
  · unfold sortWorldK putRowK
    exact grown_put _
theorem sl_sortRecs_none (p : Option Addr) (cap : Nat) (v : Value) (w : World) :
    Calls Try.prog 67 #[.slice p 0 cap, v] w fun e w' => e = .returned (.tuple #[]) ∧ w' = w :=
  AnyF.slices_SortFunc_none Try.sortRecs p cap v w
end Go.Proofs.Ytodmohepgmhipaa

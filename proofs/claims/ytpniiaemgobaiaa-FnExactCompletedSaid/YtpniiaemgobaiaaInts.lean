/-
  Slices of int64: how they lie, those that came in and those that a call makes; no program's own text but the table's row of int64.
-/
import Derived.Test.YtpniiaemgobaiaaKit
import Derived.Outline
import Derived.WalkLawsBesides
namespace Go.Proofs.Ytpniiaemgobaiaa
open Go.RowKit
set_option linter.unusedVariables false
set_option maxRecDepth 100000
theorem int_info : (Try.prog.info? 2).map (fun i => (i.zero, i.size, i.bytes)) = some (some (.int .i64 0), 1, 8) := by kernel_rfl
def intAt (L : List Int) (i : Nat) : Int := L.getD i 0
def IntsAt (w : World) (b off : Nat) (L : List Int) : Prop := ∀ i, i < L.length → w.cell? ⟨b, off + i, none⟩ = some (.int .i64 (intAt L i))
def Ints (w : World) (a : Option Addr) (L : List Int) : Prop := L = [] ∨ ∃ b off, a = some ⟨b, off, none⟩ ∧ IntsAt w b off L
theorem Ints.at {w : World} {a : Option Addr} {L : List Int} (h : Ints w a L) (i : Nat) (hi : i < L.length) : ∃ b off, a = some ⟨b, off, none⟩ ∧ IntsAt w b off L := by
  rcases h with rfl | h
  · simp at hi
  · exact h
theorem IntsAt.kept {w w1 : World} {b off : Nat} {L : List Int} (h : IntsAt w b off L) (hb : Below w.heap.size w w1) : IntsAt w1 b off L := by
  intro i hi
  have h0 := h i hi
  have hlt : b < w.heap.size := block_lt_of_cell h0
  exact (hb.cell (p := ⟨b, _, none⟩) hlt).trans h0
theorem Ints.kept {w w1 : World} {a : Option Addr} {L : List Int} (h : Ints w a L) (hb : Below w.heap.size w w1) : Ints w1 a L := by
  rcases h with rfl | ⟨b, off, rfl, h⟩
  · exact .inl rfl
  · exact .inr ⟨b, off, rfl, h.kept hb⟩
/-- a slice of n numbers, the list L, that lies in memory laid from block B on -/
def OwnN (w : World) (B : Nat) (a : Option Addr) (n cap : Nat) (L : List Int) : Prop := L.length = n ∧ w.ownsRow B 2 1 (.slice a n cap) n (L.map (Value.int .i64))
theorem OwnN.len {w : World} {B : Nat} {a : Option Addr} {n cap : Nat} {L : List Int} (h : OwnN w B a n cap L) : L.length = n := h.1
theorem grown_of_below {w w1 : World} (h : Below w.heap.size w w1) (r : Option Nat) : w.grownBy w1 r := ⟨h.os, h.tape, h.output, h.size, fun k hk _ => h.block k hk⟩
theorem OwnN.kept {w w1 : World} {B : Nat} {a : Option Addr} {n cap : Nat} {L : List Int} (h : OwnN w B a n cap L) (hb : Below w.heap.size w w1) : OwnN w1 B a n cap L :=
  ⟨h.1, h.2.kept (grown_of_below hb none) (by cases hv : (Value.slice a n cap).ownBlock <;> simp)⟩
theorem OwnN.mono {w : World} {B C : Nat} {a : Option Addr} {n cap : Nat} {L : List Int} (h : OwnN w B a n cap L) (hC : C ≤ B) : OwnN w C a n cap L := by
  refine ⟨h.1, h.2.1, ?_⟩
  rcases h.2.2 with h | ⟨g, c, cur, h1, h2, r⟩
  · exact .inl h
  · exact .inr ⟨g, c, cur, h1, Nat.le_trans hC h2, r⟩
theorem OwnN.ints {w : World} {B : Nat} {a : Option Addr} {n cap : Nat} {L : List Int} (h : OwnN w B a n cap L) : Ints w a L := by
  obtain ⟨hl, h⟩ := h
  subst hl
  rcases h.2 with ⟨hv, h0⟩ | ⟨g, cap', cur, hv, hb, hg, r⟩
  · exact .inl (List.eq_nil_of_length_eq_zero h0)
  · simp only [Value.slice.injEq] at hv
    obtain ⟨rfl, _, rfl⟩ := hv
    refine .inr ⟨g, 0, rfl, fun i hi => ?_⟩
    rw [Nat.zero_add, h.cellAt i (by omega)]
    simp [intAt, List.getD_eq_getElem?_getD, List.getElem?_eq_getElem hi]
/-- the head of what is owned, where it holds a number at all -/
theorem OwnN.head {w : World} {B : Nat} {a : Option Addr} {n cap : Nat} {L : List Int} (h : OwnN w B a n cap L) (i : Nat) (hi : i < n) : ∃ g, a = some ⟨g, 0, none⟩ ∧ B ≤ g ∧ g < w.heap.size := by
  rcases h.2.2 with ⟨hv, h0⟩ | ⟨g, cap', cur, hv, hb, hg, r⟩
  · omega
  · simp only [Value.slice.injEq] at hv
    exact ⟨g, hv.1, hb, lt_of_block hg⟩
theorem OwnN.cell {w : World} {B : Nat} {g n cap : Nat} {L : List Int} (h : OwnN w B (some ⟨g, 0, none⟩) n cap L) (i : Nat) (hi : i < n) : w.cell? ⟨g, i, none⟩ = some (.int .i64 (intAt L i)) := by
  obtain ⟨hl, h⟩ := h
  subst hl
  rw [h.cellAt i (by omega)]
  simp [intAt, List.getD_eq_getElem?_getD, List.getElem?_eq_getElem hi]
theorem OwnN.cap_le {w : World} {B : Nat} {a : Option Addr} {n cap : Nat} {L : List Int} (h : OwnN w B a n cap L) (hn : 1 ≤ n) : n ≤ cap := by
  rcases h.2.2 with ⟨_, h0⟩ | ⟨g', cap', cur, hv, _, _, hnc, _⟩
  · omega
  · simp only [Value.slice.injEq] at hv; omega
theorem OwnN.frozen {w : World} {B : Nat} {g n cap : Nat} {L : List Int} (h : OwnN w B (some ⟨g, 0, none⟩) n cap L) (i : Nat) : w.frozen? ⟨g, i, none⟩ = false := h.2.frozenAt i
theorem OwnN.set {w : World} {B : Nat} {g n cap : Nat} {L : List Int} (h : OwnN w B (some ⟨g, 0, none⟩) n cap L) (i : Nat) (x : Int) : OwnN (w.setCell ⟨g, i, none⟩ (.int .i64 x)) B (some ⟨g, 0, none⟩) n cap (L.set i x) :=
  ⟨by simpa using h.1, by have := (h.2.stored i (.int .i64 x)).1; rw [List.map_set]; exact this⟩
theorem OwnN.base {w : World} {B : Nat} {g n cap : Nat} {L : List Int} (h : OwnN w B (some ⟨g, 0, none⟩) n cap L) : B ≤ g ∧ g < w.heap.size := h.2.lt g rfl
theorem OwnN.made {w : World} {B : Nat} {g n : Nat} (h : w.ownsRow B 2 1 (.slice (some ⟨g, 0, none⟩) n n) n (madeCells (Value.int .i64 0).cells (n * 1)).toList) : OwnN w B (some ⟨g, 0, none⟩) n n (List.replicate n 0) := by
  refine ⟨by simp, ?_⟩
  have e : (madeCells (Value.int .i64 0).cells (n * 1)).toList = (List.replicate n (0 : Int)).map (Value.int .i64) := by
    rw [Nat.mul_one, List.map_replicate]; exact toList_madeCells_one _ _
  rw [← e]; exact h
theorem OwnN.shape {w : World} {B : Nat} {v : Value} {n : Nat} {L : List Int} (h : w.ownsRow B 2 1 v n (L.map (Value.int .i64))) : ∃ a cap, v = .slice a n cap ∧ OwnN w B a n cap L := by
  have hl : L.length = n := by have := h.1; simpa using this
  rcases h.2 with ⟨rfl, rfl⟩ | ⟨g, cap, cur, rfl, r⟩
  · exact ⟨none, 0, rfl, hl, h⟩
  · exact ⟨some ⟨g, 0, none⟩, cap, rfl, hl, h⟩
theorem OwnN.nil (w : World) (B : Nat) : OwnN w B none 0 0 [] := ⟨rfl, World.ownsRow_nil w B _ 1⟩

/-- kept where a row below its own base is written -/
theorem OwnN.kept_hi {w w1 : World} {B : Nat} {a : Option Addr} {n cap : Nat} {L : List Int} {r : Option Nat} (h : OwnN w B a n cap L) (hg : w.grownBy w1 r) (hr : ∀ k, r = some k → k < B) : OwnN w1 B a n cap L := by
  refine ⟨h.1, h.2.kept hg ?_⟩
  cases hv : (Value.slice a n cap).ownBlock with
  | none => exact .inl rfl
  | some k =>
    right
    intro e
    have h1 := hr k e.symm
    have h2 := (h.2.lt k hv).1
    omega
/-- what a mark turns lies from the base on -/
theorem OwnN.turn {w w1 : World} {B : Nat} {a : Option Addr} {n cap : Nat} {L : List Int} (h : OwnN w B a n cap L) (hB : B ≤ w.heap.size) (hg : w.grownBy w1 (Value.slice a n cap).ownBlock) : Below B w w1 :=
  (Below.refl B w).grown hg hB fun k hk => (h.2.lt k hk).1
theorem OwnN.turn_lt {w : World} {B : Nat} {a : Option Addr} {n cap : Nat} {L : List Int} (h : OwnN w B a n cap L) : ∀ k, (Value.slice a n cap).ownBlock = some k → k < w.heap.size := fun k hk => (h.2.lt k hk).2
theorem grown_trans {w w1 w2 : World} {r : Option Nat} (h : w.grownBy w1 r) (h2 : w1.grownBy w2 r) : w.grownBy w2 r :=
  ⟨h2.os.trans h.os, h2.tape.trans h.tape, h2.output.trans h.output, Nat.le_trans h.size h2.size, fun k hk hne => (h2.block k (Nat.lt_of_lt_of_le hk h.size) hne).trans (h.block k hk hne)⟩
theorem OwnN.set_grown {w : World} {B : Nat} {g n cap : Nat} {L : List Int} (h : OwnN w B (some ⟨g, 0, none⟩) n cap L) (i : Nat) (x : Int) : w.grownBy (w.setCell ⟨g, i, none⟩ (.int .i64 x)) (some g) := (h.2.stored i (.int .i64 x)).2
/-- the list of the first n values of a function -/
def tab (f : Nat → Int) (n : Nat) : List Int := (List.range n).map f
theorem tab_length (f : Nat → Int) (n : Nat) : (tab f n).length = n := by simp [tab]
theorem tab_succ (f : Nat → Int) (n : Nat) : tab f (n + 1) = tab f n ++ [f n] := by simp [tab, List.range_succ]
theorem intAt_tab (f : Nat → Int) (n i : Nat) (h : i < n) : intAt (tab f n) i = f i := by simp [intAt, tab, List.getD_eq_getElem?_getD, h]
theorem tab_of {L : List Int} {f : Nat → Int} {n : Nat} (hl : L.length = n) (h : ∀ i, i < n → intAt L i = f i) : L = tab f n := by
  apply List.ext_getElem
  · rw [hl, tab_length]
  · intro i h1 h2
    have := h i (by omega)
    simp only [intAt, List.getD_eq_getElem?_getD, List.getElem?_eq_getElem h1, Option.getD_some] at this
    rw [this]; simp [tab]
theorem tab_self (L : List Int) : tab (intAt L) L.length = L := (tab_of rfl fun _ _ => rfl).symm
theorem tab_congr {f g : Nat → Int} {n : Nat} (h : ∀ i, i < n → f i = g i) : tab f n = tab g n := tab_of (tab_length f n) fun i hi => (intAt_tab f n i hi).trans (h i hi)
theorem intAt_set (L : List Int) (i j : Nat) (x : Int) (h : i < L.length) : intAt (L.set i x) j = if i = j then x else intAt L j := by
  simp only [intAt, List.getD_eq_getElem?_getD, List.getElem?_set]
  by_cases e : i = j
  · subst e; simp [h]
  · simp [e]
/-- a list whose first k are those of f -/
def UpTo (f : Nat → Int) (k : Nat) (L : List Int) : Prop := ∀ i, i < k → intAt L i = f i
theorem UpTo.zero (f : Nat → Int) (L : List Int) : UpTo f 0 L := fun i hi => by omega
theorem UpTo.set {f : Nat → Int} {k : Nat} {L : List Int} (h : UpTo f k L) (hk : k < L.length) : UpTo f (k + 1) (L.set k (f k)) := by
  intro i hi
  rw [intAt_set L k i _ hk]
  by_cases e : k = i
  · subst e; rw [if_pos rfl]
  · rw [if_neg e]; exact h i (by omega)
theorem UpTo.tab {f : Nat → Int} {n : Nat} {L : List Int} (h : UpTo f n L) (hl : L.length = n) : L = tab f n := tab_of hl h
theorem int_one (n : Int) : ∀ u ∈ [Value.int .i64 n], u.oneCell' = true := by
  intro u hu
  simp only [List.mem_singleton] at hu
  subst hu; rfl
/-- one number more, appended -/
theorem own_snoc {w : World} {B : Nat} {v : Value} {n : Nat} {f : Nat → Int} (h : w.ownsRow B 2 1 v (n + 1) ((tab f n).map (Value.int .i64) ++ [.int .i64 (f n)])) : w.ownsRow B 2 1 v (n + 1) ((tab f (n + 1)).map (Value.int .i64)) := by
  rw [tab_succ, List.map_append]; exact h
theorem grownBy_setCell1 (w : World) (R o : Nat) (v : Value) : w.grownBy (w.setCell ⟨R, o, none⟩ v) (some R) :=
  ⟨rfl, rfl, rfl, by simp [World.setCell], fun k _ hne => heap_setCell_other w ⟨R, o, none⟩ k v (fun e => hne (by rw [e]))⟩
theorem heap_alloc3 (w : World) (A B C : Obj) : (((w.alloc A).alloc B).alloc C).heap[w.heap.size]? = some A ∧ (((w.alloc A).alloc B).alloc C).heap[w.heap.size + 1]? = some B ∧ (((w.alloc A).alloc B).alloc C).heap[w.heap.size + 2]? = some C := by
  have e1 : (w.alloc A).heap.size = w.heap.size + 1 := by simp
  have e2 : ((w.alloc A).alloc B).heap.size = w.heap.size + 2 := by simp
  refine ⟨?_, ?_, ?_⟩
  · rw [Below.heap_alloc _ _ _ (by omega), Below.heap_alloc _ _ _ (by omega)]; exact heap_alloc_new w A
  · rw [Below.heap_alloc _ _ _ (by omega), ← e1]; exact heap_alloc_new _ B
  · rw [← e2]; exact heap_alloc_new _ C
theorem below_undrew {w w1 : World} (h : Below w.drew.heap.size w.drew w1) : Below w.heap.size w w1 := ⟨h.os, h.tape, h.output, h.size, h.block⟩
/-- a slice of int64 that came in, as a list -/
theorem ints_of_row {w : World} {a : Option Addr} {len cap : Nat} {z : List Int} (h : IsRow .i64 w a len cap z) : Ints w a (z.take len) ∧ (z.take len).length = len ∧ len ≤ maxLen ∧ ∀ i, i < len → -9223372036854775808 ≤ intAt (z.take len) i ∧ intAt (z.take len) i ≤ 9223372036854775807 := by
  rcases h with ⟨rfl, rfl, rfl, rfl⟩ | ⟨x, rfl, h1, h2, h3, h4, h5⟩
  · exact ⟨.inl rfl, rfl, Nat.zero_le _, fun i hi => by omega⟩
  · have hl : (z.take len).length = len := by rw [List.length_take]; omega
    have hat : ∀ i, i < len → intAt (z.take len) i = z.getD i 0 := by
      intro i hi
      simp only [intAt, List.getD_eq_getElem?_getD, List.getElem?_take, if_pos hi]
    refine ⟨?_, hl, Nat.le_trans h1 h2, fun i hi => ?_⟩
    · by_cases h0 : len = 0
      · left; subst h0; rfl
      · right
        obtain ⟨b, off, spot⟩ := x
        have hspot : spot = none := by simpa [Addr.add] using World.cell?_spot (h4 0 (by omega))
        subst hspot
        refine ⟨b, off, rfl, fun i hi => ?_⟩
        have := h4 i (by omega)
        rw [Addr.add_lit] at this
        rw [this, hat i (by omega)]
    · rw [hat i hi]
      have hin : z.getD i 0 ∈ z := by rw [List.getD_eq_getElem?_getD, List.getElem?_eq_getElem (by omega)]; simp
      simpa [Lit.wf, IntKind.min, IntKind.max, IntKind.signed, IntKind.bits] using h5 _ hin
end Go.Proofs.Ytpniiaemgobaiaa

/-
  40 texts in one.
-/
import Derived.Test.YtpniiaemgobaiabRows
import Derived.WalkKit
import Derived.Lib.Hide
import Derived.Laws.CopyOwn
import Derived.WalkSmall
import Derived.WalkSpells
import Derived.Deep.QuietTactic
import Derived.BigQuiet
import Derived.Lib.QuietBelow
import Derived.Laws.BytesArg
import Derived.Laws.IdiomStrings
import Derived.Outline
import Derived.WalkLawsBesides
import Derived.Test.YtpniiaemgobaiabProg
import Derived.RangeFuncNested
import Derived.RangeFuncBound
import Derived.RangeFuncCalls
import Derived.RangeFuncLeaves
import Derived.Shelf.Abstract
import Derived.Shelf.RegionOpen
import Derived.OwnWalkIn
import Derived.TacticsInMore
import Derived.LoopNIn
import Derived.LoopIn
import Derived.Deep.RegionLaw
import Derived.Deep.AppendLies
import Derived.Deep.RegionHeld3
import Derived.Sort.Walk0
import Derived.Maps.AppendAt
import Derived.Laws.AppendOwnNone
set_option maxRecDepth 4000
/-
  General lemmas on worlds that the walks of this seat share.
-/
namespace Go.Proofs.Ytpniiaemgobaiab
open Go.RowKit
set_option linter.unusedVariables false
set_option maxRecDepth 100000

/-- what a walk is told of a slice of integers that came in: it is nil; or it leads to a row of 'cap' cells, the numbers 'zs' (the first 'len' are its elements), each fitting its kind -/
def IsRow (k : IntKind) (w : World) (a : Option Addr) (len cap : Nat) (zs : List Int) : Prop :=
  (a = none ∧ len = 0 ∧ cap = 0 ∧ zs = []) ∨
  ∃ x, a = some x ∧ len ≤ cap ∧ cap ≤ maxLen ∧ zs.length = cap ∧ (∀ i, i < zs.length → w.cell? (x.add i) = some (.int k (zs.getD i 0))) ∧ ∀ n ∈ zs, (Lit.int k n).wf = true

theorem below_step {w w1 w2 : World} (h : Below w.heap.size w w1) (h2 : Below w1.heap.size w1 w2) : Below w.heap.size w w2 := h.trans (h2.mono h.size)

/-- what stood below reads as it did: two rules for the walk -/
theorem bcell {W w1 : World} (hb : Below W.heap.size W w1) : (∀ b o, b < W.heap.size → w1.cell? ⟨b, o, none⟩ = W.cell? ⟨b, o, none⟩) ∧ (∀ b o, b < W.heap.size → w1.frozen? ⟨b, o, none⟩ = W.frozen? ⟨b, o, none⟩) :=
  ⟨fun b o h => hb.cell (p := ⟨b, o, none⟩) h, fun b o h => hb.frozen (p := ⟨b, o, none⟩) h⟩

theorem quiet_of_eq {P : Program} {f : FuncId} {args : Array Value} {w : World} {n : Nat} {v : Value}
    (h : Calls P f args (w.drewN n) fun e w' => e = .returned v ∧ w.drewN n = w') : Calls P f args (w.drewN n) fun e w'' => e = .returned v ∧ ∃ m, w'' = w.drewN m :=
  h.mono fun _ _ ⟨he, hm⟩ => ⟨he, n, hm.symm⟩

theorem setRow_alloc_new (w : World) (old cs : Array Value) (t : TypeId) (fr : Nat × Nat) : (w.alloc (.cells old t fr)).setRow w.heap.size cs = w.alloc (.cells cs t fr) := by
  unfold World.setRow World.alloc
  congr 1
  apply Array.ext_getElem?
  intro i
  simp only [Array.getElem?_modify, Array.getElem?_push]
  by_cases h : i = w.heap.size
  · subst h; simp
  · rw [if_neg h, if_neg h, if_neg (fun e => h e.symm)]

theorem wpList_store_new_row {P : Program} {ops : Array Oper} {rest : List Oper} {o : Oper} {a : Act} {w : World} {Q : Exit → Act → World → Prop} (hgd : o.guard = none) (ty : TypeId) (x y : Operand) (ho : o.op = .store ty x y)
    (cells : Array Value) (hx : a.eval x = .pointer (some ⟨w.heap.size, 0, none⟩)) (hy : a.eval y = .agg cells)
    (t : TypeId) (old : Array Value) (hi : (P.info? ty).map (·.size) = some cells.size)
    (hold : old.size = cells.size) (h1 : cells.all (·.oneCell') = true)
    (h : wpList P ops Q rest (a.put o.dst undef) (w.alloc (.cells cells t (0, 0)))) : wpList P ops Q (o :: rest) a (w.alloc (.cells old t (0, 0))) :=
  wpList_store_row hgd ty x y ho w.heap.size cells hx hy t old (heap_alloc_new _ _) hi hold h1 (by rw [setRow_alloc_new]; exact h)

/-- a byte as a cell -/
def byteVal (b : UInt8) : Value := .int .u8 (b.toNat : Int)
theorem str_cat (a b : List UInt8) : (ByteArray.mk a.toArray) ++ (ByteArray.mk b.toArray) = ByteArray.mk (a ++ b).toArray := ByteArray.mk_append_mk a b
theorem one_slice (s : ByteArray) (k : Nat) (h : k < s.size) : s.extract k (k + 1) = ⟨[s[k]].toArray⟩ := by
  apply ByteArray.ext
  rw [ByteArray.data_extract]
  apply Array.ext
  · have : s.data.size = s.size := rfl
    simp; omega
  · intro i h1 h2
    have : i = 0 := by simp at h2; omega
    subst this
    simp; rfl
theorem bytes_one (l : List UInt8) : ∀ u ∈ l.map byteVal, u.oneCell' = true := by
  intro u hu
  obtain ⟨_, _, rfl⟩ := List.mem_map.1 hu
  rfl

theorem heap_setCell_mark (w : World) (g i : Nat) (cs : Array Value) (t : TypeId) (fr : Nat × Nat) (v : Value) (hg : w.heap[g]? = some (.cells cs t fr)) :
    (w.setCell ⟨g, i, none⟩ v).heap[g]? = some (.cells (cs.setIfInBounds i v) t fr) := by
  simp [World.setCell, Array.getElem?_modify, hg]

theorem addr_add0 (g j : Nat) : ((⟨g, 0, none⟩ : Addr).add j) = ⟨g, j, none⟩ := by unfold Addr.add; split <;> simp_all

/-- 'string(b)', b owned by the call -/
theorem run_owned_string {P : Program} {w : World} {base : Nat} {src dst e : TypeId} {v : Value} {n : Nat} (hs : P.underlying src = some (.slice e)) (he : P.underlying e = some (.int .u8)) (hd : P.underlying dst = some .string)
    (l : List UInt8) (h : w.ownsRow base e 1 v n (l.map byteVal)) : (convert src dst v).run P w = .ok (.string ⟨l.toArray⟩) w := by
  have hn : l.length = n := by have := h.1; simpa using this
  rcases h.2 with ⟨rfl, h0⟩ | ⟨g, cap, cur, rfl, hb, hg, r⟩
  · have : l = [] := List.eq_nil_of_length_eq_zero (by omega)
    subst this
    exact run_convert_bytes_nil w src e hs he 0 0 dst hd
  · subst hn
    refine run_convert_bytes_back w src dst e ⟨g, 0, none⟩ cap l hs he hd (fun j hj => ?_)
    rw [addr_add0, h.cellAt j (by omega)]
    simp [byteVal, hj]

theorem frozen_of_mark {w : World} {g j lo hi : Nat} {cs : Array Value} {t : TypeId} (hg : w.heap[g]? = some (.cells cs t (lo, hi))) (h : j < lo) : w.frozen? ⟨g, j, none⟩ = false := by
  simp only [World.frozen?, hg]
  simp; omega

theorem take_snoc (s : ByteArray) (k : Nat) (h : k < s.size) : s.data.toList.take (k + 1) = s.data.toList.take k ++ [s[k]] := by
  rw [List.take_succ_eq_append_getElem (by simpa using h)]; rfl

theorem cells_new (w : World) (cs : Array Value) (t : TypeId) : ∀ j u, cs.toList[j]? = some u → (w.alloc (.cells cs t)).cell? ((⟨w.heap.size, 0, none⟩ : Addr).add j) = some u := by
  intro j u hj
  rw [addr_add0, World.cell?_alloc_new]
  simpa using hj
theorem one_all {l : List Value} (h : l.all (·.oneCell') = true) : ∀ u ∈ l, u.oneCell' = true := by
  intro u hu
  exact List.all_eq_true.1 h u hu
theorem own_cat {w : World} {B : Nat} {e : TypeId} {v : Value} {L X L' : List UInt8} {n : Nat} {news : List Value} (h : w.ownsRow B e 1 v (L.length + n) (L.map byteVal ++ news)) (hL : L' = L ++ X) (hX : X.map byteVal = news) :
    w.ownsRow B e 1 v L'.length (L'.map byteVal) := by
  subst hL hX
  have hn : n = X.length := by have := h.1; simp at this; omega
  subst hn
  simpa using h
theorem one_new (w : World) (v : Value) (t : TypeId) : ∀ j u, [v][j]? = some u → (w.alloc (.cells #[v] t)).cell? ((⟨w.heap.size, 0, none⟩ : Addr).add j) = some u := by
  intro j u hj
  match j, hj with
  | 0, hj =>
    simp only [List.getElem?_cons_zero, Option.some.injEq] at hj
    subst hj
    rw [addr_add0, World.cell?_alloc_new]; rfl
theorem one_byte (n : Int) : ∀ u ∈ [Value.int .u8 n], u.oneCell' = true := by
  intro u hu
  simp only [List.mem_singleton] at hu
  subst hu; rfl
end Go.Proofs.Ytpniiaemgobaiab

/-
  Slices of int64: how they lie, those that came in and those that a call makes; no program's own text but the table's row of int64.
-/
namespace Go.Proofs.Ytpniiaemgobaiab
open Go.RowKit
set_option linter.unusedVariables false
theorem int_info : (Try.prog.info? 2).map (fun i => (i.zero, i.size, i.bytes)) = some (some (.int .i64 0), 1, 8) := by kernel_rfl
def intAt (L : List Int) (i : Nat) : Int := L.getD i 0
def IntsAt (w : World) (b off : Nat) (L : List Int) : Prop := ∀ i, i < L.length → w.cell? ⟨b, off + i, none⟩ = some (.int .i64 (intAt L i))
def Ints (w : World) (a : Option Addr) (L : List Int) : Prop := L = [] ∨ ∃ b off, a = some ⟨b, off, none⟩ ∧ IntsAt w b off L
theorem Ints.at {w : World} {a : Option Addr} {L : List Int} (h : Ints w a L) (i : Nat) (hi : i < L.length) : ∃ b off, a = some ⟨b, off, none⟩ ∧ IntsAt w b off L := by
  rcases h with rfl | h
  · simp at hi
  · exact h
theorem IntsAt.kept {w w1 : World} {b off : Nat} {L : List Int} (h : IntsAt w b off L) (hb : Below w.heap.size w w1) : IntsAt w1 b off L := by
  intro i hi
  have h0 := h i hi
  have hlt : b < w.heap.size := block_lt_of_cell h0
  exact (hb.cell (p := ⟨b, _, none⟩) hlt).trans h0
theorem Ints.kept {w w1 : World} {a : Option Addr} {L : List Int} (h : Ints w a L) (hb : Below w.heap.size w w1) : Ints w1 a L := by
  rcases h with rfl | ⟨b, off, rfl, h⟩
  · exact .inl rfl
  · exact .inr ⟨b, off, rfl, h.kept hb⟩
/-- a slice of n numbers, the list L, that lies in memory laid from block B on -/
def OwnN (w : World) (B : Nat) (a : Option Addr) (n cap : Nat) (L : List Int) : Prop := L.length = n ∧ w.ownsRow B 2 1 (.slice a n cap) n (L.map (Value.int .i64))
theorem OwnN.len {w : World} {B : Nat} {a : Option Addr} {n cap : Nat} {L : List Int} (h : OwnN w B a n cap L) : L.length = n := h.1
theorem grown_of_below {w w1 : World} (h : Below w.heap.size w w1) (r : Option Nat) : w.grownBy w1 r := ⟨h.os, h.tape, h.output, h.size, fun k hk _ => h.block k hk⟩
theorem OwnN.kept {w w1 : World} {B : Nat} {a : Option Addr} {n cap : Nat} {L : List Int} (h : OwnN w B a n cap L) (hb : Below w.heap.size w w1) : OwnN w1 B a n cap L :=
  ⟨h.1, h.2.kept (grown_of_below hb none) (by cases hv : (Value.slice a n cap).ownBlock <;> simp)⟩
theorem OwnN.mono {w : World} {B C : Nat} {a : Option Addr} {n cap : Nat} {L : List Int} (h : OwnN w B a n cap L) (hC : C ≤ B) : OwnN w C a n cap L := by
  refine ⟨h.1, h.2.1, ?_⟩
  rcases h.2.2 with h | ⟨g, c, cur, h1, h2, r⟩
  · exact .inl h
  · exact .inr ⟨g, c, cur, h1, Nat.le_trans hC h2, r⟩
theorem OwnN.ints {w : World} {B : Nat} {a : Option Addr} {n cap : Nat} {L : List Int} (h : OwnN w B a n cap L) : Ints w a L := by
  obtain ⟨hl, h⟩ := h
  subst hl
  rcases h.2 with ⟨hv, h0⟩ | ⟨g, cap', cur, hv, hb, hg, r⟩
  · exact .inl (List.eq_nil_of_length_eq_zero h0)
  · simp only [Value.slice.injEq] at hv
    obtain ⟨rfl, _, rfl⟩ := hv
    refine .inr ⟨g, 0, rfl, fun i hi => ?_⟩
    rw [Nat.zero_add, h.cellAt i (by omega)]
    simp [intAt, List.getD_eq_getElem?_getD, List.getElem?_eq_getElem hi]
/-- the head of what is owned, where it holds a number at all -/
theorem OwnN.head {w : World} {B : Nat} {a : Option Addr} {n cap : Nat} {L : List Int} (h : OwnN w B a n cap L) (i : Nat) (hi : i < n) : ∃ g, a = some ⟨g, 0, none⟩ ∧ B ≤ g ∧ g < w.heap.size := by
  rcases h.2.2 with ⟨hv, h0⟩ | ⟨g, cap', cur, hv, hb, hg, r⟩
  · omega
  · simp only [Value.slice.injEq] at hv
    exact ⟨g, hv.1, hb, lt_of_block hg⟩
theorem OwnN.cell {w : World} {B : Nat} {g n cap : Nat} {L : List Int} (h : OwnN w B (some ⟨g, 0, none⟩) n cap L) (i : Nat) (hi : i < n) : w.cell? ⟨g, i, none⟩ = some (.int .i64 (intAt L i)) := by
  obtain ⟨hl, h⟩ := h
  subst hl
  rw [h.cellAt i (by omega)]
  simp [intAt, List.getD_eq_getElem?_getD, List.getElem?_eq_getElem hi]
theorem OwnN.cap_le {w : World} {B : Nat} {a : Option Addr} {n cap : Nat} {L : List Int} (h : OwnN w B a n cap L) (hn : 1 ≤ n) : n ≤ cap := by
  rcases h.2.2 with ⟨_, h0⟩ | ⟨g', cap', cur, hv, _, _, hnc, _⟩
  · omega
  · simp only [Value.slice.injEq] at hv; omega
theorem OwnN.frozen {w : World} {B : Nat} {g n cap : Nat} {L : List Int} (h : OwnN w B (some ⟨g, 0, none⟩) n cap L) (i : Nat) : w.frozen? ⟨g, i, none⟩ = false := h.2.frozenAt i
theorem OwnN.set {w : World} {B : Nat} {g n cap : Nat} {L : List Int} (h : OwnN w B (some ⟨g, 0, none⟩) n cap L) (i : Nat) (x : Int) : OwnN (w.setCell ⟨g, i, none⟩ (.int .i64 x)) B (some ⟨g, 0, none⟩) n cap (L.set i x) :=
  ⟨by simpa using h.1, by have := (h.2.stored i (.int .i64 x)).1; rw [List.map_set]; exact this⟩
theorem OwnN.base {w : World} {B : Nat} {g n cap : Nat} {L : List Int} (h : OwnN w B (some ⟨g, 0, none⟩) n cap L) : B ≤ g ∧ g < w.heap.size := h.2.lt g rfl
theorem OwnN.made {w : World} {B : Nat} {g n : Nat} (h : w.ownsRow B 2 1 (.slice (some ⟨g, 0, none⟩) n n) n (madeCells (Value.int .i64 0).cells (n * 1)).toList) : OwnN w B (some ⟨g, 0, none⟩) n n (List.replicate n 0) := by
  refine ⟨by simp, ?_⟩
  have e : (madeCells (Value.int .i64 0).cells (n * 1)).toList = (List.replicate n (0 : Int)).map (Value.int .i64) := by
    rw [Nat.mul_one, List.map_replicate]; exact toList_madeCells_one _ _
  rw [← e]; exact h
theorem OwnN.shape {w : World} {B : Nat} {v : Value} {n : Nat} {L : List Int} (h : w.ownsRow B 2 1 v n (L.map (Value.int .i64))) : ∃ a cap, v = .slice a n cap ∧ OwnN w B a n cap L := by
  have hl : L.length = n := by have := h.1; simpa using this
  rcases h.2 with ⟨rfl, rfl⟩ | ⟨g, cap, cur, rfl, r⟩
  · exact ⟨none, 0, rfl, hl, h⟩
  · exact ⟨some ⟨g, 0, none⟩, cap, rfl, hl, h⟩
theorem OwnN.nil (w : World) (B : Nat) : OwnN w B none 0 0 [] := ⟨rfl, World.ownsRow_nil w B _ 1⟩

/-- kept where a row below its own base is written -/
theorem OwnN.kept_hi {w w1 : World} {B : Nat} {a : Option Addr} {n cap : Nat} {L : List Int} {r : Option Nat} (h : OwnN w B a n cap L) (hg : w.grownBy w1 r) (hr : ∀ k, r = some k → k < B) : OwnN w1 B a n cap L := by
  refine ⟨h.1, h.2.kept hg ?_⟩
  cases hv : (Value.slice a n cap).ownBlock with
  | none => exact .inl rfl
  | some k =>
    right
    intro e
    have h1 := hr k e.symm
    have h2 := (h.2.lt k hv).1
    omega
/-- what a mark turns lies from the base on -/
theorem OwnN.turn {w w1 : World} {B : Nat} {a : Option Addr} {n cap : Nat} {L : List Int} (h : OwnN w B a n cap L) (hB : B ≤ w.heap.size) (hg : w.grownBy w1 (Value.slice a n cap).ownBlock) : Below B w w1 :=
  (Below.refl B w).grown hg hB fun k hk => (h.2.lt k hk).1
theorem OwnN.turn_lt {w : World} {B : Nat} {a : Option Addr} {n cap : Nat} {L : List Int} (h : OwnN w B a n cap L) : ∀ k, (Value.slice a n cap).ownBlock = some k → k < w.heap.size := fun k hk => (h.2.lt k hk).2
theorem grown_trans {w w1 w2 : World} {r : Option Nat} (h : w.grownBy w1 r) (h2 : w1.grownBy w2 r) : w.grownBy w2 r :=
  ⟨h2.os.trans h.os, h2.tape.trans h.tape, h2.output.trans h.output, Nat.le_trans h.size h2.size, fun k hk hne => (h2.block k (Nat.lt_of_lt_of_le hk h.size) hne).trans (h.block k hk hne)⟩
theorem OwnN.set_grown {w : World} {B : Nat} {g n cap : Nat} {L : List Int} (h : OwnN w B (some ⟨g, 0, none⟩) n cap L) (i : Nat) (x : Int) : w.grownBy (w.setCell ⟨g, i, none⟩ (.int .i64 x)) (some g) := (h.2.stored i (.int .i64 x)).2
/-- the list of the first n values of a function -/
def tab (f : Nat → Int) (n : Nat) : List Int := (List.range n).map f
theorem tab_length (f : Nat → Int) (n : Nat) : (tab f n).length = n := by simp [tab]
theorem tab_succ (f : Nat → Int) (n : Nat) : tab f (n + 1) = tab f n ++ [f n] := by simp [tab, List.range_succ]
theorem intAt_tab (f : Nat → Int) (n i : Nat) (h : i < n) : intAt (tab f n) i = f i := by simp [intAt, tab, List.getD_eq_getElem?_getD, h]
theorem tab_of {L : List Int} {f : Nat → Int} {n : Nat} (hl : L.length = n) (h : ∀ i, i < n → intAt L i = f i) : L = tab f n := by
  apply List.ext_getElem
  · rw [hl, tab_length]
  · intro i h1 h2
    have := h i (by omega)
    simp only [intAt, List.getD_eq_getElem?_getD, List.getElem?_eq_getElem h1, Option.getD_some] at this
    rw [this]; simp [tab]
theorem tab_self (L : List Int) : tab (intAt L) L.length = L := (tab_of rfl fun _ _ => rfl).symm
theorem tab_congr {f g : Nat → Int} {n : Nat} (h : ∀ i, i < n → f i = g i) : tab f n = tab g n := tab_of (tab_length f n) fun i hi => (intAt_tab f n i hi).trans (h i hi)
theorem intAt_set (L : List Int) (i j : Nat) (x : Int) (h : i < L.length) : intAt (L.set i x) j = if i = j then x else intAt L j := by
  simp only [intAt, List.getD_eq_getElem?_getD, List.getElem?_set]
  by_cases e : i = j
  · subst e; simp [h]
  · simp [e]
/-- a list whose first k are those of f -/
def UpTo (f : Nat → Int) (k : Nat) (L : List Int) : Prop := ∀ i, i < k → intAt L i = f i
theorem UpTo.zero (f : Nat → Int) (L : List Int) : UpTo f 0 L := fun i hi => by omega
theorem UpTo.set {f : Nat → Int} {k : Nat} {L : List Int} (h : UpTo f k L) (hk : k < L.length) : UpTo f (k + 1) (L.set k (f k)) := by
  intro i hi
  rw [intAt_set L k i _ hk]
  by_cases e : k = i
  · subst e; rw [if_pos rfl]
  · rw [if_neg e]; exact h i (by omega)
theorem UpTo.tab {f : Nat → Int} {n : Nat} {L : List Int} (h : UpTo f n L) (hl : L.length = n) : L = tab f n := tab_of hl h
theorem int_one (n : Int) : ∀ u ∈ [Value.int .i64 n], u.oneCell' = true := by
  intro u hu
  simp only [List.mem_singleton] at hu
  subst hu; rfl
/-- one number more, appended -/
theorem own_snoc {w : World} {B : Nat} {v : Value} {n : Nat} {f : Nat → Int} (h : w.ownsRow B 2 1 v (n + 1) ((tab f n).map (Value.int .i64) ++ [.int .i64 (f n)])) : w.ownsRow B 2 1 v (n + 1) ((tab f (n + 1)).map (Value.int .i64)) := by
  rw [tab_succ, List.map_append]; exact h
theorem grownBy_setCell1 (w : World) (R o : Nat) (v : Value) : w.grownBy (w.setCell ⟨R, o, none⟩ v) (some R) :=
  ⟨rfl, rfl, rfl, by simp [World.setCell], fun k _ hne => heap_setCell_other w ⟨R, o, none⟩ k v (fun e => hne (by rw [e]))⟩
theorem heap_alloc3 (w : World) (A B C : Obj) : (((w.alloc A).alloc B).alloc C).heap[w.heap.size]? = some A ∧ (((w.alloc A).alloc B).alloc C).heap[w.heap.size + 1]? = some B ∧ (((w.alloc A).alloc B).alloc C).heap[w.heap.size + 2]? = some C := by
  have e1 : (w.alloc A).heap.size = w.heap.size + 1 := by simp
  have e2 : ((w.alloc A).alloc B).heap.size = w.heap.size + 2 := by simp
  refine ⟨?_, ?_, ?_⟩
  · rw [Below.heap_alloc _ _ _ (by omega), Below.heap_alloc _ _ _ (by omega)]; exact heap_alloc_new w A
  · rw [Below.heap_alloc _ _ _ (by omega), ← e1]; exact heap_alloc_new _ B
  · rw [← e2]; exact heap_alloc_new _ C
theorem below_undrew {w w1 : World} (h : Below w.drew.heap.size w.drew w1) : Below w.heap.size w w1 := ⟨h.os, h.tape, h.output, h.size, h.block⟩
/-- a slice of int64 that came in, as a list -/
theorem ints_of_row {w : World} {a : Option Addr} {len cap : Nat} {z : List Int} (h : IsRow .i64 w a len cap z) : Ints w a (z.take len) ∧ (z.take len).length = len ∧ len ≤ maxLen ∧ ∀ i, i < len → -9223372036854775808 ≤ intAt (z.take len) i ∧ intAt (z.take len) i ≤ 9223372036854775807 := by
  rcases h with ⟨rfl, rfl, rfl, rfl⟩ | ⟨x, rfl, h1, h2, h3, h4, h5⟩
  · exact ⟨.inl rfl, rfl, Nat.zero_le _, fun i hi => by omega⟩
  · have hl : (z.take len).length = len := by rw [List.length_take]; omega
    have hat : ∀ i, i < len → intAt (z.take len) i = z.getD i 0 := by
      intro i hi
      simp only [intAt, List.getD_eq_getElem?_getD, List.getElem?_take, if_pos hi]
    refine ⟨?_, hl, Nat.le_trans h1 h2, fun i hi => ?_⟩
    · by_cases h0 : len = 0
      · left; subst h0; rfl
      · right
        obtain ⟨b, off, spot⟩ := x
        have hspot : spot = none := by simpa [Addr.add] using World.cell?_spot (h4 0 (by omega))
        subst hspot
        refine ⟨b, off, rfl, fun i hi => ?_⟩
        have := h4 i (by omega)
        rw [Addr.add_lit] at this
        rw [this, hat i (by omega)]
    · rw [hat i hi]
      have hin : z.getD i 0 ∈ z := by rw [List.getD_eq_getElem?_getD, List.getElem?_eq_getElem (by omega)]; simp
      simpa [Lit.wf, IntKind.min, IntKind.max, IntKind.signed, IntKind.bits] using h5 _ hin
end Go.Proofs.Ytpniiaemgobaiab

/-
  Slices of structs of any one-cell fields: a call's own ones, their cells in one list of values; such slices as they are read.
-/
namespace Go.Proofs.Ytpniiaemgobaiab
open Go.RowKit
set_option linter.unusedVariables false
def valAt (V : List Value) (i : Nat) : Value := V.getD i (.bool false)
theorem valAt_left {V X : List Value} {j : Nat} (h : j < V.length) : valAt (V ++ X) j = valAt V j := by
  simp [valAt, List.getD_eq_getElem?_getD, List.getElem?_append_left h]
theorem valAt_right {V X : List Value} {i j : Nat} (h : i = V.length + j) : valAt (V ++ X) i = valAt X j := by
  subst h; simp [valAt, List.getD_eq_getElem?_getD, List.getElem?_append_right]
theorem valAt_set (V : List Value) (i j : Nat) (x : Value) (h : i < V.length) : valAt (V.set i x) j = if i = j then x else valAt V j := by
  simp only [valAt, List.getD_eq_getElem?_getD, List.getElem?_set]
  by_cases e : i = j
  · subst e; simp [h]
  · simp [e]
def ValsAt (w : World) (b off : Nat) (V : List Value) : Prop := ∀ i, i < V.length → w.cell? ⟨b, off + i, none⟩ = some (valAt V i)
/-- a slice whose cells read as V -/
def Vals (w : World) (a : Option Addr) (V : List Value) : Prop := V = [] ∨ ∃ b off, a = some ⟨b, off, none⟩ ∧ ValsAt w b off V
theorem Vals.at {w : World} {a : Option Addr} {V : List Value} (h : Vals w a V) (i : Nat) (hi : i < V.length) : ∃ b off, a = some ⟨b, off, none⟩ ∧ ValsAt w b off V := by
  rcases h with rfl | h
  · simp at hi
  · exact h
theorem ValsAt.kept {w w1 : World} {b off : Nat} {V : List Value} (h : ValsAt w b off V) (hb : Below w.heap.size w w1) : ValsAt w1 b off V := by
  intro i hi
  have h0 := h i hi
  have hlt : b < w.heap.size := block_lt_of_cell h0
  exact (hb.cell (p := ⟨b, _, none⟩) hlt).trans h0
theorem Vals.kept {w w1 : World} {a : Option Addr} {V : List Value} (h : Vals w a V) (hb : Below w.heap.size w w1) : Vals w1 a V := by
  rcases h with rfl | ⟨b, off, rfl, h⟩
  · exact .inl rfl
  · exact .inr ⟨b, off, rfl, h.kept hb⟩
/-- a slice of n structs of m cells each, all cells in one list V, that lies in memory laid from block B on -/
def OwnV (e m : Nat) (w : World) (B : Nat) (a : Option Addr) (n cap : Nat) (V : List Value) : Prop := V.length = n * m ∧ w.ownsRow B e m (.slice a n cap) n V
section
variable {e m : Nat} {w w1 : World} {B : Nat} {a : Option Addr} {n cap : Nat} {V : List Value}
theorem OwnV.len (h : OwnV e m w B a n cap V) : V.length = n * m := h.1
theorem OwnV.kept (h : OwnV e m w B a n cap V) (hb : Below w.heap.size w w1) : OwnV e m w1 B a n cap V :=
  ⟨h.1, h.2.kept (grown_of_below hb none) (by cases hv : (Value.slice a n cap).ownBlock <;> simp)⟩
theorem OwnV.mono {C : Nat} (h : OwnV e m w B a n cap V) (hC : C ≤ B) : OwnV e m w C a n cap V := by
  refine ⟨h.1, h.2.1, ?_⟩
  rcases h.2.2 with h | ⟨g, c, cur, h1, h2, r⟩
  · exact .inl h
  · exact .inr ⟨g, c, cur, h1, Nat.le_trans hC h2, r⟩
theorem OwnV.vals (h : OwnV e m w B a n cap V) : Vals w a V := by
  obtain ⟨hl, h⟩ := h
  rcases h.2 with ⟨hv, h0⟩ | ⟨g, cap', cur, hv, hb, hg, r⟩
  · exact .inl (List.eq_nil_of_length_eq_zero (by rw [hl, h0, Nat.zero_mul]))
  · simp only [Value.slice.injEq] at hv
    obtain ⟨rfl, _, rfl⟩ := hv
    refine .inr ⟨g, 0, rfl, fun i hi => ?_⟩
    rw [Nat.zero_add, h.cellAt i (by rw [← hl]; exact hi)]
    simp [valAt, List.getD_eq_getElem?_getD, List.getElem?_eq_getElem hi]
theorem OwnV.head (h : OwnV e m w B a n cap V) (i : Nat) (hi : i < n) : ∃ g, a = some ⟨g, 0, none⟩ ∧ B ≤ g ∧ g < w.heap.size := by
  rcases h.2.2 with ⟨hv, h0⟩ | ⟨g, cap', cur, hv, hb, hg, r⟩
  · omega
  · simp only [Value.slice.injEq] at hv
    exact ⟨g, hv.1, hb, lt_of_block hg⟩
theorem OwnV.cell {g : Nat} (h : OwnV e m w B (some ⟨g, 0, none⟩) n cap V) (i : Nat) (hi : i < n * m) : w.cell? ⟨g, i, none⟩ = some (valAt V i) := by
  obtain ⟨hl, h⟩ := h
  have hi2 : i < V.length := by rw [hl]; exact hi
  rw [h.cellAt i hi]
  simp [valAt, List.getD_eq_getElem?_getD, List.getElem?_eq_getElem hi2]
theorem OwnV.frozen {g : Nat} (h : OwnV e m w B (some ⟨g, 0, none⟩) n cap V) (i : Nat) : w.frozen? ⟨g, i, none⟩ = false := h.2.frozenAt i
theorem OwnV.set {g : Nat} (h : OwnV e m w B (some ⟨g, 0, none⟩) n cap V) (i : Nat) (x : Value) : OwnV e m (w.setCell ⟨g, i, none⟩ x) B (some ⟨g, 0, none⟩) n cap (V.set i x) :=
  ⟨by simpa using h.1, (h.2.stored i x).1⟩
theorem OwnV.set_grown {g : Nat} (h : OwnV e m w B (some ⟨g, 0, none⟩) n cap V) (i : Nat) (x : Value) : w.grownBy (w.setCell ⟨g, i, none⟩ x) (some g) := (h.2.stored i x).2
theorem OwnV.turn (h : OwnV e m w B a n cap V) (hB : B ≤ w.heap.size) (hg : w.grownBy w1 (Value.slice a n cap).ownBlock) : Below B w w1 :=
  (Below.refl B w).grown hg hB fun k hk => (h.2.lt k hk).1
theorem OwnV.turn_lt (h : OwnV e m w B a n cap V) : ∀ k, (Value.slice a n cap).ownBlock = some k → k < w.heap.size := fun k hk => (h.2.lt k hk).2
theorem OwnV.nil (w : World) (B : Nat) : OwnV e m w B none 0 0 [] := ⟨by simp, World.ownsRow_nil w B _ m⟩
theorem OwnV.shape {v : Value} (hV : V.length = n * m) (h : w.ownsRow B e m v n V) : ∃ a cap, v = .slice a n cap ∧ OwnV e m w B a n cap V := by
  rcases h.2 with ⟨rfl, rfl⟩ | ⟨g, cap, cur, rfl, r⟩
  · exact ⟨none, 0, rfl, hV, h⟩
  · exact ⟨some ⟨g, 0, none⟩, cap, rfl, hV, h⟩
end
theorem oneV {l : List Value} (h : l.all (·.oneCell') = true) : ∀ u ∈ l, u.oneCell' = true := List.all_eq_true.1 h
end Go.Proofs.Ytpniiaemgobaiab

/-
  A range over a function whose iterator hands memory of its own to the body: what is handed is known in the round's world; T: the blocks that the caller's knowledge speaks of.
-/
namespace Go.Proofs.Ytpniiaemgobaiab
open Go Go.RowKit
set_option linter.unusedVariables false
/-- two worlds agree on the blocks of T -/
structure On (T : Nat → Prop) (A B : World) : Prop where
  os : B.os = A.os
  tape : B.tape = A.tape
  output : B.output = A.output
  size : A.heap.size ≤ B.heap.size
  block : ∀ b, T b → b < A.heap.size → B.heap[b]? = A.heap[b]?
theorem On.refl (T : Nat → Prop) (A : World) : On T A A := ⟨rfl, rfl, rfl, Nat.le_refl _, fun _ _ _ => rfl⟩
theorem On.trans {T : Nat → Prop} {A B C : World} (h : On T A B) (k : On T B C) : On T A C :=
  ⟨k.os.trans h.os, k.tape.trans h.tape, k.output.trans h.output, Nat.le_trans h.size k.size, fun b t l => (k.block b t (Nat.lt_of_lt_of_le l h.size)).trans (h.block b t l)⟩
theorem On.mono {T U : Nat → Prop} {A B : World} (h : On T A B) (hU : ∀ b, U b → b < A.heap.size → T b) : On U A B :=
  ⟨h.os, h.tape, h.output, h.size, fun b u l => h.block b (hU b u l) l⟩
theorem On.of_below {T : Nat → Prop} {n : Nat} {A B : World} (h : Below n A B) (hT : ∀ b, T b → b < A.heap.size → b < n) : On T A B :=
  ⟨h.os, h.tape, h.output, h.size, fun b t l => h.block b (hT b t l)⟩
theorem On.below {T : Nat → Prop} {n : Nat} {A B : World} (h : On T A B) (hn : n ≤ A.heap.size) (hT : ∀ b, b < n → T b) : Below n A B :=
  ⟨h.os, h.tape, h.output, h.size, fun b l => h.block b (hT b l) (by omega)⟩
theorem On.cell {T : Nat → Prop} {A B : World} (h : On T A B) {p : Addr} (hT : T p.block) (hp : p.block < A.heap.size) : B.cell? p = A.cell? p := World.cell?_of_block (h.block p.block hT hp)
theorem On.frozen {T : Nat → Prop} {A B : World} (h : On T A B) {p : Addr} (hT : T p.block) (hp : p.block < A.heap.size) : B.frozen? p = A.frozen? p := World.frozen?_of_block (h.block p.block hT hp)
theorem On.putObj (T : Nat → Prop) (A : World) (l : Nat) (o : Obj) (hl : ¬ T l) : On T A (A.putObj l o) :=
  ⟨rfl, rfl, rfl, by simp, fun b t _ => World.putObj_heap_other (fun e => hl (by rw [← e]; exact t))⟩
theorem On.alloc {T : Nat → Prop} {A B : World} (h : On T A B) (o : Obj) : On T A (B.alloc o) :=
  h.trans ⟨rfl, rfl, rfl, by simp, fun b _ l => Below.heap_alloc _ _ _ l⟩
theorem On.setCell {T : Nat → Prop} {A B : World} (h : On T A B) {p : Addr} (hp : ¬ T p.block) (u : Value) : On T A (B.setCell p u) :=
  h.trans ⟨rfl, rfl, rfl, by simp [World.setCell], fun b t _ => Below.heap_setCell _ _ _ _ (fun e => hp (by rw [← e]; exact t))⟩
theorem On.drew {T : Nat → Prop} {A B : World} (h : On T A B) : On T A B.drew := ⟨h.os, h.tape, h.output, h.size, h.block⟩
/-- what a round does to the caller's knowledge: T' is of T and of new blocks; all outside of T is kept -/
def Goes {α : Type} (J : Nat → (Nat → Prop) → World → Prop) (k : Nat) (T : Nat → Prop) (W : World) (W' : World) : Prop :=
  ∃ T' : Nat → Prop, J (k + 1) T' W' ∧ On (fun b => ¬ T b) W W' ∧ ∀ b, T' b → (T b ∨ W.heap.size ≤ b) ∧ b < W'.heap.size
def roundEnd (J : Nat → (Nat → Prop) → World → Prop) (k : Nat) (T : Nat → Prop) (W : World) : Exit → Act → World → Prop
  | .normal, _, W' => Goes (α := Unit) J k T W W'
  | _, _, _ => False
/-- AN ITERATOR: it calls yield N times, each time with something that H tells; it ends. -/
def Iter {α : Type} (F : Fence) (n : Nat) (P : Program) (gf : Nat) (lb : Array Value) (encs : α → Array Value) (H : Nat → α → World → Prop) (N : Nat) (T0 : Nat → Prop) (w : World) : Prop :=
  ∀ (l : Nat) (W : World) (K : Nat → (Nat → Prop) → World → Prop), On (fun _ => True) w W →
    (∀ k T A B, K k T A → On T A B → K k T B) →
    (∀ k T x W1, k < N → K k T W1 → H k x W1 → YieldAt F (n - 1) P l (encs x) W1 fun e W' => e = .returned (.bool true) ∧ Goes (α := Unit) K k T W1 W') →
    (∃ T, K 0 T W ∧ ∀ b, T b → (T0 b ∨ w.heap.size ≤ b) ∧ b < W.heap.size) →
    CallsIn F n P gf (#[.func (.yield l) #[] #[]] ++ lb) W fun e W' => (∃ v, e = .returned v) ∧ ∃ T, K N T W'
variable {F : Fence} {n : Nat} {P : Program}
theorem range_law {α : Type} {g : Operand} {ps : Array Tmp} {assign body : Code} {Q : Exit → Act → World → Prop} {a : Act} {w : World}
    (hro : F.round = none) (h1 : 1 ≤ n) {gf : Nat} {lb : Array Value} (hg : a.eval g = .func (.func gf) #[] lb) (hFg : F.fn gf) (eg : ∀ args w, (callFunc gf args).run P w = .ok (.enter gf args) w)
    {encs : α → Array Value} {H : Nat → α → World → Prop} {N : Nat} {T0 : Nat → Prop} (hit : Iter F (n - 1) P gf lb encs H N T0 w) (hps : ∀ x, (encs x).size = ps.size)
    (hH : ∀ k x W l o o', H k x W → W.heap[l]? = some o → o.isCells = false → H k x (W.putObj l o'))
    (J : Nat → (Nat → Prop) → World → Prop) (hJ : ∀ k T A B, J k T A → On T A B → J k T B) (hT0 : ∀ b, T0 b → b < w.heap.size) (h0 : J 0 T0 w) (a₁ : α → Act)
    (hassign : ∀ (l : Nat) (x : α) (W : World) (K : Act → World → Prop), K (a₁ x) W →
      assign.wpIn (F.inRound l) (n - 1 - 1) P (Exit.then K (fun _ _ _ => False)) { tmps := (ps.zip (encs x)).foldl (fun t (p, v) => t.setIfInBounds p v) a.tmps, defers := [] } W)
    (hbody : ∀ (l k : Nat) (T : Nat → Prop) (x : α) (W : World), k < N → J k T W → H k x W → body.wpIn (F.inRound l) (n - 1 - 1) P (roundEnd J k T W) (a₁ x) W)
    (hdone : ∀ (D : Nat) (T : Nat → Prop) (W : World), w.heap.size ≤ D → ¬ T D → J N T W → W.heap[D]? = some (.deferred (some [])) → Q .normal { a with defers := { target := .collected D, args := #[] } :: a.defers } W) :
    (Code.rangeFunc g ps assign body).wpIn F n P Q a w := by
  refine wpIn_rangeFunc fun fn hfn => ?_
  rw [hro]
  let rec' : LoopState → Option Code → Loop := fun st pe => { state := st, pending := pe, fn, tmps := a.tmps, params := ps, assign, body, defers := w.heap.size }
  have hD : (w.alloc (.deferred (some []))).heap.size = w.heap.size + 1 := World.size_alloc _ _
  let W1 := (w.alloc (.deferred (some []))).alloc (.loop (rec' .ready none))
  let l := w.heap.size + 1
  have eL : W1.heap[l]? = some (.loop (rec' .ready none)) := by
    have := World.alloc_heap_new (w.alloc (.deferred (some []))) (.loop (rec' .ready none)); rwa [hD] at this
  have eD : W1.heap[w.heap.size]? = some (.deferred (some [])) := (Below.heap_alloc _ _ _ (by omega)).trans (World.alloc_heap_new w _)
  have hW : ∀ T, On T w W1 := fun T => ((On.refl T w).alloc _).alloc _
  refine ⟨l, _, W1, { target := .fn (.func gf) lb, args := #[.func (.yield l) #[] #[]] }, W1, gf, #[.func (.yield l) #[] #[]] ++ lb, W1, run_enterLoop_outer _ _ _ _ _, ?_, ?_, ?_, fun _ => h1, ?_⟩
  · simp only [resolve, hg]; simp [go_sem, l]
  · intro f' hf'; simp [Target.leads] at hf'; subst hf'; exact hFg
  · simp [invoke, go_sem, eg]
  -- what is known between two rounds: the caller's, and the two blocks of the law
  let K : Nat → (Nat → Prop) → World → Prop := fun k U W => ∃ T : Nat → Prop, J k T W ∧ ¬ T w.heap.size ∧ ¬ T l ∧ (∀ b, T b → U b) ∧ U w.heap.size ∧ U l ∧ (∀ b, U b → T b ∨ b = w.heap.size ∨ b = l) ∧ W.heap[l]? = some (.loop (rec' .ready none)) ∧ W.heap[w.heap.size]? = some (.deferred (some []))
  refine (hit l W1 K (hW _) ?_ ?_ ⟨fun b => T0 b ∨ b = w.heap.size ∨ b = l, ⟨T0, hJ _ _ _ _ h0 (hW _), fun h => Nat.lt_irrefl _ (hT0 _ h), fun h => by have := hT0 _ h; omega, fun b h => .inl h, .inr (.inl rfl), .inr (.inr rfl), fun b h => h, eL, eD⟩, ?_⟩).mono ?_
  · rintro k U A B ⟨T, hj, d1, d2, s1, u1, u2, s2, f1, f2⟩ hAB
    have b1 := (Array.getElem?_eq_some_iff.1 f1).1; have b2 := (Array.getElem?_eq_some_iff.1 f2).1
    exact ⟨T, hJ _ _ _ _ hj (hAB.mono fun b t _ => s1 b t), d1, d2, s1, u1, u2, s2, (hAB.block _ u2 b1).trans f1, (hAB.block _ u1 b2).trans f2⟩
  · rintro k U x W hk ⟨T, hj, d1, d2, s1, u1, u2, s2, f1, f2⟩ hx
    have b1 := (Array.getElem?_eq_some_iff.1 f1).1; have b2 := (Array.getElem?_eq_some_iff.1 f2).1
    refine ⟨fn, _, assign, body, run_yield (P := P) (args := encs x) f1 (hps x), roundIn_of_wpIn hfn (hassign l x W _ ⟨_, run_beginRound f1 rfl, ?_⟩)⟩
    have o1 : On T W (W.putObj l (.loop (rec' .busy none))) := On.putObj _ _ _ _ d2
    refine wpIn_mono (hbody l k T x (W.putObj l (.loop (rec' .busy none))) hk (hJ _ _ _ _ hj o1) (hH _ _ _ _ _ _ hx f1 rfl)) ?_
    intro e a3 W3 hp
    cases e with
    | normal =>
      obtain ⟨T', hj', ho, ht⟩ := hp
      have g1 : W3.heap[l]? = some (.loop (rec' .busy none)) := (ho.block l d2 (by simpa using b1)).trans (World.putObj_heap_same b1)
      have g2 : W3.heap[w.heap.size]? = some (.deferred (some [])) := (ho.block _ d1 (by simpa using b2)).trans ((World.putObj_heap_other (by omega)).trans f2)
      have q1 : ¬ T' l := fun h => (ht l h).1.elim d2 (fun h => by simp at h; omega)
      have q2 : ¬ T' w.heap.size := fun h => (ht _ h).1.elim d1 (fun h => by simp at h; omega)
      have b3 := (Array.getElem?_eq_some_iff.1 g1).1
      refine ⟨_, _, run_endRound (P := P) none g1, rfl, fun b => T' b ∨ b = w.heap.size ∨ b = l, ⟨T', hJ _ _ _ _ hj' (On.putObj _ _ _ _ q1), q2, q1, fun b h => .inl h, .inr (.inl rfl), .inr (.inr rfl), fun b h => h, World.putObj_heap_same b3, (World.putObj_heap_other (by omega)).trans g2⟩, ?_, ?_⟩
      · have v : ¬ ¬ U l := fun h => h u2
        exact ((On.putObj _ _ _ _ v).trans (ho.mono fun b h _ t => h (s1 b t))).trans (On.putObj _ _ _ _ v)
      · rintro b (h | rfl | rfl)
        · have hb3 := (ht b h).2
          rcases (ht b h).1 with h | h
          · exact ⟨.inl (s1 b h), by simpa using hb3⟩
          · exact ⟨.inr (by simpa using h), by simpa using hb3⟩
        · exact ⟨.inl u1, by simpa using (Array.getElem?_eq_some_iff.1 g2).1⟩
        · exact ⟨.inl u2, by simpa using b3⟩
    | ret => exact hp.elim
    | exit id => exact hp.elim
    | goto t => exact hp.elim
    | panic ch => exact hp.elim
    | outgrown => exact hp.elim
  · have hs := (hW (fun _ => True)).size
    have b1 := (Array.getElem?_eq_some_iff.1 eL).1; have b2 := (Array.getElem?_eq_some_iff.1 eD).1
    rintro b (h | h | h)
    · exact ⟨.inl h, by have := hT0 b h; omega⟩
    · exact ⟨.inr (by omega), by omega⟩
    · exact ⟨.inr (by omega), by omega⟩
  · rintro e W2 ⟨⟨v, rfl⟩, U, T, hj, d1, d2, s1, u1, u2, s2, f1, f2⟩
    exact ⟨none, _, run_endLoop (P := P) f1 (by simp [rec']), hdone _ T _ (Nat.le_refl _) d1 (hJ _ _ _ _ hj (On.putObj _ _ _ _ d2)) ((World.putObj_heap_other (by omega)).trans f2)⟩
end Go.Proofs.Ytpniiaemgobaiab

/-
  The laws' own helpers on slices of int64: they are held against each other, marked, looked at, copied.
-/
namespace Go.Proofs.Ytpniiaemgobaiab
open Go.RowKit
set_option linter.unusedVariables false
end Go.Proofs.Ytpniiaemgobaiab

/-
  Plain facts of chapter 1, without any program: folding a byte, the table that is built by stores, lists of bytes.
-/
namespace Go.Proofs.Ytpniiaemgobaiab
open Go.RowKit
set_option linter.unusedVariables false

/-- a capital letter's small one -/
def foldI (n : Int) : Int := if 65 ≤ n ∧ n ≤ 90 then n + 32 else n
def foldB (b : UInt8) : UInt8 := if 65 ≤ b.toNat ∧ b.toNat ≤ 90 then b + 32 else b

theorem foldB_toNat (b : UInt8) : ((foldB b).toNat : Int) = foldI (b.toNat : Int) := by
  unfold foldB foldI
  by_cases h : 65 ≤ b.toNat ∧ b.toNat ≤ 90
  · have h2 : (65 : Int) ≤ (b.toNat : Int) ∧ (b.toNat : Int) ≤ 90 := by omega
    rw [if_pos h, if_pos h2]
    have : (b + 32).toNat = (b.toNat + 32) % 256 := by simp [UInt8.toNat_add]
    rw [this]; omega
  · have h2 : ¬ ((65 : Int) ≤ (b.toNat : Int) ∧ (b.toNat : Int) ≤ 90) := by omega
    rw [if_neg h, if_neg h2]

theorem foldB_idem (b : UInt8) : foldB (foldB b) = foldB b := by
  apply UInt8.toNat_inj.1
  have h1 := foldB_toNat b
  have h2 := foldB_toNat (foldB b)
  have : ((foldB (foldB b)).toNat : Int) = ((foldB b).toNat : Int) := by
    rw [h2, h1]
    unfold foldI
    split <;> rename_i hh
    · rw [if_neg (by omega)]
    · rfl
  omega

theorem foldI_byte (n : Int) (h0 : 0 ≤ n) (h1 : n ≤ 255) : 0 ≤ foldI n ∧ foldI n ≤ 255 := by
  unfold foldI; split <;> omega

/-- a text folded -/
def foldL (l : List UInt8) : List UInt8 := l.map foldB
def foldS (s : ByteArray) : ByteArray := ⟨(foldL s.data.toList).toArray⟩
theorem foldS_size (s : ByteArray) : (foldS s).size = s.size := by
  show ((foldL s.data.toList).toArray).size = s.data.size
  simp [foldL]

def alikeS (a b : ByteArray) (f : Bool) : Bool := if f then foldL a.data.toList == foldL b.data.toList else a.data.toList == b.data.toList
def eqI (x y : Int) (f : Bool) : Bool := if f then foldI x == foldI y else x == y

theorem eqI_foldB (x y : UInt8) (f : Bool) : eqI x.toNat y.toNat f = if f then foldB x == foldB y else x == y := by
  have hx := foldB_toNat x
  have hy := foldB_toNat y
  unfold eqI
  cases f
  · rw [Bool.eq_iff_iff]; simp [← UInt8.toNat_inj]; omega
  · rw [Bool.eq_iff_iff]; simp [← UInt8.toNat_inj, ← hx, ← hy]; omega
/-- the first k bytes are alike -/
def alikeTo (a b : ByteArray) (f : Bool) (k : Nat) : Prop := if f then foldL (a.data.toList.take k) = foldL (b.data.toList.take k) else a.data.toList.take k = b.data.toList.take k
theorem alikeTo_zero (a b : ByteArray) (f : Bool) : alikeTo a b f 0 := by unfold alikeTo; cases f <;> simp [foldL]
theorem snoc_iff {a b : List UInt8} {x y : UInt8} (h : a.length = b.length) : a ++ [x] = b ++ [y] ↔ a = b ∧ x = y := by
  constructor
  · intro e
    have := List.append_inj e h
    simpa using this
  · rintro ⟨rfl, rfl⟩; rfl
theorem alikeTo_succ (a b : ByteArray) (f : Bool) (k : Nat) (ha : k < a.size) (hb : k < b.size) : alikeTo a b f (k + 1) ↔ alikeTo a b f k ∧ eqI a[k].toNat b[k].toNat f = true := by
  have hla : (a.data.toList.take k).length = (b.data.toList.take k).length := by
    have h1 : a.data.toList.length = a.size := Array.length_toList
    have h2 : b.data.toList.length = b.size := Array.length_toList
    simp only [List.length_take]; omega
  rw [eqI_foldB]
  unfold alikeTo
  rw [take_snoc a k ha, take_snoc b k hb]
  cases f
  · simp only [Bool.false_eq_true, if_false, beq_iff_eq]
    exact snoc_iff hla
  · simp only [if_true, beq_iff_eq, foldL, List.map_append, List.map_cons, List.map_nil]
    exact snoc_iff (by simpa using hla)
theorem alikeS_len (a b : ByteArray) (f : Bool) (h : a.size ≠ b.size) : alikeS a b f = false := by
  have h1 : a.data.toList.length = a.size := Array.length_toList
  have h2 : b.data.toList.length = b.size := Array.length_toList
  unfold alikeS
  cases f
  · simp only [Bool.false_eq_true, if_false, beq_eq_false_iff_ne]
    intro e; rw [e] at h1; omega
  · simp only [if_true, beq_eq_false_iff_ne, foldL]
    intro e
    have := congrArg List.length e
    simp only [List.length_map] at this; omega
theorem alikeS_all (a b : ByteArray) (f : Bool) (h : a.size = b.size) : alikeTo a b f a.size ↔ alikeS a b f = true := by
  have h1 : a.data.toList.length = a.size := Array.length_toList
  have h2 : b.data.toList.length = b.size := Array.length_toList
  unfold alikeS alikeTo
  rw [List.take_of_length_le (by omega), List.take_of_length_le (by omega)]
  cases f <;> simp
theorem alikeTo_mono (a b : ByteArray) (f : Bool) (k n : Nat) (hkn : k ≤ n) (h : alikeTo a b f n) : alikeTo a b f k := by
  unfold alikeTo at *
  cases f
  · simp only [Bool.false_eq_true, if_false] at *
    have := congrArg (List.take k) h
    rwa [List.take_take, List.take_take, Nat.min_eq_left hkn] at this
  · simp only [if_true, foldL] at *
    have := congrArg (List.take k) h
    rwa [← List.map_take, ← List.map_take, List.take_take, List.take_take, Nat.min_eq_left hkn] at this

/-- the bits of the places below k of which g says yes -/
def maskTo (g : Nat → Bool) : Nat → Nat
  | 0 => 0
  | k + 1 => maskTo g k + if g k then 2 ^ k else 0
theorem maskTo_lt (g : Nat → Bool) (k : Nat) : maskTo g k < 2 ^ k := by
  induction k with
  | zero => simp [maskTo]
  | succ k ih => simp only [maskTo]; rw [Nat.pow_succ]; split <;> omega
theorem maskTo_congr (g h : Nat → Bool) (k : Nat) (e : ∀ i, i < k → g i = h i) : maskTo g k = maskTo h k := by
  induction k with
  | zero => rfl
  | succ k ih => simp only [maskTo]; rw [ih (fun i hi => e i (by omega)), e k (by omega)]
def byteAt (p : ByteArray) (i : Nat) : UInt8 := p.data.toList.getD i 0
def maskG (p : ByteArray) (f : Bool) (b : Int) (i : Nat) : Bool := eqI ((byteAt p i).toNat) b f
def maskI (p : ByteArray) (f : Bool) (b : Int) : Int := if p.size ≤ 20 ∧ 0 ≤ b ∧ b ≤ 255 then (maskTo (maskG p f b) p.size : Int) else 0

/-- a row of bytes, the first k folded -/
def frow (s : ByteArray) (cap : Nat) : Nat → Array Value
  | 0 => bytesRow s cap
  | k + 1 => (frow s cap k).setIfInBounds k (.int .u8 (foldI ((s.data.toList.getD k 0).toNat)))
theorem bytesRow_size (s : ByteArray) (cap : Nat) (h : s.size ≤ cap) : (bytesRow s cap).size = cap := by
  have : s.data.size = s.size := rfl
  simp [bytesRow]; omega
theorem frow_size (s : ByteArray) (cap k : Nat) : (frow s cap k).size = (bytesRow s cap).size := by
  induction k with
  | zero => rfl
  | succ k ih => simp [frow, ih]
theorem frow_at (s : ByteArray) (cap k i : Nat) (hi : i < s.size) :
    (frow s cap k)[i]? = some (.int .u8 (if i < k then foldI ((s.data.toList.getD i 0).toNat) else ((s.data.toList.getD i 0).toNat : Int))) := by
  have hd : s.data.toList.getD i 0 = s.data[i]'hi := by
    have hl : i < s.data.toList.length := by rw [Array.length_toList]; exact hi
    rw [List.getD_eq_getElem?_getD, List.getElem?_eq_getElem hl]; rfl
  induction k with
  | zero => rw [if_neg (by omega), hd]; exact bytesRow_at s cap i hi
  | succ k ih =>
    simp only [frow]
    rw [Array.getElem?_setIfInBounds]
    by_cases h : k = i
    · subst h
      have hl : k < (frow s cap k).size := (Array.getElem?_eq_some_iff.1 ih).1
      rw [if_pos rfl, if_pos hl, if_pos (by omega)]
    · rw [if_neg h, ih]; congr 2
      by_cases h2 : i < k
      · rw [if_pos h2, if_pos (by omega)]
      · rw [if_neg h2, if_neg (by omega)]

/-- FoldOf at any number -/
def foldOfI (n : Int) : Int := if 0 ≤ n ∧ n ≤ 255 then foldI n else -1

/-- 256 noughts -/
def zeros256 : Array Value := Array.replicate 256 (.int .u8 0)
def tab1 : Nat → Array Value
  | 0 => zeros256
  | k + 1 => (tab1 k).setIfInBounds k (.int .u8 k)
def tab2 : Nat → Array Value
  | 0 => tab1 256
  | k + 1 => (tab2 k).setIfInBounds (65 + k) (.int .u8 ((65 + k : Nat) + 32 : Int))
def foldTab : Array Value := tab2 26

theorem tab1_size (k : Nat) : (tab1 k).size = 256 := by
  induction k with
  | zero => simp [tab1, zeros256]
  | succ k ih => simp [tab1, ih]
theorem tab2_size (k : Nat) : (tab2 k).size = 256 := by
  induction k with
  | zero => simp [tab2, tab1_size]
  | succ k ih => simp [tab2, ih]
theorem tab1_at (k i : Nat) (hi : i < 256) : (tab1 k)[i]? = some (.int .u8 (if i < k then (i : Int) else 0)) := by
  induction k with
  | zero => simp [tab1, zeros256, hi]
  | succ k ih =>
    have hs := tab1_size k
    simp only [tab1]
    rw [Array.getElem?_setIfInBounds]
    by_cases h : k = i
    · subst h; simp [hs, hi]
    · rw [if_neg h, ih]; congr 2
      by_cases h2 : i < k
      · simp [h2]; omega
      · rw [if_neg h2, if_neg (by omega)]
theorem tab2_at (k i : Nat) (hi : i < 256) : (tab2 k)[i]? = some (.int .u8 (if 65 ≤ i ∧ i < 65 + k then (i : Int) + 32 else (i : Int))) := by
  induction k with
  | zero => simp only [tab2]; rw [tab1_at 256 i hi, if_pos hi, if_neg (by omega)]
  | succ k ih =>
    have hs := tab2_size k
    simp only [tab2]
    rw [Array.getElem?_setIfInBounds]
    by_cases h : 65 + k = i
    · subst h; rw [if_pos rfl, if_pos (by omega), if_pos (by omega)]
    · rw [if_neg h, ih]; congr 2
      by_cases h2 : 65 ≤ i ∧ i < 65 + k
      · rw [if_pos h2, if_pos (by omega)]
      · rw [if_neg h2, if_neg (by omega)]
theorem foldTab_at (i : Nat) (hi : i < 256) : foldTab[i]? = some (.int .u8 (foldI (i : Int))) := by
  unfold foldTab foldI
  rw [tab2_at 26 i hi]; congr 2
  by_cases h : 65 ≤ i ∧ i < 65 + 26
  · rw [if_pos h, if_pos (by omega)]
  · rw [if_neg h, if_neg (by omega)]
theorem foldTab_size : foldTab.size = 256 := tab2_size 26
theorem foldTab_one : foldTab.all (·.oneCell') = true := by
  rw [Array.all_eq_true]
  intro i hi
  have h := foldTab_at i (by simpa [foldTab_size] using hi)
  rw [Array.getElem?_eq_getElem hi] at h
  simp only [Option.some.injEq] at h
  rw [h]; rfl
end Go.Proofs.Ytpniiaemgobaiab

/-
  Plain facts of chapter 3, without any program: columns.
-/
namespace Go.Proofs.Ytpniiaemgobaiab
open Go.RowKit
set_option linter.unusedVariables false
/-- the least of three, as it is reckoned -/
def min3 (x y z : Int) : Int := if z < (if y < x then y else x) then z else (if y < x then y else x)
theorem min3_spec (x y z : Int) : min3 x y z ≤ x ∧ min3 x y z ≤ y ∧ min3 x y z ≤ z ∧ (min3 x y z = x ∨ min3 x y z = y ∨ min3 x y z = z) := by
  unfold min3; split <;> split <;> omega
/-- the next column's numbers, out of the column's, and of which bytes are alike -/
def nextAt (eq : Nat → Bool) (C : Nat → Int) (head : Int) : Nat → Int
  | 0 => head
  | i + 1 => min3 (if eq i then C i else C i + 1) (C (i + 1) + 1) (nextAt eq C head i + 1)
def Bnd (C : Nat → Int) (n : Nat) (M : Int) : Prop := ∀ i, i ≤ n → 0 ≤ C i ∧ C i ≤ M
theorem nextAt_bnd {eq : Nat → Bool} {C : Nat → Int} {head M : Int} {n : Nat} (h : Bnd C n M) (h0 : 0 ≤ head) (h1 : head ≤ M + 1) : Bnd (nextAt eq C head) n (M + 1) := by
  intro i
  induction i with
  | zero => intro _; exact ⟨h0, h1⟩
  | succ i ih =>
    intro hi
    obtain ⟨a, b⟩ := ih (by omega)
    obtain ⟨c, d⟩ := h i (by omega)
    obtain ⟨e, f⟩ := h (i + 1) hi
    have m := min3_spec (if eq i then C i else C i + 1) (C (i + 1) + 1) (nextAt eq C head i + 1)
    simp only [nextAt]
    generalize min3 (if eq i then C i else C i + 1) (C (i + 1) + 1) (nextAt eq C head i + 1) = q at m ⊢
    cases hq : eq i <;> simp only [hq, Bool.false_eq_true, if_false, if_true] at m <;> omega
theorem nextAt_congr {eq eq' : Nat → Bool} {C C' : Nat → Int} {head : Int} {n : Nat} (h : ∀ i, i < n → eq i = eq' i) (hC : ∀ i, i ≤ n → C i = C' i) : ∀ i, i ≤ n → nextAt eq C head i = nextAt eq' C' head i := by
  intro i
  induction i with
  | zero => intro _; rfl
  | succ i ih => intro hi; simp only [nextAt]; rw [h i (by omega), hC i (by omega), hC (i + 1) hi, ih (by omega)]
/-- may the number at a place stand behind the one ahead? -/
def okAt (L : List Int) (k : Nat) : Bool := decide (0 ≤ intAt L k ∧ (if k = 0 then intAt L 0 = 0 else intAt L (k - 1) - 1 ≤ intAt L k ∧ intAt L k ≤ intAt L (k - 1) + 1))
def stepsB (L : List Int) : Nat → Bool
  | 0 => true
  | k + 1 => stepsB L k && okAt L k
theorem stepsB_at {L : List Int} {n : Nat} (h : stepsB L n = true) : ∀ i, i < n → okAt L i = true := by
  induction n with
  | zero => intro i hi; omega
  | succ n ih =>
    simp only [stepsB, Bool.and_eq_true] at h
    intro i hi
    by_cases e : i = n
    · subst e; exact h.2
    · exact ih h.1 i (by omega)
theorem stepsB_no {L : List Int} {k n : Nat} (h : okAt L k = false) (hk : k < n) : stepsB L n = false := by
  cases e : stepsB L n
  · rfl
  · have := stepsB_at e k hk; rw [h] at this; cases this
theorem stepsB_bnd {L : List Int} {n : Nat} (h : stepsB L n = true) : ∀ i, i < n → 0 ≤ intAt L i ∧ intAt L i ≤ i := by
  intro i
  induction i with
  | zero =>
    intro hi
    have := stepsB_at h 0 hi
    simp [okAt] at this
    omega
  | succ i ih =>
    intro hi
    have h1 := ih (by omega)
    have := stepsB_at h (i + 1) hi
    simp [okAt] at this
    omega
theorem okAt_zero {L : List Int} : okAt L 0 = decide (intAt L 0 = 0) := by
  unfold okAt
  apply decide_eq_decide.2
  simp
  omega
theorem okAt_succ {L : List Int} {k : Nat} (hk : k ≠ 0) : okAt L k = decide (0 ≤ intAt L k ∧ intAt L (k - 1) - 1 ≤ intAt L k ∧ intAt L k ≤ intAt L (k - 1) + 1) := by
  unfold okAt
  apply decide_eq_decide.2
  simp [hk]
def aheadAt (L : List Int) (k : Nat) : Int := if k = 0 then 0 else intAt L (k - 1)
theorem aheadAt_zero (L : List Int) : aheadAt L 0 = 0 := rfl
theorem aheadAt_succ (L : List Int) (k : Nat) : aheadAt L (k + 1) = intAt L k := rfl
def inB (n lo hi : Int) : Bool := decide (lo ≤ n) && decide (n ≤ hi)
theorem inB_yes {n lo hi : Int} (h : lo ≤ n ∧ n ≤ hi) : inB n lo hi = true := by simp [inB, h.1, h.2]
theorem inB_no {n lo hi : Int} (h : ¬ (lo ≤ n ∧ n ≤ hi)) : inB n lo hi = false := by
  simp only [inB, Bool.and_eq_false_iff, decide_eq_false_iff_not]; omega
/-- is it a column of such a pattern? (ok: the pattern is right; n: its bytes) -/
def colOkB (ok : Bool) (n : Nat) (L : List Int) : Bool := ok && decide (L.length = n + 1) && stepsB L L.length
theorem colOkB_iff (ok : Bool) (n : Nat) (L : List Int) : colOkB ok n L = true ↔ ok = true ∧ L.length = n + 1 ∧ stepsB L L.length = true := by
  simp [colOkB, and_assoc]
end Go.Proofs.Ytpniiaemgobaiab

/-
  Chapter 2: contracts of PatternOk, in the program and in its model; of the law's own helpers on patterns.
-/
namespace Go.Proofs.Ytpniiaemgobaiab
open Go.RowKit
set_option linter.unusedVariables false
/-- what is left of n behind m, -1: it does not suffice -/
def szI (n m : Int) : Int := if m ≤ n then n - m else -1
theorem szI_yes {n m : Int} (h : m ≤ n) : szI n m = n - m := if_pos h
theorem szI_no {n m : Int} (h : ¬ m ≤ n) : szI n m = -1 := if_neg h
def patOk (s : ByteArray) (k : Int) : Bool := decide (1 ≤ s.size ∧ s.size ≤ 20 ∧ 0 ≤ k ∧ k ≤ 4)
theorem patOk_iff (s : ByteArray) (k : Int) : patOk s k = true ↔ (1 ≤ s.size ∧ s.size ≤ 20 ∧ 0 ≤ k ∧ k ≤ 4) := by simp [patOk]
theorem patOk_yes {s : ByteArray} {k : Int} (h : 1 ≤ s.size ∧ s.size ≤ 20 ∧ 0 ≤ k ∧ k ≤ 4) : patOk s k = true := (patOk_iff s k).2 h
theorem patOk_no {s : ByteArray} {k : Int} (h : ¬ (1 ≤ s.size ∧ s.size ≤ 20 ∧ 0 ≤ k ∧ k ≤ 4)) : patOk s k = false := by simp only [patOk, decide_eq_false_iff_not]; exact h

end Go.Proofs.Ytpniiaemgobaiab

/-
  Chapter 3: contracts of the first column, in the program and in its model.
-/
namespace Go.Proofs.Ytpniiaemgobaiab
open Go.RowKit
set_option linter.unusedVariables false
def idI (i : Nat) : Int := i
def firstColL (s : ByteArray) (k : Int) : List Int := if patOk s k then tab idI (s.size + 1) else []
set_option maxHeartbeats 400000 in
theorem impl_firstColumn (s : ByteArray) (w : World) (hs : s.size ≤ 1048576) :
    Calls Try.prog 85 #[.string s] w fun e w' => ∃ a cap, e = .returned (.slice a (s.size + 1) cap) ∧ OwnN w' w.heap.size a (s.size + 1) cap (tab idI (s.size + 1)) ∧ Below w.heap.size w w' := by
  obtain ⟨i0, hi, hz0, hz1, hz2⟩ := info_parts int_info
  obtain ⟨n, hn⟩ : ∃ n, n = s.size + 1 := ⟨_, rfl⟩
  rw [← hn]
  have hn2 : (s.size : Int) + 1 = (n : Int) := by omega
  have hn3 : n ≤ 1048577 := by omega
  have HN := Lib.hid hn2; clear hn2 hn
  go_enter Try.func85, Try.ntmps85
  go_wp2_with (at_make; refine wpList_make_full _ rfl _ _ 72 rfl w.heap.size 2 i0 (.int .i64 0) 1 Try.underlying72 hi hz0 hz1 _ _ _ _ n rfl rfl HN.out HN.out (by rw [hz2]; omega) (by unfold maxLen; omega) (Nat.le_refl _) ?_; intro w1 hown hg)
  have hB1 : Below w.heap.size w w1 := (Below.refl _ _).grown hg (Nat.le_refl _) (fun k hk => by cases hk)
  have hO := OwnN.made hown
  clear hown hg
  go_loopw [11] (fun i wr => ∃ (k : Nat) (M : List Int), k ≤ n ∧ i = .int .i64 k ∧ OwnN wr w.heap.size (some ⟨w.heap.size, 0, none⟩) n n M ∧ UpTo idI k M ∧ Below w.heap.size w wr)
    (fun i _ => n - (intOf i).toNat)
  case atStart => exact ⟨0, _, by omega, rfl, hO, UpTo.zero _ _, hB1⟩
  case round =>
    obtain ⟨k, M, hk, rfl, hown, hup, hb⟩ := hrel
    by_cases hlt : k < n
    · have hc := hown.cell k hlt
      have hf := hown.frozen k
      have hown2 := Lib.hid (hown.set k k)
      have hup2 := Lib.hid (hup.set (by rw [hown.len]; exact hlt))
      clear hown hup hO
      go_wp2
      go_roundw
      case rel => exact ⟨k + 1, M.set k k, by omega, by go_num, hown2.out, hup2.out, hb.setCell (Nat.le_refl _) _⟩
      case measure => simp [intOf]; omega
    · obtain rfl : k = n := by omega
      have HM := Lib.hid (hup.tab hown.len)
      go_wp2
      go_ret
      exact ⟨_, _, rfl, by rw [← HM.out]; exact hown, hb⟩
set_option maxHeartbeats 400000 in
theorem spec_l3First (s : ByteArray) (w : World) (hs : s.size ≤ 1048576) :
    Calls Try.prog 89 #[.string s] w fun e w' => ∃ a cap, e = .returned (.slice a (s.size + 1) cap) ∧ OwnN w' w.heap.size a (s.size + 1) cap (tab idI (s.size + 1)) ∧ Below w.heap.size w w' := by
  obtain ⟨i0, hi, hz0, hz1, hz2⟩ := info_parts int_info
  go_enter Try.func89, Try.ntmps89
  go_wp2
  go_loopw [3, 4] (fun v i wr => ∃ k : Nat, k ≤ s.size + 1 ∧ i = .int .i64 k ∧ wr.ownsRow w.heap.size 2 1 v k ((tab idI k).map (Value.int .i64)) ∧ Below w.heap.size w wr)
    (fun _ i _ => s.size + 1 - (intOf i).toNat)
  case atStart => exact ⟨0, by omega, rfl, World.ownsRow_made w #[] 0 (Nat.le_refl _) (by decide) rfl, (Below.refl _ _).alloc (Nat.le_refl _) _⟩
  case round =>
    obtain ⟨k, hk, rfl, hown, hb⟩ := hrel
    by_cases hlt : k ≤ s.size
    · go_wp2_with (at_builtin; refine wpList_append_own _ rfl _ _ 72 rfl w.heap.size 2 i0 (.int .i64 0) 1 8 Try.underlying72 hi hz0 hz1 hz2 rfl (by decide) _ _ _ rfl (hown.alloc _) ⟨wr.heap.size, 0, none⟩ 1 1 [.int .i64 k] rfl rfl (one_new _ _ _) (int_one _) (by unfold maxLen; omega) (by omega) (by have := hb.size; simp; omega) ?_; intro v' w1 hown' hg _)
      have hown2 := own_snoc (f := idI) hown'
      have hb' := (hb.alloc hb.size (.cells #[.int .i64 k] 2)).grown hg (by have := hb.size; simp; omega) (fun j hj => (hown.lt j hj).1)
      clear hown hb hg hown'
      go_roundw
      case rel => exact ⟨k + 1, by omega, by go_num, hown2, hb'⟩
      case measure => simp [intOf]; omega
    · obtain rfl : k = s.size + 1 := by omega
      obtain ⟨a, cap, rfl, hO⟩ := OwnN.shape hown
      go_wp2
      go_ret
      exact ⟨_, _, rfl, hO, hb⟩
theorem firstColL_len (s : ByteArray) (k : Int) (hs : s.size ≤ 1048576) : (firstColL s k).length ≤ 1048577 := by
  unfold firstColL; split
  · rw [tab_length]; omega
  · simp
end Go.Proofs.Ytpniiaemgobaiab

/-
  Chapter 3: contracts of ColOk, in the program and in its model.
-/
namespace Go.Proofs.Ytpniiaemgobaiab
open Go.RowKit
set_option linter.unusedVariables false
theorem spec_l1In (n lo hi : Int) (w : World) :
    Calls Try.prog 59 #[.int .i64 n, .int .i64 lo, .int .i64 hi] w fun e w' => e = .returned (.bool (inB n lo hi)) ∧ w = w' := by
  by_cases h1 : lo ≤ n
  · by_cases h2 : n ≤ hi
    · have H := Lib.hid (inB_yes ⟨h1, h2⟩)
      go_enter Try.func59, Try.ntmps59
      go_wp2
      go_ret
      exact ⟨by rw [H.out]; rfl, rfl⟩
    · have H := Lib.hid (inB_no (n := n) (lo := lo) (hi := hi) (by omega))
      go_enter Try.func59, Try.ntmps59
      go_wp2
      go_ret
      exact ⟨by rw [H.out]; rfl, rfl⟩
  · have H := Lib.hid (inB_no (n := n) (lo := lo) (hi := hi) (by omega))
    go_enter Try.func59, Try.ntmps59
    go_wp2
    go_ret
    exact ⟨by rw [H.out]; rfl, rfl⟩
theorem okAt_yes {L : List Int} {k : Nat} (h : okAt L k = true) : 0 ≤ intAt L k ∧ aheadAt L k - 1 ≤ intAt L k ∧ intAt L k ≤ aheadAt L k + 1 ∧ (k = 0 → intAt L k = 0) := by
  unfold aheadAt
  by_cases e : k = 0
  · subst e; simp [okAt] at h; simp; omega
  · simp [okAt, e] at h; simp [e]; omega
theorem okAt_no {L : List Int} {k : Nat} (h : okAt L k = false) : intAt L k < 0 ∨ (0 ≤ intAt L k ∧ intAt L k < aheadAt L k - 1) ∨ (0 ≤ intAt L k ∧ aheadAt L k - 1 ≤ intAt L k ∧ aheadAt L k + 1 < intAt L k) ∨ (0 ≤ intAt L k ∧ aheadAt L k - 1 ≤ intAt L k ∧ intAt L k ≤ aheadAt L k + 1 ∧ k = 0 ∧ intAt L k ≠ 0) := by
  unfold aheadAt
  by_cases e : k = 0
  · subst e; simp [okAt] at h; simp; omega
  · simp [okAt, e] at h; simp [e]; omega
theorem aheadAt_bnd {L : List Int} {k : Nat} (h : stepsB L k = true) : 0 ≤ aheadAt L k ∧ aheadAt L k ≤ k := by
  unfold aheadAt
  by_cases e : k = 0
  · subst e; simp
  · have := stepsB_bnd h (k - 1) (by omega); simp [e]; omega
theorem stepsB_succ {L : List Int} {k : Nat} (h : stepsB L k = true) (h2 : okAt L k = true) : stepsB L (k + 1) = true := by simp [stepsB, h, h2]

end Go.Proofs.Ytpniiaemgobaiab

/-
  Chapter 1: the table of folds that the program builds for each call.
-/
namespace Go.Proofs.Ytpniiaemgobaiab
open Go.RowKit
set_option linter.unusedVariables false
theorem fold_zero (w : World) : (zeroValue 99).run Try.prog w = .ok (.agg zeros256) w := by kernel_rfl
theorem fold_info : (Try.prog.info? 99).map (·.size) = some 256 := by kernel_rfl
set_option maxHeartbeats 400000 in
set_option maxRecDepth 100000 in
theorem fold_table_any (w : World) :
    Calls Try.prog 83 #[] w fun e w' => e = .returned (.agg foldTab) ∧ Below w.heap.size w w' := by
  have hz := fold_zero
  go_enter Try.func83, Try.ntmps83
  go_wp2
  go_loopw [4] (fun i wr => ∃ k : Nat, k ≤ 256 ∧ i = .int .i64 k ∧ wr.heap[w.heap.size]? = some (.cells zeros256 99 (0, 0)) ∧ wr.heap[w.heap.size + 1]? = some (.cells (tab1 k) 99 (0, 0)) ∧ Below w.heap.size w wr)
    (fun i _ => 256 - (intOf i).toNat)
  case atStart =>
    refine ⟨0, by omega, rfl, heap_alloc2_old _ _ _, heap_alloc2_new _ _ _, ((Below.refl _ _).alloc (Nat.le_refl _) _).alloc (by simp) _⟩
  case round =>
    obtain ⟨k, hk, rfl, h0, h1, hb⟩ := hrel
    by_cases hlt : k < 256
    · have hc : wr.cell? ⟨w.heap.size + 1, k, none⟩ = some (.int .u8 0) := by
        rw [cell_of_row wr _ k _ _ _ h1, tab1_at k k hlt, if_neg (by omega)]
      have hf := frozen_of_row wr _ k _ _ h1
      go_wp2
      go_roundw
      case rel => exact ⟨k + 1, by omega, by go_num, by rw [heap_setCell_other _ _ _ _ (by simp)]; exact h0, by rw [heap_setCell_same _ _ _ _ _ _ h1]; rfl, hb.setCell (by simp) _⟩
      case measure => simp [intOf]; omega
    · obtain rfl : k = 256 := by omega
      go_wp2
      clear hk hlt
      go_loopw [3] (fun i wr => ∃ k : Nat, k ≤ 26 ∧ i = .int .i32 (65 + k : Nat) ∧ wr.heap[w.heap.size]? = some (.cells zeros256 99 (0, 0)) ∧ wr.heap[w.heap.size + 1]? = some (.cells (tab2 k) 99 (0, 0)) ∧ Below w.heap.size w wr)
        (fun i _ => 91 - (intOf i).toNat)
      case atStart => exact ⟨0, by omega, rfl, h0, h1, hb⟩
      case round =>
        clear h0 h1 hb
        obtain ⟨k, hk, rfl, h0, h1, hb⟩ := hrel
        by_cases hlt : k < 26
        · have hc : wr.cell? ⟨w.heap.size + 1, 65 + k, none⟩ = some (.int .u8 (65 + k : Nat)) := by
            rw [cell_of_row wr _ _ _ _ _ h1, tab2_at k _ (by omega), if_neg (by omega)]
          have hf := frozen_of_row wr _ (65 + k) _ _ h1
          go_wp2
          go_roundw
          case rel => exact ⟨k + 1, by omega, by go_num, by rw [heap_setCell_other _ _ _ _ (by simp)]; exact h0, by rw [heap_setCell_same _ _ _ _ _ _ h1]; rfl, hb.setCell (by simp) _⟩
          case measure => simp [intOf]; omega
        · obtain rfl : k = 26 := by omega
          have h1' : wr.heap[w.heap.size + 1]? = some (.cells foldTab 99 (0, 0)) := h1
          clear h1
          clear hz
          have hs : (Try.prog.info? 99).map (·.size) = some foldTab.size := by rw [foldTab_size]; exact fold_info
          go_wp2_with (first
            | (refine wpList_load_row rfl 99 _ rfl (w.heap.size + 1) rfl 99 foldTab (0, 0) _ h1' Try.underlying99 rfl hs ?_)
            | (refine wpList_store_row rfl 99 _ _ rfl w.heap.size foldTab rfl rfl 99 zeros256 h0 hs (by rw [foldTab_size]; rfl) foldTab_one ?_))
          refine bodyPost_ret (results_cell_row rfl _ _ w.heap.size 99 foldTab (0, 0) _ rfl (setRow_heap _ _ _ _ _ _ h0) Try.underlying99 rfl hs) rfl ⟨rfl, below_setRow hb (Nat.le_refl _) _⟩
end Go.Proofs.Ytpniiaemgobaiab

/-
  Chapter 1: contracts of FoldOf, in the program and in its model.
-/
namespace Go.Proofs.Ytpniiaemgobaiab
open Go.RowKit
set_option linter.unusedVariables false
end Go.Proofs.Ytpniiaemgobaiab

/-
  The element type of a byte slice: its row of the table.
-/
namespace Go.Proofs.Ytpniiaemgobaiab
theorem byte_info : (Try.prog.info? 5).map (fun i => (i.zero, i.size, i.bytes)) = some (some (.int .u8 0), 1, 1) := by kernel_rfl
end Go.Proofs.Ytpniiaemgobaiab

/-
  Chapter 1: contracts of Folded, in the program and in its model.
-/
namespace Go.Proofs.Ytpniiaemgobaiab
open Go.RowKit
set_option linter.unusedVariables false

theorem spec_l1Fold (n : Int) (w : World) (h0 : 0 ≤ n) (h1 : n ≤ 255) :
    Calls Try.prog 94 #[.int .i64 n] w fun e w' => e = .returned (.int .i64 (foldI n)) ∧ w = w' := by
  by_cases h2 : 65 ≤ n
  · by_cases h3 : n ≤ 90
    · have H := Lib.hid (show foldI n = n + 32 by unfold foldI; rw [if_pos ⟨h2, h3⟩])
      go_enter Try.func94, Try.ntmps94
      go_wp2
      go_ret
      exact ⟨by rw [H.out]; rfl, rfl⟩
    · have H := Lib.hid (show foldI n = n by unfold foldI; rw [if_neg (by omega)])
      go_enter Try.func94, Try.ntmps94
      go_wp2
      go_ret
      exact ⟨by rw [H.out]; rfl, rfl⟩
  · have H := Lib.hid (show foldI n = n by unfold foldI; rw [if_neg (by omega)])
    go_enter Try.func94, Try.ntmps94
    go_wp2
    go_ret
    exact ⟨by rw [H.out]; rfl, rfl⟩

set_option maxHeartbeats 400000 in
set_option maxRecDepth 100000 in
theorem impl_folded (s : ByteArray) (w : World) (hs : s.size ≤ 140737488351232) :
    Calls Try.prog 52 #[.string s] w fun e w' => e = .returned (.string (foldS s)) ∧ Below w.heap.size w w' := by
  have hz := fold_zero
  have HI : Hid ((Try.prog.info? 99).map (·.size) = some foldTab.size) := by show _ = _; rw [foldTab_size]; exact fold_info
  have hcv := fun (w : World) => run_bytes_of_string (P := Try.prog) w 9 22 5 s Try.underlying9 Try.underlying22 Try.underlying5
  go_enter Try.func52, Try.ntmps52
  go_wp2_with (first | (go_at_call 83; refine (fold_table_any _).mono ?_; rintro e w1 ⟨rfl, hb⟩) | ((with_reducible show wpList _ _ _ (⟨_, Op.store 99 _ _, _, _, _, _⟩ :: _) _ _); refine wpList_store_new_row rfl 99 _ _ rfl foldTab rfl rfl 99 zeros256 HI.out (by rw [foldTab_size]; rfl) foldTab_one ?_))
  have hge := grownCap_ge (w1.alloc (.cells foldTab 99)) s.size 0 5
  generalize grownCap (w1.alloc (.cells foldTab 99)) s.size 0 5 = cap at hge ⊢
  have HR : Hid ((bytesRow s cap).size = cap) := bytesRow_size s cap hge
  clear hz hcv
  go_loopw [12] (fun i wr => ∃ k : Nat, k ≤ s.size ∧ i = .int .i64 k ∧ wr.heap[w1.heap.size]? = some (.cells foldTab 99 (0, 0)) ∧ wr.heap[w1.heap.size + 1]? = some (.cells (frow s cap k) 5 (cap, cap + 1)) ∧ Below w.heap.size w wr)
    (fun i _ => s.size - (intOf i).toNat)
  case atStart =>
    refine ⟨0, by omega, rfl, heap_alloc2_old _ _ _, ?_, (((hb.alloc hb.size _).alloc (by have := hb.size; simp; omega) _).drew)⟩
    refine (heap_alloc2_new _ _ _).trans ?_
    rw [HR.out]; rfl
  case round =>
    obtain ⟨k, hk, rfl, h0, h1, hbr⟩ := hrel
    have hwb := hb.size
    by_cases hlt : k < s.size
    · obtain ⟨c, hc⟩ : ∃ c : UInt8, s.data.toList.getD k 0 = c := ⟨_, rfl⟩
      have hcl := c.toNat_lt
      have hr := foldI_byte c.toNat (by omega) (by omega)
      have hcell : wr.cell? ⟨w1.heap.size + 1, k, none⟩ = some (.int .u8 c.toNat) := by
        rw [cell_of_row wr _ k _ _ _ h1, frow_at s cap k k hlt, if_neg (by omega), hc]
      have htab : wr.cell? ⟨w1.heap.size, c.toNat, none⟩ = some (.int .u8 (foldI c.toNat)) := by
        rw [cell_of_row wr _ _ _ _ _ h0, foldTab_at _ (by omega)]
      have hf := frozen_of_mark (j := k) h1 (by omega)
      have HC := Lib.hid hc; clear hc
      go_wp2
      go_roundw
      case rel => exact ⟨k + 1, by omega, by go_num, by rw [heap_setCell_other _ _ _ _ (by simp)]; exact h0, by rw [heap_setCell_mark _ _ _ _ _ _ _ h1, ← HC.out]; rfl, hbr.setCell (by show _ ≤ w1.heap.size + 1; omega) _⟩
      case measure => simp [intOf]; omega
    · obtain rfl : k = s.size := by omega
      have hcv := run_convert_bytes_back (P := Try.prog) wr 22 9 5 ⟨w1.heap.size + 1, 0, none⟩ cap (foldL s.data.toList) Try.underlying22 Try.underlying5 Try.underlying9 (fun j hj => by
        have hj' : j < s.size := by simpa [foldL] using hj
        rw [addr_add0, cell_of_row wr _ j _ _ _ h1, frow_at s cap _ j hj', if_pos hj']
        have e : (foldL s.data.toList)[j] = foldB (s.data.toList.getD j 0) := by
          have hl : j < s.data.toList.length := by rw [Array.length_toList]; exact hj'
          rw [List.getD_eq_getElem?_getD, List.getElem?_eq_getElem hl]; simp [foldL]
        rw [e, foldB_toNat])
      have el : (foldL s.data.toList).length = s.size := by simp [foldL]
      rw [el] at hcv
      go_wp2
      go_ret
      exact ⟨rfl, hbr⟩

end Go.Proofs.Ytpniiaemgobaiab

/-
  Chapter 1: contracts of Alike, in the program and in its model.
-/
namespace Go.Proofs.Ytpniiaemgobaiab
open Go.RowKit
set_option linter.unusedVariables false
theorem spec_l1Eq (x y : Int) (f : Bool) (w : World) (h0 : 0 ≤ x) (h1 : x ≤ 255) (h2 : 0 ≤ y) (h3 : y ≤ 255) :
    Calls Try.prog 70 #[.int .u8 x, .int .u8 y, .bool f] w fun e w' => e = .returned (.bool (eqI x y f)) ∧ w = w' := by
  cases f
  · go_enter Try.func70, Try.ntmps70
    go_wp2
    go_ret
    exact ⟨rfl, rfl⟩
  · go_enter Try.func70, Try.ntmps70
    go_wp2_with (go_at_call 94; refine (spec_l1Fold _ _ (by omega) (by omega)).mono ?_; rintro e w' ⟨rfl, rfl⟩)
    go_ret
    exact ⟨rfl, rfl⟩

end Go.Proofs.Ytpniiaemgobaiab

/-
  Chapter 1: contracts of MaskOf, in the program and in its model.
-/
namespace Go.Proofs.Ytpniiaemgobaiab
open Go.RowKit
set_option linter.unusedVariables false

theorem pow_pos (k : Nat) : (0 : Int) ≤ 2 ^ k := by
  have : (0 : Int) < 2 ^ k := Int.pow_pos (by decide)
  omega
theorem pow_small (k : Nat) (h : k ≤ 20) : (2 : Int) ^ k ≤ 1048576 := by
  have h1 : (2 : Nat) ^ k ≤ 2 ^ 20 := Nat.pow_le_pow_right (by decide) h
  have h2 : ((2 ^ k : Nat) : Int) = (2 : Int) ^ k := by simp
  omega
theorem wraps_i64 (n : Int) (h₀ : 0 ≤ n) (h₁ : n < 2 ^ 62) : IntKind.i64.wrap n = n := by rw [IntKind.wrap_i64]; omega
theorem or_pow (m k : Nat) (hk : k ≤ 20) (h : m < 2 ^ k) : bits .or .i64 (m : Int) (2 ^ k) = (m : Int) + 2 ^ k := by
  have h1 : (2 : Nat) ^ k ≤ 2 ^ 20 := Nat.pow_le_pow_right (by decide) hk
  have h2 : ((2 ^ k : Nat) : Int) = (2 : Int) ^ k := by simp
  have := (bits_nat .i64 62 (by decide) wraps_i64 m (2 ^ k) (by omega) (by omega)).2
  rw [h2] at this
  rw [this, Nat.or_comm]
  have h3 := Nat.two_pow_add_eq_or_of_lt h 1
  rw [Nat.mul_one] at h3
  rw [← h3]; simp; omega
theorem byteAt_eq (p : ByteArray) (k : Nat) (h : k < p.size) : byteAt p k = p[k] := by
  unfold byteAt
  have hl : k < p.data.toList.length := by rw [Array.length_toList]; exact h
  rw [List.getD_eq_getElem?_getD, List.getElem?_eq_getElem hl]; rfl
theorem byteAt_foldS (p : ByteArray) (k : Nat) (h : k < p.size) : byteAt (foldS p) k = foldB (byteAt p k) := by
  unfold byteAt foldS foldL
  have hl : k < p.data.toList.length := by rw [Array.length_toList]; exact h
  simp [List.getElem?_eq_getElem hl]
theorem maskG_plain (p : ByteArray) (b : Int) (k : Nat) (h : k < p.size) : maskG p false b k = ((p[k].toNat : Int) == b) := by
  unfold maskG eqI; rw [byteAt_eq p k h]; rfl
theorem maskG_fold (p : ByteArray) (b : Int) (k : Nat) (h : k < (foldS p).size) : maskG p true b k = (((foldS p)[k].toNat : Int) == foldI b) := by
  have h' : k < p.size := by rw [foldS_size] at h; exact h
  rw [← byteAt_eq (foldS p) k h, byteAt_foldS p k h', foldB_toNat]; rfl

end Go.Proofs.Ytpniiaemgobaiab

/-
  Chapter 3: contracts of the next column, in the program and in its model.
-/
namespace Go.Proofs.Ytpniiaemgobaiab
open Go.RowKit
set_option linter.unusedVariables false
theorem min3_eq (x y z : Int) : (if z < (if y < x then y else x) then z else (if y < x then y else x)) = min3 x y z := rfl
/-- which bytes of a text are some byte -/
def eqP (s : ByteArray) (b : Int) (i : Nat) : Bool := ((byteAt s i).toNat : Int) == b
theorem eqP_at (s : ByteArray) (b : Int) (k : Nat) (h : k < s.size) : eqP s b k = ((s[k].toNat : Int) == b) := by
  unfold eqP; rw [byteAt_eq s k h]
theorem nextAt_succ (eq : Nat → Bool) (C : Nat → Int) (head : Int) (k : Nat) : nextAt eq C head (k + 1) = min3 (if eq k then C k else C k + 1) (C (k + 1) + 1) (nextAt eq C head k + 1) := rfl
set_option maxHeartbeats 2000000 in
theorem impl_nextColumn (s : ByteArray) (L : List Int) (a : Option Addr) (n cap : Nat) (head b M : Int) (w : World) (hs : s.size ≤ 1048576) (hns : n = s.size + 1) (hn : L.length = n) (h : Ints w a L) (hB : Bnd (intAt L) s.size M) (hM : M ≤ 1048577) (h0 : 0 ≤ head) (h1 : head ≤ M + 1) :
    Calls Try.prog 86 #[.string s, .slice a n cap, .int .i64 head, .int .u8 b] w fun e w' => ∃ a' cap', e = .returned (.slice a' n cap') ∧ OwnN w' w.heap.size a' n cap' (tab (nextAt (eqP s b) (intAt L) head) n) ∧ Below w.heap.size w w' := by
  obtain ⟨i0, hi, ht0, ht1, ht2⟩ := info_parts int_info
  have hM0 : 0 ≤ M := by have := hB 0 (Nat.zero_le _); omega
  have hN := nextAt_bnd (eq := eqP s b) hB h0 h1
  obtain ⟨F, hF⟩ : ∃ F, F = nextAt (eqP s b) (intAt L) head := ⟨_, rfl⟩
  have hF0 : F 0 = head := by rw [hF]; rfl
  have hFs : ∀ k, F (k + 1) = min3 (if eqP s b k then intAt L k else intAt L k + 1) (intAt L (k + 1) + 1) (F k + 1) := by intro k; rw [hF]; rfl
  rw [← hF] at hN ⊢
  have HF0 := Lib.hid hF0; have HFs := Lib.hid hFs; have HN := Lib.hid hN; have HB := Lib.hid hB
  have HL := Lib.hid hn
  clear hF hF0 hFs hN hB hn
  have hn3 : n ≤ 1048577 := by omega
  have hn1 : 0 < n := by omega
  have HNN := Lib.hid hns; clear hns
  go_enter Try.func86, Try.ntmps86
  go_wp2_with (at_make; refine wpList_make_full _ rfl _ _ 72 rfl w.heap.size 2 i0 (.int .i64 0) 1 Try.underlying72 hi ht0 ht1 _ _ _ _ n rfl rfl rfl rfl (by rw [ht2]; omega) (by unfold maxLen; omega) (Nat.le_refl _) ?_; intro w1 hown hg; have hc := (OwnN.made hown).cell 0 hn1; have hf := (OwnN.made hown).frozen 0)
  have hB1 : Below w.heap.size w w1 := (Below.refl _ _).grown hg (Nat.le_refl _) (fun k hk => by cases hk)
  have hO := OwnN.made hown
  clear hown hg
  have hO2 := Lib.hid (hO.set 0 head)
  have hU2 : UpTo F 1 ((List.replicate n (0 : Int)).set 0 head) := by
    have := (UpTo.zero F (List.replicate n 0)).set (by simp; omega)
    rw [HF0.out] at this; exact this
  have HU2 := Lib.hid hU2
  have hB2 := hB1.setCell (p := ⟨w.heap.size, 0, none⟩) (Nat.le_refl _) (.int .i64 head)
  clear hO hU2
  clear hc hf
  generalize (w1.setCell ⟨w.heap.size, 0, none⟩ (.int .i64 head)) = w2 at *
  go_loopw [20] (fun i wr => ∃ (k : Nat) (N : List Int), k ≤ s.size ∧ i = .int .i64 k ∧ OwnN wr w.heap.size (some ⟨w.heap.size, 0, none⟩) n n N ∧ UpTo F (k + 1) N ∧ Below w.heap.size w wr)
    (fun i _ => s.size - (intOf i).toNat)
  case atStart => exact ⟨0, _, by omega, rfl, hO2.out, HU2.out, hB2⟩
  case round =>
    obtain ⟨k, N, hk, rfl, hown, hup, hb⟩ := hrel
    have hkn : k + 1 ≤ n := by have := HNN.out; omega
    by_cases hlt : k < s.size
    · have hkn2 : k + 1 < n := by have := HNN.out; omega
      obtain ⟨b0, off, rfl, hp⟩ := (h.kept hb).at k (by rw [HL.out, HNN.out]; omega)
      have c0 := hp k (by rw [HL.out, HNN.out]; omega)
      have c1 := hp (k + 1) (by rw [HL.out, HNN.out]; omega)
      have hb0 := block_lt_of_cell c0
      have d0 := hown.cell k (by omega)
      rw [hup k (by omega)] at d0
      have d1 := hown.cell (k + 1) hkn2
      have hf := hown.frozen (k + 1)
      have hb1 := HB.out k (by omega)
      have hb2 := HB.out (k + 1) (by omega)
      have hb3 := HN.out k (by omega)
      obtain ⟨hx0, hx1⟩ := hb1; obtain ⟨hy0, hy1⟩ := hb2; obtain ⟨hz0, hz1⟩ := hb3
      have hc := s[k].toNat_lt
      have he := eqP_at s b k hlt
      have HS := Lib.hid (HFs.out k)
      have hown2 := Lib.hid (hown.set (k + 1) (F (k + 1)))
      have hup2 := Lib.hid (hup.set (by rw [hown.len]; exact hkn2))
      clear hown hup h hp hO2 HU2
      have kw : IntKind.i64.wrap ((k : Int) + 1) = (k : Int) + 1 := by rw [IntKind.wrap_i64]; omega
      have k0 : (0 : Int) ≤ (k : Int) + 1 := by omega
      have k1 : (k : Int) + 1 < (n : Int) := by omega
      have kt : ((k : Int) + 1).toNat = k + 1 := by omega
      have kl : (k : Int) < (n : Int) := by omega
      generalize intAt L k = x at *
      generalize intAt L (k + 1) = y at *
      generalize F k = q at *
      cases hq : eqP s b k
      · have ht : ((s[k].toNat : Int) == b) = false := by rw [← he]; exact hq
        have ht2 : ((s[k].toNat : Int) != b) = true := by simpa using ht
        have HQ := Lib.hid hq
        clear he hq
        go_wp2_with fail
        go_region
        clear kw kt
        go_wp2
        go_roundw
        case rel =>
          have e : F (k + 1) = (if q + 1 < if y < x then y + 1 else x + 1 then q + 1 else if y < x then y + 1 else x + 1) := by
            rw [HS.out, HQ.out]; unfold min3; simp
          refine ⟨k + 1, N.set (k + 1) (F (k + 1)), by omega, by go_num, ?_, hup2.out, (hb.setCell (Nat.le_refl _) _).drew⟩
          rw [← e]; exact hown2.out
        case measure => simp [intOf]; omega
      · have ht : ((s[k].toNat : Int) == b) = true := by rw [← he]; exact hq
        have ht2 : ((s[k].toNat : Int) != b) = false := by simpa using ht
        have HQ := Lib.hid hq
        clear he hq
        go_wp2_with fail
        go_region
        clear kw kt
        go_wp2
        go_roundw
        case rel =>
          have e : F (k + 1) = (if q + 1 < if y + 1 < x then y + 1 else x then q + 1 else if y + 1 < x then y + 1 else x) := by
            rw [HS.out, HQ.out]; unfold min3; simp
          refine ⟨k + 1, N.set (k + 1) (F (k + 1)), by omega, by go_num, ?_, hup2.out, (hb.setCell (Nat.le_refl _) _).drew⟩
          rw [← e]; exact hown2.out
        case measure => simp [intOf]; omega
    · obtain rfl : k = s.size := by omega
      have HM := Lib.hid (UpTo.tab (n := n) (by have := HNN.out; rw [this]; exact hup) hown.len)
      go_wp2
      go_ret
      exact ⟨_, _, rfl, by rw [← HM.out]; exact hown, hb⟩
end Go.Proofs.Ytpniiaemgobaiab

/-
  Chapter 3: the columns of a text, yielded one by one: the iterator's contract.
-/
namespace Go.Proofs.Ytpniiaemgobaiab
open Go Go.RowKit Go.Shelf
set_option linter.unusedVariables false
attribute [local go_sem] Oper.semAt_some
/-- the column behind k bytes of r -/
def colAt (s r : ByteArray) (rise : Int) : Nat → Nat → Int
  | 0 => idI
  | k + 1 => nextAt (eqP s ((byteAt r k).toNat : Int)) (colAt s r rise k) (colAt s r rise k 0 + rise)
theorem colAt_bnd (s r : ByteArray) {rise : Int} (h0 : 0 ≤ rise) (h1 : rise ≤ 1) (k : Nat) : Bnd (colAt s r rise k) s.size (s.size + k) := by
  induction k with
  | zero => intro i hi; simp only [colAt, idI]; omega
  | succ k ih =>
    have := ih 0 (by omega)
    have h := nextAt_bnd (eq := eqP s ((byteAt r k).toNat : Int)) ih (head := colAt s r rise k 0 + rise) (by omega) (by omega)
    intro i hi
    have := h i hi
    simp only [colAt]
    omega
/-- what is handed: the number of bytes that are read, and the column -/
def encC (n : Nat) (x : Nat × Nat × Nat) : Array Value := #[.int .i64 x.1, .slice (some ⟨x.2.1, 0, none⟩) (n + 1) x.2.2]
def HandC (s r : ByteArray) (rise : Int) (k : Nat) (x : Nat × Nat × Nat) (W : World) : Prop := x.1 = k ∧ ∀ i, i < s.size + 1 → W.cell? ⟨x.2.1, i, none⟩ = some (.int .i64 (colAt s r rise k i))
theorem handC_put (s r : ByteArray) (rise : Int) (k : Nat) (x : Nat × Nat × Nat) (W : World) (l : Nat) (o o' : Obj) (h : HandC s r rise k x W) (hl : W.heap[l]? = some o) (ho : o.isCells = false) : HandC s r rise k x (W.putObj l o') := by
  exact ⟨h.1, fun i hi => cell_kept (h.2 i hi) (grownBy_putObj' W l o') (fun r e => by cases e; exact ⟨o, hl, ho⟩)⟩
abbrev boxV (b : Nat) : Value := .pointer (some ⟨b, 0, none⟩)
set_option maxHeartbeats 4000000 in
/-- THE ITERATOR: it hands out each column in turn. -/
theorem columns_iter (s r : ByteArray) (rise : Int) (bs br bi : Nat) (n : Nat) (T0 : Nat → Prop) (w : World) (hs : s.size ≤ 200) (hr : r.size ≤ 200) (h0 : 0 ≤ rise) (h1 : rise ≤ 1)
    (cs : w.cell? ⟨bs, 0, none⟩ = some (.string s)) (cr : w.cell? ⟨br, 0, none⟩ = some (.string r)) (ci : w.cell? ⟨bi, 0, none⟩ = some (.int .i64 rise)) (ns : ¬ T0 bs) (nr : ¬ T0 br) (ni : ¬ T0 bi) :
    Iter Fence.wide n Try.prog 84 #[boxV bs, boxV br, boxV bi] (encC s.size) (HandC s r rise) (r.size + 1) T0 w := by
  intro l W K hW hK hY ⟨T, hk0, hT⟩
  have bs1 := block_lt_of_cell cs; have br1 := block_lt_of_cell cr; have bi1 := block_lt_of_cell ci
  simp only at bs1 br1 bi1
  have hWs := hW.size
  have ws : ∀ {W1 : World}, On (fun b => ¬ T b) W W1 → True := fun _ => trivial
  have cs := (hW.cell (p := ⟨bs, 0, none⟩) trivial bs1).trans cs
  have cr := (hW.cell (p := ⟨br, 0, none⟩) trivial br1).trans cr
  have ci := (hW.cell (p := ⟨bi, 0, none⟩) trivial bi1).trans ci
  clear hW
  refine callsIn_of_wp Try.func84 rfl trivial ?_ rfl
  simp only [Try.ntmps84, List.size_toArray, List.length_cons, List.length_nil, Nat.reduceAdd, Nat.reduceSub, Array.replicate_succ, Array.replicate_zero, List.push_toArray, List.append_toArray, List.nil_append, List.cons_append]
  gi_wp2
  refine ⟨trivial, fun h => (Bool.false_ne_true h).elim, ?_⟩
  refine (callsIn_wide.2 (impl_firstColumn s _ (by omega))).mono ?_
  rintro e w1 ⟨a, cap, rfl, hO, hb1⟩
  obtain ⟨g, rfl, hg1, hg2⟩ := hO.head 0 (by omega)
  have hk1 : K 0 T w1 := hK _ _ _ _ hk0 (On.of_below hb1 (fun b _ hb => hb))
  have cs1 := (hb1.cell (p := ⟨bs, 0, none⟩) (by show bs < _; omega)).trans cs
  have cr1 := (hb1.cell (p := ⟨br, 0, none⟩) (by show br < _; omega)).trans cr
  have ci1 := (hb1.cell (p := ⟨bi, 0, none⟩) (by show bi < _; omega)).trans ci
  have hs1 := hb1.size
  have hc1 : ∀ i, i < s.size + 1 → w1.cell? ⟨g, i, none⟩ = some (.int .i64 (colAt s r rise 0 i)) := fun i hi => by
    rw [hO.cell i hi, intAt_tab _ _ _ hi]; rfl
  have HC1 := Lib.hid hc1
  have HT := Lib.hid hT
  clear cs cr ci hO hb1 hk0 hc1 hT
  gi_wp2
  gi_loopw [5, 11] (fun v i wr => ∃ (k g cap : Nat) (T : Nat → Prop), k ≤ r.size ∧ i = .int .i64 k ∧ v = .slice (some ⟨g, 0, none⟩) (s.size + 1) cap ∧ K k T wr ∧ (∀ b, T b → (T0 b ∨ w.heap.size ≤ b) ∧ b < wr.heap.size) ∧ ¬ T g ∧ g < wr.heap.size ∧ (∀ i, i < s.size + 1 → wr.cell? ⟨g, i, none⟩ = some (.int .i64 (colAt s r rise k i))) ∧ wr.cell? ⟨bs, 0, none⟩ = some (.string s) ∧ wr.cell? ⟨br, 0, none⟩ = some (.string r) ∧ wr.cell? ⟨bi, 0, none⟩ = some (.int .i64 rise) ∧ w.heap.size ≤ wr.heap.size)
    (fun _ i _ => r.size - (intOf i).toNat)
  case atStart => exact ⟨0, g, cap, T, by omega, rfl, rfl, hk1, fun b t => ⟨(HT.out b t).1, by have := (HT.out b t).2; omega⟩, fun t => by have := (HT.out g t).2; omega, hg2, HC1.out, cs1, cr1, ci1, by omega⟩
  case round =>
    obtain ⟨k, g, cap, T, hk, rfl, rfl, hKk, hT, hTg, hgl, hcol, cs, cr, ci, hsz⟩ := hrel
    have nTs : ¬ T bs := fun t => (hT bs t).1.elim ns (by omega)
    have nTr : ¬ T br := fun t => (hT br t).1.elim nr (by omega)
    have nTi : ¬ T bi := fun t => (hT bi t).1.elim ni (by omega)
    obtain ⟨fn, tmps, assign, body, hy, hR⟩ := hY k T (k, g, cap) wr (by omega) hKk ⟨rfl, hcol⟩
    dsimp only [encC] at hy
    by_cases hlt : k < r.size
    · have HTT := Lib.hid hT
      have HCO := Lib.hid hcol
      clear hT hcol cs1 cr1 ci1 HC1 HT hk1
      gi_wp2
      refine ⟨fun h => (Bool.false_ne_true h).elim, hR.mono ?_⟩
      rintro e W3 ⟨rfl, T', hK3, hOn, hT3⟩
      have cs3 := (hOn.cell (p := ⟨bs, 0, none⟩) nTs (by show bs < _; omega)).trans cs
      have cr3 := (hOn.cell (p := ⟨br, 0, none⟩) nTr (by show br < _; omega)).trans cr
      have ci3 := (hOn.cell (p := ⟨bi, 0, none⟩) nTi (by show bi < _; omega)).trans ci
      have hc3 : ∀ i, i < s.size + 1 → W3.cell? ⟨g, i, none⟩ = some (.int .i64 (colAt s r rise k i)) := fun i hi => (hOn.cell (p := ⟨g, i, none⟩) hTg hgl).trans (HCO.out i hi)
      have hI3 : Ints W3 (some ⟨g, 0, none⟩) (tab (colAt s r rise k) (s.size + 1)) := .inr ⟨g, 0, rfl, fun i hi => by rw [tab_length] at hi; rw [Nat.zero_add, intAt_tab _ _ _ hi]; exact hc3 i hi⟩
      have c0 := hc3 0 (by omega)
      have hs3 := hOn.size
      have HC3 := Lib.hid hc3
      have HT3 := Lib.hid hT3
      have hB := Lib.hid (colAt_bnd s r h0 h1 k)
      obtain ⟨hz0, hz1⟩ := hB.out 0 (by omega)
      have hrk := byteAt_eq r k hlt
      have HRK := Lib.hid hrk
      clear hc3 hT3 hOn hR hy cs cr ci hrk
      have hmx : Try.prog.follows .mixedOrders = true := by kernel_rfl
      have hw : IntKind.i64.wrap (colAt s r rise k 0 + rise) = colAt s r rise k 0 + rise := by rw [IntKind.wrap_i64]; omega
      gi_wp2
      gi_region_with_o (refine ⟨trivial, fun h => (Bool.false_ne_true h).elim, ?_⟩; gi_at_call 86; refine (callsIn_wide.2 (impl_nextColumn s (tab (colAt s r rise k) (s.size + 1)) (some ⟨g, 0, none⟩) (s.size + 1) cap _ _ (s.size + k) _ (by omega) rfl (tab_length _ _) (hI3.kept (by exact (Below.refl _ _).drew)) (fun i hi => by rw [intAt_tab _ _ _ (by omega)]; exact hB.out i hi) (by omega) (by omega) (by omega))).mono ?_; rintro e w4 ⟨a4, cap4, rfl, hO4, hb4⟩)
      all_goals
        obtain ⟨g4, rfl, hg4, hg5⟩ := hO4.head 0 (by omega)
        clear hw
        have hb5 : Below W3.heap.size W3 w4 := below_undrew hb4
        simp only [heap_drew] at hg4
        gi_wp2
        go_roundw
        case rel =>
          refine ⟨k + 1, g4, cap4, T', by omega, by go_num, rfl, hK _ _ _ _ hK3 (On.of_below hb5 (fun b _ hb => hb)), fun b t => ⟨(HT3.out b t).1.elim (HTT.out b · |>.1) (fun h => .inr (by omega)), by have := (HT3.out b t).2; have := hb5.size; omega⟩, fun t => by have := (HT3.out _ t).2; omega, hg5, fun i hi => ?_, (hb5.cell (p := ⟨bs, 0, none⟩) (by show bs < _; omega)).trans cs3, (hb5.cell (p := ⟨br, 0, none⟩) (by show br < _; omega)).trans cr3, (hb5.cell (p := ⟨bi, 0, none⟩) (by show bi < _; omega)).trans ci3, by have := hb5.size; omega⟩
          rw [hO4.cell i hi, intAt_tab _ _ _ hi, ← HRK.out]
          exact congrArg (fun x => some (Value.int .i64 x)) (nextAt_congr (n := s.size) (fun _ _ => rfl) (fun j hj => intAt_tab _ _ _ (by omega)) i (by omega))
        case measure => simp [intOf]; omega
    · obtain rfl : k = r.size := by omega
      have HTT := Lib.hid hT
      clear hT hcol cs1 cr1 ci1 HC1 HT hk1
      gi_wp2
      refine ⟨fun h => (Bool.false_ne_true h).elim, hR.mono ?_⟩
      rintro e W3 ⟨rfl, T', hK3, hOn, hT3⟩
      gi_wp2
      go_end0
      exact ⟨⟨_, rfl⟩, _, hK3⟩
end Go.Proofs.Ytpniiaemgobaiab

/-
  Chapter 3: Distance, in the program: a range over the columns.
-/
namespace Go.Proofs.Ytpniiaemgobaiab
open Go Go.RowKit Go.Shelf
set_option linter.unusedVariables false
attribute [local go_sem] Oper.semAt_some
theorem impl_columns (s r : ByteArray) (rise : Int) (w : World) :
    Calls Try.prog 53 #[.string s, .string r, .int .i64 rise] w fun e w' => e = .returned (.func (.func 84) #[] #[boxV w.heap.size, boxV (w.heap.size + 1), boxV (w.heap.size + 2)]) ∧ w' = ((w.alloc (.cells #[.string s] 9)).alloc (.cells #[.string r] 9)).alloc (.cells #[.int .i64 rise] 2) := by
  go_enter Try.func53, Try.ntmps53
  go_wp2
  go_ret
  exact ⟨rfl, rfl⟩
def foldIf (f : Bool) (s : ByteArray) : ByteArray := if f then foldS s else s
theorem foldIf_size (f : Bool) (s : ByteArray) : (foldIf f s).size = s.size := by
  cases f
  · rfl
  · exact foldS_size s
def distI (s r : ByteArray) (f : Bool) : Int := if s.size ≤ 200 ∧ r.size ≤ 200 then colAt (foldIf f s) (foldIf f r) 1 r.size s.size else -1
theorem distI_yes {s r : ByteArray} {f : Bool} (h : s.size ≤ 200 ∧ r.size ≤ 200) : distI s r f = colAt (foldIf f s) (foldIf f r) 1 r.size s.size := if_pos h
theorem distI_no {s r : ByteArray} {f : Bool} (h : ¬ (s.size ≤ 200 ∧ r.size ≤ 200)) : distI s r f = -1 := if_neg h
/-- what the variable least holds when k columns have come -/
def leastF (s r : ByteArray) : Nat → Int
  | 0 => 0
  | k + 1 => colAt s r 1 k s.size
set_option maxHeartbeats 4000000 in
theorem impl_distance (s r : ByteArray) (f : Bool) (w : World) (hs : s.size ≤ 1048576) (hr : r.size ≤ 1048576) :
    Calls Try.prog 17 #[.string s, .string r, .bool f] w fun e w' => e = .returned (.int .i64 (distI s r f)) ∧ Below w.heap.size w w' := by
  refine (callsIn_wide (n := 6)).1 ?_
  refine callsIn_of_wp_marks Try.func17 rfl trivial ?_ rfl
  simp only [Try.ntmps17, List.size_toArray, List.length_cons, List.length_nil, Nat.reduceAdd, Nat.reduceSub, Array.replicate_succ, Array.replicate_zero, List.push_toArray, List.append_toArray, List.nil_append, List.cons_append]
  by_cases h1 : s.size ≤ 200
  · by_cases h2 : r.size ≤ 200
    · have HR := Lib.hid (distI_yes (f := f) ⟨h1, h2⟩)
      have hd1 : decide (200 < (s.size : Int)) = false := by simp; omega
      have hd2 : decide (200 < (r.size : Int)) = false := by simp; omega
      cases f
      · have hSs : s.size ≤ 200 := h1
        have hRs : r.size ≤ 200 := h2
        gi_wp2
        have v0 : ((w.alloc (.cells #[.string s] 9)).alloc (.cells #[.int .i64 0] 2)).cell? ⟨w.heap.size, 0, none⟩ = some (.string s) := by go_simp
        have v1 : ((w.alloc (.cells #[.string s] 9)).alloc (.cells #[.int .i64 0] 2)).cell? ⟨w.heap.size + 1, 0, none⟩ = some (.int .i64 0) := by go_simp
        have vf : ((w.alloc (.cells #[.string s] 9)).alloc (.cells #[.int .i64 0] 2)).frozen? ⟨w.heap.size + 1, 0, none⟩ = false := by go_simp
        have hVB : Below w.heap.size w ((w.alloc (.cells #[.string s] 9)).alloc (.cells #[.int .i64 0] 2)) := (by repeat (first | exact Below.refl _ _ | assumption | (refine Below.drew ?_) | (refine below_drewN ?_ _) | (refine Below.alloc ?_ (by first | omega | (simp; done) | (simp; omega)) _) | (refine Below.setCell ?_ (by first | omega | (simp; done) | (simp; omega)) _)))
        have hV : ((w.alloc (.cells #[.string s] 9)).alloc (.cells #[.int .i64 0] 2)).heap.size = w.heap.size + 1 + 1 := by simp
        generalize ((w.alloc (.cells #[.string s] 9)).alloc (.cells #[.int .i64 0] 2)) = V at *
        have hbL : w.heap.size < w.heap.size + 1 := Nat.lt_succ_self _
        generalize w.heap.size + 1 = bL at *
        have hVl : bL < V.heap.size := by omega
        clear hV
        (first | refine ⟨trivial, fun h => (Bool.false_ne_true h).elim, ?_⟩ | refine ⟨trivial, ?_⟩)
        refine (callsIn_wide.2 (impl_columns s r 1 V)).mono ?_
        rintro e w1 ⟨rfl, rfl⟩
        obtain ⟨e1, e2, e3⟩ := heap_alloc3 V (.cells #[.string s] 9) (.cells #[.string r] 9) (.cells #[.int .i64 1] 2)
        have hBV : Below V.heap.size V (((V.alloc (.cells #[.string s] 9)).alloc (.cells #[.string r] 9)).alloc (.cells #[.int .i64 1] 2)) := (((Below.refl _ V).alloc (Nat.le_refl _) _).alloc (by simp) _).alloc (by simp; omega) _
        have hsz : (((V.alloc (.cells #[.string s] 9)).alloc (.cells #[.string r] 9)).alloc (.cells #[.int .i64 1] 2)).heap.size = V.heap.size + 3 := by simp
        have k2 : (((V.alloc (.cells #[.string s] 9)).alloc (.cells #[.string r] 9)).alloc (.cells #[.int .i64 1] 2)).cell? ⟨V.heap.size, 0, none⟩ = some (.string s) := by rw [cell_of_row _ _ 0 _ _ _ e1]; rfl
        have k3 : (((V.alloc (.cells #[.string s] 9)).alloc (.cells #[.string r] 9)).alloc (.cells #[.int .i64 1] 2)).cell? ⟨V.heap.size + 1, 0, none⟩ = some (.string r) := by rw [cell_of_row _ _ 0 _ _ _ e2]; rfl
        have k4 : (((V.alloc (.cells #[.string s] 9)).alloc (.cells #[.string r] 9)).alloc (.cells #[.int .i64 1] 2)).cell? ⟨V.heap.size + 2, 0, none⟩ = some (.int .i64 1) := by rw [cell_of_row _ _ 0 _ _ _ e3]; rfl
        generalize (((V.alloc (.cells #[.string s] 9)).alloc (.cells #[.string r] 9)).alloc (.cells #[.int .i64 1] 2)) = WR at *
        have k0 := (hBV.cell (p := ⟨w.heap.size, 0, none⟩) (by show w.heap.size < _; omega)).trans v0
        have k1 := (hBV.cell (p := ⟨bL, 0, none⟩) (by show bL < _; omega)).trans v1
        have g1 := (hBV.frozen (p := ⟨bL, 0, none⟩) (by show bL < _; omega)).trans vf
        have hBW := hVB.trans (hBV.mono hVB.size)
        have HSZ := Lib.hid hsz
        have hlV : V.heap.size < WR.heap.size := by omega
        clear hsz e1 e2 e3 v0 v1 vf
        gi_wp2
        refine range_law rfl (by omega) (gf := 84) (lb := #[boxV V.heap.size, boxV (V.heap.size + 1), boxV (V.heap.size + 2)]) rfl trivial (enters_of Try.func84 (by kernel_rfl) rfl)
          (columns_iter s r 1 V.heap.size (V.heap.size + 1) (V.heap.size + 2) _ (fun b => b < V.heap.size) WR hSs hRs (by decide) (by decide) k2 k3 k4 (by omega) (by omega) (by omega)) (fun x => rfl) (fun k x W l o o' h hl ho => handC_put _ _ _ k x W l o o' h hl ho)
          (fun k T W => (∀ b, T b ↔ b < V.heap.size) ∧ W.cell? ⟨bL, 0, none⟩ = some (.int .i64 (leastF s r k)) ∧ W.frozen? ⟨bL, 0, none⟩ = false ∧ W.cell? ⟨w.heap.size, 0, none⟩ = some (.string s) ∧ Below w.heap.size w W ∧ V.heap.size ≤ W.heap.size)
          ?hJ (fun b h => by omega) ⟨fun b => Iff.rfl, k1, g1, k0, hBW, by omega⟩
          (fun x => { tmps := #[.string s, .string r, .bool false, boxV w.heap.size, undef, undef, .int .i64 0, boxV bL, undef, .slice (some ⟨x.2.1, 0, none⟩) (s.size + 1) x.2.2, .string s, .int .i64 s.size, .bool false, .bool false, .string r, .int .i64 r.size, .bool false, .bool false, .bool false, undef, undef, undef, undef, .string s, .string r, .func (.func 84) #[] #[boxV V.heap.size, boxV (V.heap.size + 1), boxV (V.heap.size + 2)], .int .i64 x.1, .slice (some ⟨x.2.1, 0, none⟩) (s.size + 1) x.2.2, undef, undef, undef, undef, undef, undef], defers := [] }) ?assign ?body ?done
        case hJ =>
          rintro k T A B ⟨hT, c1, f1, c0, hb, hl⟩ hAB
          refine ⟨hT, (hAB.cell (p := ⟨bL, 0, none⟩) ((hT _).2 (by show bL < _; omega)) (by show bL < _; omega)).trans c1, (hAB.frozen (p := ⟨bL, 0, none⟩) ((hT _).2 (by show bL < _; omega)) (by show bL < _; omega)).trans f1, (hAB.cell (p := ⟨w.heap.size, 0, none⟩) ((hT _).2 (by show w.heap.size < _; omega)) (by show w.heap.size < _; omega)).trans c0, hb.trans (hAB.below hb.size fun b h => (hT b).2 (by omega)), Nat.le_trans hl hAB.size⟩
        case assign =>
          intro l x W K hK
          unfold encC
          gi_wp2
          exact hK
        case body =>
          rintro l k T ⟨x1, g, cap⟩ W hk ⟨hT, c1, f1, c0, hb, hl⟩ ⟨hx1, hcol⟩
          have hc := hcol (s).size (by omega)
          have hn1 : (((s).size : Nat) : Int) < (((s).size : Nat) : Int) + 1 := by omega
          have hbT : ¬ ¬ T bL := fun h => h ((hT bL).2 (by omega))
          simp only at hc
          clear hcol hx1
          gi_wp2
          refine ⟨T, ⟨hT, World.cell?_setCell_same' _ _ _ (by rw [c1]; rfl), by rw [World.frozen?_setCell]; exact f1, ?_, hb.setCell (p := ⟨bL, 0, none⟩) (by show _ ≤ bL; omega) _, ?_⟩, (On.refl _ W).setCell (p := ⟨bL, 0, none⟩) hbT _, fun b hb2 => ⟨.inl hb2, ?_⟩⟩
          · rw [← c0]
            exact World.cell?_of_block (Below.heap_setCell _ _ _ _ (by show w.heap.size ≠ bL; omega))
          · simp [World.setCell]; omega
          · have := (hT b).1 hb2; simp [World.setCell]; omega
        case done =>
          rintro D T W hD hTD ⟨hT, c1, f1, c0, hb, hl⟩ hK
          gi_wp2
          refine ⟨by simp, .inl ⟨_, _, rfl, run_takeDeferred hK, ?_⟩⟩
          exact ⟨_, results_tmp rfl _ _ _, by rw [HR.out]; rfl, hb.trans (belowK_b (w := w) (Nat.le_refl _) W D _ _ (by omega) hK rfl rfl)⟩
      · have hSs : (foldS s).size ≤ 200 := by rw [foldS_size]; exact h1
        have hRs : (foldS r).size ≤ 200 := by rw [foldS_size]; exact h2
        have HFS := Lib.hid (foldS_size s)
        have HFR := Lib.hid (foldS_size r)
        gi_wp2
        (first | refine ⟨trivial, fun h => (Bool.false_ne_true h).elim, ?_⟩ | refine ⟨trivial, ?_⟩)
        refine (callsIn_wide.2 (impl_folded s _ (by omega))).mono ?_
        rintro e w2 ⟨rfl, hb2⟩
        have c2 : w2.cell? ⟨w.heap.size, 0, none⟩ = some (.string s) := by
          rw [hb2.cell (p := ⟨w.heap.size, 0, none⟩) (by simp)]; go_simp
        have f2 : w2.frozen? ⟨w.heap.size, 0, none⟩ = false := by
          rw [hb2.frozen (p := ⟨w.heap.size, 0, none⟩) (by simp)]; go_simp
        have hB2 : Below w.heap.size w w2 := below_step (by repeat (first | exact Below.refl _ _ | assumption | (refine Below.drew ?_) | (refine below_drewN ?_ _) | (refine Below.alloc ?_ (by first | omega | (simp; done) | (simp; omega)) _) | (refine Below.setCell ?_ (by first | omega | (simp; done) | (simp; omega)) _))) hb2
        have hs2 := hb2.size
        simp only [World.size_alloc] at hs2
        clear hb2
        gi_wp2
        (first | refine ⟨trivial, fun h => (Bool.false_ne_true h).elim, ?_⟩ | refine ⟨trivial, ?_⟩)
        refine (callsIn_wide.2 (impl_folded r _ (by omega))).mono ?_
        rintro e w3 ⟨rfl, hb3⟩
        have c3 := (hb3.cell (p := ⟨w.heap.size, 0, none⟩) (by show w.heap.size < _; omega)).trans c2
        have f3 := (hb3.frozen (p := ⟨w.heap.size, 0, none⟩) (by show w.heap.size < _; omega)).trans f2
        have hB3 := below_step hB2 hb3
        have hs3 := hb3.size
        clear c2 f2 hB2 hb3
        have hsz3 : w.heap.size < w3.heap.size := by omega
        gi_wp2
        have v0 : ((w3.setCell ⟨w.heap.size, 0, none⟩ (.string (foldS s))).alloc (.cells #[.int .i64 0] 2)).cell? ⟨w.heap.size, 0, none⟩ = some (.string (foldS s)) := by
          rw [World.cell?_of_block (Below.heap_alloc _ _ _ (by simp [World.setCell]; omega))]
          exact World.cell?_setCell_same' _ _ _ (by rw [c3]; rfl)
        have v1 : ((w3.setCell ⟨w.heap.size, 0, none⟩ (.string (foldS s))).alloc (.cells #[.int .i64 0] 2)).cell? ⟨w3.heap.size, 0, none⟩ = some (.int .i64 0) := by go_simp
        have vf : ((w3.setCell ⟨w.heap.size, 0, none⟩ (.string (foldS s))).alloc (.cells #[.int .i64 0] 2)).frozen? ⟨w3.heap.size, 0, none⟩ = false := by go_simp
        have hVB : Below w.heap.size w ((w3.setCell ⟨w.heap.size, 0, none⟩ (.string (foldS s))).alloc (.cells #[.int .i64 0] 2)) := (hB3.setCell (p := ⟨w.heap.size, 0, none⟩) (Nat.le_refl _) _).alloc (by simp [World.setCell]; omega) _
        have hV : ((w3.setCell ⟨w.heap.size, 0, none⟩ (.string (foldS s))).alloc (.cells #[.int .i64 0] 2)).heap.size = w3.heap.size + 1 := by simp [World.setCell]
        generalize ((w3.setCell ⟨w.heap.size, 0, none⟩ (.string (foldS s))).alloc (.cells #[.int .i64 0] 2)) = V at *
        have hbL : w.heap.size < w3.heap.size := by omega
        generalize w3.heap.size = bL at *
        have hVl : bL < V.heap.size := by omega
        clear hV c3 f3
        (first | refine ⟨trivial, fun h => (Bool.false_ne_true h).elim, ?_⟩ | refine ⟨trivial, ?_⟩)
        refine (callsIn_wide.2 (impl_columns (foldS s) (foldS r) 1 V)).mono ?_
        rintro e w1 ⟨rfl, rfl⟩
        obtain ⟨e1, e2, e3⟩ := heap_alloc3 V (.cells #[.string (foldS s)] 9) (.cells #[.string (foldS r)] 9) (.cells #[.int .i64 1] 2)
        have hBV : Below V.heap.size V (((V.alloc (.cells #[.string (foldS s)] 9)).alloc (.cells #[.string (foldS r)] 9)).alloc (.cells #[.int .i64 1] 2)) := (((Below.refl _ V).alloc (Nat.le_refl _) _).alloc (by simp) _).alloc (by simp; omega) _
        have hsz : (((V.alloc (.cells #[.string (foldS s)] 9)).alloc (.cells #[.string (foldS r)] 9)).alloc (.cells #[.int .i64 1] 2)).heap.size = V.heap.size + 3 := by simp
        have k2 : (((V.alloc (.cells #[.string (foldS s)] 9)).alloc (.cells #[.string (foldS r)] 9)).alloc (.cells #[.int .i64 1] 2)).cell? ⟨V.heap.size, 0, none⟩ = some (.string (foldS s)) := by rw [cell_of_row _ _ 0 _ _ _ e1]; rfl
        have k3 : (((V.alloc (.cells #[.string (foldS s)] 9)).alloc (.cells #[.string (foldS r)] 9)).alloc (.cells #[.int .i64 1] 2)).cell? ⟨V.heap.size + 1, 0, none⟩ = some (.string (foldS r)) := by rw [cell_of_row _ _ 0 _ _ _ e2]; rfl
        have k4 : (((V.alloc (.cells #[.string (foldS s)] 9)).alloc (.cells #[.string (foldS r)] 9)).alloc (.cells #[.int .i64 1] 2)).cell? ⟨V.heap.size + 2, 0, none⟩ = some (.int .i64 1) := by rw [cell_of_row _ _ 0 _ _ _ e3]; rfl
        generalize (((V.alloc (.cells #[.string (foldS s)] 9)).alloc (.cells #[.string (foldS r)] 9)).alloc (.cells #[.int .i64 1] 2)) = WR at *
        have k0 := (hBV.cell (p := ⟨w.heap.size, 0, none⟩) (by show w.heap.size < _; omega)).trans v0
        have k1 := (hBV.cell (p := ⟨bL, 0, none⟩) (by show bL < _; omega)).trans v1
        have g1 := (hBV.frozen (p := ⟨bL, 0, none⟩) (by show bL < _; omega)).trans vf
        have hBW := hVB.trans (hBV.mono hVB.size)
        have HSZ := Lib.hid hsz
        have hlV : V.heap.size < WR.heap.size := by omega
        clear hsz e1 e2 e3 v0 v1 vf
        gi_wp2
        refine range_law rfl (by omega) (gf := 84) (lb := #[boxV V.heap.size, boxV (V.heap.size + 1), boxV (V.heap.size + 2)]) rfl trivial (enters_of Try.func84 (by kernel_rfl) rfl)
          (columns_iter (foldS s) (foldS r) 1 V.heap.size (V.heap.size + 1) (V.heap.size + 2) _ (fun b => b < V.heap.size) WR hSs hRs (by decide) (by decide) k2 k3 k4 (by omega) (by omega) (by omega)) (fun x => rfl) (fun k x W l o o' h hl ho => handC_put _ _ _ k x W l o o' h hl ho)
          (fun k T W => (∀ b, T b ↔ b < V.heap.size) ∧ W.cell? ⟨bL, 0, none⟩ = some (.int .i64 (leastF (foldS s) (foldS r) k)) ∧ W.frozen? ⟨bL, 0, none⟩ = false ∧ W.cell? ⟨w.heap.size, 0, none⟩ = some (.string (foldS s)) ∧ Below w.heap.size w W ∧ V.heap.size ≤ W.heap.size)
          ?hJ (fun b h => by omega) ⟨fun b => Iff.rfl, k1, g1, k0, hBW, by omega⟩
          (fun x => { tmps := #[.string s, .string (foldS r), .bool true, boxV w.heap.size, undef, undef, .int .i64 0, boxV bL, undef, .slice (some ⟨x.2.1, 0, none⟩) ((foldS s).size + 1) x.2.2, .string s, .int .i64 s.size, .bool false, .bool false, .string r, .int .i64 r.size, .bool false, .bool false, .bool true, .string s, .string (foldS s), .string r, .string (foldS r), .string (foldS s), .string (foldS r), .func (.func 84) #[] #[boxV V.heap.size, boxV (V.heap.size + 1), boxV (V.heap.size + 2)], .int .i64 x.1, .slice (some ⟨x.2.1, 0, none⟩) ((foldS s).size + 1) x.2.2, undef, undef, undef, undef, undef, undef], defers := [] }) ?assign ?body ?done
        case hJ =>
          rintro k T A B ⟨hT, c1, f1, c0, hb, hl⟩ hAB
          refine ⟨hT, (hAB.cell (p := ⟨bL, 0, none⟩) ((hT _).2 (by show bL < _; omega)) (by show bL < _; omega)).trans c1, (hAB.frozen (p := ⟨bL, 0, none⟩) ((hT _).2 (by show bL < _; omega)) (by show bL < _; omega)).trans f1, (hAB.cell (p := ⟨w.heap.size, 0, none⟩) ((hT _).2 (by show w.heap.size < _; omega)) (by show w.heap.size < _; omega)).trans c0, hb.trans (hAB.below hb.size fun b h => (hT b).2 (by omega)), Nat.le_trans hl hAB.size⟩
        case assign =>
          intro l x W K hK
          unfold encC
          gi_wp2
          exact hK
        case body =>
          rintro l k T ⟨x1, g, cap⟩ W hk ⟨hT, c1, f1, c0, hb, hl⟩ ⟨hx1, hcol⟩
          have hc := hcol (foldS s).size (by omega)
          have hn1 : (((foldS s).size : Nat) : Int) < (((foldS s).size : Nat) : Int) + 1 := by omega
          have hbT : ¬ ¬ T bL := fun h => h ((hT bL).2 (by omega))
          simp only at hc
          clear hcol hx1
          gi_wp2
          refine ⟨T, ⟨hT, World.cell?_setCell_same' _ _ _ (by rw [c1]; rfl), by rw [World.frozen?_setCell]; exact f1, ?_, hb.setCell (p := ⟨bL, 0, none⟩) (by show _ ≤ bL; omega) _, ?_⟩, (On.refl _ W).setCell (p := ⟨bL, 0, none⟩) hbT _, fun b hb2 => ⟨.inl hb2, ?_⟩⟩
          · rw [← c0]
            exact World.cell?_of_block (Below.heap_setCell _ _ _ _ (by show w.heap.size ≠ bL; omega))
          · simp [World.setCell]; omega
          · have := (hT b).1 hb2; simp [World.setCell]; omega
        case done =>
          rintro D T W hD hTD ⟨hT, c1, f1, c0, hb, hl⟩ hK
          gi_wp2
          refine ⟨by simp, .inl ⟨_, _, rfl, run_takeDeferred hK, ?_⟩⟩
          exact ⟨_, results_tmp rfl _ _ _, by rw [HR.out, ← HFS.out, ← HFR.out]; rfl, hb.trans (belowK_b (w := w) (Nat.le_refl _) W D _ _ (by omega) hK rfl rfl)⟩
    · have HR := Lib.hid (distI_no (f := f) (s := s) (fun h => h2 h.2))
      have hd1 : decide (200 < (s.size : Int)) = false := by simp; omega
      have hd2 : decide (200 < (r.size : Int)) = true := by simp; omega
      gi_wp2
      exact ⟨_, results_tmp rfl _ _ _, by rw [HR.out]; rfl, (by repeat (first | exact Below.refl _ _ | assumption | (refine Below.drew ?_) | (refine below_drewN ?_ _) | (refine Below.alloc ?_ (by first | omega | (simp; done) | (simp; omega)) _) | (refine Below.setCell ?_ (by first | omega | (simp; done) | (simp; omega)) _)))⟩
  · have HR := Lib.hid (distI_no (f := f) (r := r) (fun h => h1 h.1))
    have hd1 : decide (200 < (s.size : Int)) = true := by simp; omega
    gi_wp2
    exact ⟨_, results_tmp rfl _ _ _, by rw [HR.out]; rfl, (by repeat (first | exact Below.refl _ _ | assumption | (refine Below.drew ?_) | (refine below_drewN ?_ _) | (refine Below.alloc ?_ (by first | omega | (simp; done) | (simp; omega)) _) | (refine Below.setCell ?_ (by first | omega | (simp; done) | (simp; omega)) _)))⟩
end Go.Proofs.Ytpniiaemgobaiab

/-
  Slices of int64 that a call makes by appending.
-/
namespace Go.Proofs.Ytpniiaemgobaiab
open Go.RowKit
set_option linter.unusedVariables false
theorem OwnN.shape1 {w : World} {B : Nat} {v : Value} {n : Nat} {L : List Int} (h : w.ownsRow B 2 1 v (n + 1) (L.map (Value.int .i64))) : ∃ g cap, v = .slice (some ⟨g, 0, none⟩) (n + 1) cap ∧ OwnN w B (some ⟨g, 0, none⟩) (n + 1) cap L := by
  obtain ⟨a, cap, rfl, hO⟩ := OwnN.shape h
  obtain ⟨g, rfl, _, _⟩ := hO.head 0 (by omega)
  exact ⟨g, cap, rfl, hO⟩
theorem OwnN.snoc {w : World} {B : Nat} {g n cap : Nat} {f : Nat → Int} (h : w.ownsRow B 2 1 (.slice (some ⟨g, 0, none⟩) (n + 1) cap) (n + 1) ((tab f n).map (Value.int .i64) ++ [.int .i64 (f n)])) : OwnN w B (some ⟨g, 0, none⟩) (n + 1) cap (tab f (n + 1)) :=
  ⟨tab_length _ _, own_snoc h⟩
theorem OwnN.below {w w1 w0 : World} {B : Nat} {a : Option Addr} {n cap : Nat} {L : List Int} {v : Value} (h : OwnN w B a n cap L) (hb : Below B w0 w) (hB : B ≤ w.heap.size) (hg : w.grownBy w1 (Value.slice a n cap).ownBlock) : Below B w0 w1 :=
  hb.grown hg hB fun k hk => (h.2.lt k hk).1
end Go.Proofs.Ytpniiaemgobaiab

/-
  Chapter 3: the next column's model.
-/
namespace Go.Proofs.Ytpniiaemgobaiab
open Go.RowKit
set_option linter.unusedVariables false
set_option maxHeartbeats 2000000 in
theorem spec_l3Next (s : ByteArray) (f : Bool) (L : List Int) (a : Option Addr) (n cap : Nat) (head b M : Int) (w : World) (hs : s.size ≤ 1048576) (hns : n = s.size + 1) (hn : L.length = n) (h : Ints w a L) (hB : Bnd (intAt L) s.size M) (hM : M ≤ 1048577) (h0 : 0 ≤ head) (h1 : head ≤ M + 1) (hb0 : 0 ≤ b) (hb1 : b ≤ 255) :
    Calls Try.prog 90 #[.string s, .bool f, .slice a n cap, .int .u8 b, .int .i64 head] w fun e w' => ∃ a' cap', e = .returned (.slice a' n cap') ∧ OwnN w' w.heap.size a' n cap' (tab (nextAt (maskG s f b) (intAt L) head) n) ∧ Below w.heap.size w w' := by
  obtain ⟨i0, hi, ht0, ht1, ht2⟩ := info_parts int_info
  have hM0 : 0 ≤ M := by have := hB 0 (Nat.zero_le _); omega
  have hN := nextAt_bnd (eq := maskG s f b) hB h0 h1
  obtain ⟨F, hF⟩ : ∃ F, F = nextAt (maskG s f b) (intAt L) head := ⟨_, rfl⟩
  have hF0 : F 0 = head := by rw [hF]; rfl
  have hFs : ∀ k, F (k + 1) = min3 (if maskG s f b k then intAt L k else intAt L k + 1) (intAt L (k + 1) + 1) (F k + 1) := by intro k; rw [hF]; rfl
  rw [← hF] at hN ⊢
  have HF0 := Lib.hid hF0; have HFs := Lib.hid hFs; have HN := Lib.hid hN; have HB := Lib.hid hB
  have HL := Lib.hid hn
  clear hF hF0 hFs hN hB hn
  have hn3 : n ≤ 1048577 := by omega
  have hn1 : 0 < n := by omega
  have HNN := Lib.hid hns; clear hns
  go_enter Try.func90, Try.ntmps90
  go_wp2
  go_loopw [11, 12] (fun v i wr => ∃ (k g c : Nat), k ≤ s.size ∧ i = .int .i64 ((k : Int) + 1) ∧ v = .slice (some ⟨g, 0, none⟩) (k + 1) c ∧ OwnN wr w.heap.size (some ⟨g, 0, none⟩) (k + 1) c (tab F (k + 1)) ∧ Below w.heap.size w wr)
    (fun _ i _ => s.size + 1 - (intOf i).toNat)
  case atStart =>
    refine ⟨0, w.heap.size, 1, by omega, by go_num, rfl, ⟨by simp [tab], ?_⟩, (Below.refl _ _).alloc (Nat.le_refl _) _⟩
    have := World.ownsRow_lit (base := w.heap.size) (e := 2) (size := 1) w #[.int .i64 head] 1 (Nat.le_refl _) (by decide) rfl
    simpa [tab, HF0.out] using this
  case round =>
    obtain ⟨k, g, c, hk, rfl, rfl, hO, hb⟩ := hrel
    by_cases hlt : k < s.size
    · have hkn : k + 1 < n := by have := HNN.out; omega
      obtain ⟨b0, off, rfl, hp⟩ := (h.kept hb).at k (by rw [HL.out, HNN.out]; omega)
      have c0 := hp k (by rw [HL.out, HNN.out]; omega)
      have c1 := hp (k + 1) (by rw [HL.out, HNN.out]; omega)
      have d0 := hO.cell k (by omega)
      rw [intAt_tab F _ _ (by omega)] at d0
      obtain ⟨hx0, hx1⟩ := HB.out k (by omega); obtain ⟨hy0, hy1⟩ := HB.out (k + 1) (by omega); obtain ⟨hz0, hz1⟩ := HN.out k (by omega)
      have hc := s[k].toNat_lt
      have hbe : maskG s f b k = eqI s[k].toNat b f := by unfold maskG; rw [byteAt_eq s k hlt]
      have HS := Lib.hid (HFs.out k)
      have HO := Lib.hid hO
      have kw : IntKind.i64.wrap ((k : Int) + 1) = (k : Int) + 1 := by rw [IntKind.wrap_i64]; omega
      have k0 : (0 : Int) ≤ (k : Int) + 1 := by omega
      have k1 : (k : Int) + 1 < (n : Int) := by omega
      have kt : ((k : Int) + 1).toNat = k + 1 := by omega
      have kl : (k : Int) < (n : Int) := by omega
      have km : (k : Int) + 1 ≤ (s.size : Int) := by omega
      clear hO h hp
      generalize intAt L k = x at *
      generalize intAt L (k + 1) = y at *
      generalize hqq : F k = q at *
      have HQQ := Lib.hid hqq; clear hqq
      cases hq : maskG s f b k
      · have ht := hbe.symm.trans hq
        have HQ := Lib.hid hq
        clear hbe hq
        go_wp2_with (go_at_call 70; refine (spec_l1Eq _ _ _ _ (by omega) (by omega) (by omega) (by omega)).mono ?_; rintro e w' ⟨rfl, rfl⟩)
        have e : F (k + 1) = (if q + 1 < if y < x then y + 1 else x + 1 then q + 1 else if y < x then y + 1 else x + 1) := by
          rw [HS.out, HQ.out]; unfold min3; simp
        have E := Lib.hid e; clear e
        have hmx : k + 1 + 1 ≤ maxLen := by unfold maxLen; omega
        have hby : (k + 1 + 1) * 8 ≤ 140737488355328 := by omega
        have hba : ∀ o, w.heap.size ≤ (wr.alloc o).drew.heap.size := fun o => by have := hb.size; simp; omega
        have hkk : (k : Int) < (k : Int) + 1 := by omega
        have yw : IntKind.i64.wrap (y + 1) = y + 1 := by rw [IntKind.wrap_i64]; omega
        have YW := Lib.hid yw; clear yw
        have qw : IntKind.i64.wrap (q + 1) = q + 1 := by rw [IntKind.wrap_i64]; omega
        have QW := Lib.hid qw; clear qw
        have kw2 : IntKind.i64.wrap (k : Int) = (k : Int) := by rw [IntKind.wrap_i64]; omega
        have yw := YW.out; have qw := QW.out
        go_region_law ((refine step_append_lies _ rfl (.tmp 37) (.tmp 51) 72 rfl w.heap.size 2 i0 (.int .i64 0) 1 8 Try.underlying72 hi ht0 ht1 ht2 rfl (by decide) (.slice (some ⟨g, 0, none⟩) (k + 1) c) _ _ (by simp [Act.eval]) (HO.out.2.alloc _).drew ⟨wr.heap.size, 0, none⟩ 1 1 [.int .i64 (if q + 1 < if y < x then y + 1 else x + 1 then q + 1 else if y < x then y + 1 else x + 1)] (by simp [Act.eval]) rfl (fun j u h => cells_new wr _ _ j u h) (one_all rfl) (by decide) hmx hby (hba _) _ rfl ?_; intro g1 cap1 w1 hown' hg _ _))
        all_goals
          rw [← E.out] at hown'
          have hO1 := Lib.hid (OwnN.snoc hown')
          clear kw kt kw2 yw qw
          have hB1 := (hb.alloc hb.size (.cells #[.int .i64 (if q + 1 < if y < x then y + 1 else x + 1 then q + 1 else if y < x then y + 1 else x + 1)] 2)).drew.grown hg (by have := hb.size; simp; omega) (fun j hj => (HO.out.2.lt j hj).1)
          clear hown' hg
          go_wp2
          go_roundw
          case rel => exact ⟨k + 1, g1, cap1, by omega, by go_num, rfl, hO1.out, hB1⟩
          case measure => simp [intOf]; omega
      · have ht := hbe.symm.trans hq
        have HQ := Lib.hid hq
        clear hbe hq
        go_wp2_with (go_at_call 70; refine (spec_l1Eq _ _ _ _ (by omega) (by omega) (by omega) (by omega)).mono ?_; rintro e w' ⟨rfl, rfl⟩)
        have e : F (k + 1) = (if q + 1 < if y + 1 < x then y + 1 else x then q + 1 else if y + 1 < x then y + 1 else x) := by
          rw [HS.out, HQ.out]; unfold min3; simp
        have E := Lib.hid e; clear e
        have hmx : k + 1 + 1 ≤ maxLen := by unfold maxLen; omega
        have hby : (k + 1 + 1) * 8 ≤ 140737488355328 := by omega
        have hba : ∀ o, w.heap.size ≤ (wr.alloc o).drew.heap.size := fun o => by have := hb.size; simp; omega
        have hkk : (k : Int) < (k : Int) + 1 := by omega
        have yw : IntKind.i64.wrap (y + 1) = y + 1 := by rw [IntKind.wrap_i64]; omega
        have YW := Lib.hid yw; clear yw
        have qw : IntKind.i64.wrap (q + 1) = q + 1 := by rw [IntKind.wrap_i64]; omega
        have QW := Lib.hid qw; clear qw
        have kw2 : IntKind.i64.wrap (k : Int) = (k : Int) := by rw [IntKind.wrap_i64]; omega
        have yw := YW.out; have qw := QW.out
        go_region_law ((refine step_append_lies _ rfl (.tmp 37) (.tmp 51) 72 rfl w.heap.size 2 i0 (.int .i64 0) 1 8 Try.underlying72 hi ht0 ht1 ht2 rfl (by decide) (.slice (some ⟨g, 0, none⟩) (k + 1) c) _ _ (by simp [Act.eval]) (HO.out.2.alloc _).drew ⟨wr.heap.size, 0, none⟩ 1 1 [.int .i64 (if q + 1 < if y + 1 < x then y + 1 else x then q + 1 else if y + 1 < x then y + 1 else x)] (by simp [Act.eval]) rfl (fun j u h => cells_new wr _ _ j u h) (one_all rfl) (by decide) hmx hby (hba _) _ rfl ?_; intro g1 cap1 w1 hown' hg _ _))
        all_goals
          rw [← E.out] at hown'
          have hO1 := Lib.hid (OwnN.snoc hown')
          clear kw kt kw2 yw qw
          have hB1 := (hb.alloc hb.size (.cells #[.int .i64 (if q + 1 < if y + 1 < x then y + 1 else x then q + 1 else if y + 1 < x then y + 1 else x)] 2)).drew.grown hg (by have := hb.size; simp; omega) (fun j hj => (HO.out.2.lt j hj).1)
          clear hown' hg
          go_wp2
          go_roundw
          case rel => exact ⟨k + 1, g1, cap1, by omega, by go_num, rfl, hO1.out, hB1⟩
          case measure => simp [intOf]; omega
    · obtain rfl : k = s.size := by omega
      have hn := HNN.out
      subst hn
      go_wp2
      go_ret
      exact ⟨_, _, rfl, hO, hb⟩
end Go.Proofs.Ytpniiaemgobaiab

/-
  Chapter 3: ColOk's model; FnExactColOk's walk.
-/
namespace Go.Proofs.Ytpniiaemgobaiab
open Go.RowKit
set_option linter.unusedVariables false
end Go.Proofs.Ytpniiaemgobaiab

/-
  Chapter 3: NextCol, in the program and in its model; FnExactNextCol's walk.
-/
namespace Go.Proofs.Ytpniiaemgobaiab
open Go.RowKit
set_option linter.unusedVariables false
def nextColB (s : ByteArray) (k : Int) (b : Int) (L : List Int) : Bool := colOkB (patOk s k) s.size L && inB b 0 255
def nextColL (s : ByteArray) (k : Int) (f : Bool) (b : Int) (L : List Int) : List Int := if nextColB s k b L then tab (nextAt (maskG s f b) (intAt L) 0) (s.size + 1) else []
theorem colOkB_bnd {ok : Bool} {n : Nat} {L : List Int} (h : colOkB ok n L = true) : Bnd (intAt L) n n := by
  intro i hi
  obtain ⟨_, h1, h2⟩ := (colOkB_iff _ _ _).1 h
  have := stepsB_bnd h2 i (by omega)
  omega
theorem eqP_mask (s : ByteArray) (b : Int) (n : Nat) (C : Nat → Int) (head : Int) : tab (nextAt (eqP s b) C head) n = tab (nextAt (maskG s false b) C head) n := rfl
theorem eqP_fold (s : ByteArray) (b : Int) (C : Nat → Int) (head : Int) : tab (nextAt (eqP (foldS s) (foldI b)) C head) (s.size + 1) = tab (nextAt (maskG s true b) C head) (s.size + 1) := by
  apply tab_congr
  intro i hi
  refine nextAt_congr (n := s.size) (fun j hj => ?_) (fun _ _ => rfl) i (by omega)
  have h2 : j < (foldS s).size := by rw [foldS_size]; exact hj
  rw [maskG_fold s b j h2, eqP_at _ _ _ h2]
theorem nextColL_len (s : ByteArray) (k : Int) (f : Bool) (b : Int) (L : List Int) (hs : s.size ≤ 1048576) : (nextColL s k f b L).length ≤ 1048577 := by
  unfold nextColL; split
  · rw [tab_length]; omega
  · simp
end Go.Proofs.Ytpniiaemgobaiab

/-
  Chapter 3: Distance's model; FnExactDistance's walk.
-/
namespace Go.Proofs.Ytpniiaemgobaiab
open Go.RowKit
set_option linter.unusedVariables false
theorem colAt_head (s r : ByteArray) (k : Nat) : colAt s r 1 k 0 = k := by
  induction k with
  | zero => simp [colAt, idI]
  | succ k ih => simp only [colAt, nextAt]; rw [ih]; omega
theorem foldS_byte (r : ByteArray) (k : Nat) (h : k < r.size) : ((byteAt (foldS r) k).toNat : Int) = foldI ((byteAt r k).toNat : Int) := by
  unfold byteAt foldS foldL
  have h2 : k < r.data.toList.length := by simpa using h
  simp only [List.getD_eq_getElem?_getD, List.getElem?_map, List.getElem?_eq_getElem h2]
  simp [foldB_toNat]
/-- the next column, told apart as the model does -/
theorem colAt_next (s r : ByteArray) (f : Bool) (rise : Int) (k : Nat) (hk : k < r.size) (head : Int) (hh : head = colAt (foldIf f s) (foldIf f r) rise k 0 + rise) :
    tab (nextAt (maskG s f (byteAt r k).toNat) (intAt (tab (colAt (foldIf f s) (foldIf f r) rise k) (s.size + 1))) head) (s.size + 1) = tab (colAt (foldIf f s) (foldIf f r) rise (k + 1)) (s.size + 1) := by
  subst hh
  apply tab_congr
  intro i hi
  simp only [colAt]
  refine nextAt_congr (n := s.size) (fun j hj => ?_) (fun j hj => intAt_tab _ _ _ (by omega)) i (by omega)
  cases f
  · rfl
  · have h2 : j < (foldS s).size := by rw [foldS_size]; exact hj
    show maskG s true _ j = eqP (foldS s) _ j
    rw [maskG_fold s _ j h2, eqP_at _ _ _ h2]
    have := foldS_byte r k hk
    simp only [foldIf, if_true]
    rw [this]
set_option maxHeartbeats 2000000 in
theorem spec_distance (s r : ByteArray) (f : Bool) (w : World) (hs : s.size ≤ 1048576) (hr : r.size ≤ 1048576) :
    Calls Try.prog 60 #[.string s, .string r, .bool f] w fun e w' => e = .returned (.int .i64 (distI s r f)) ∧ Below w.heap.size w w' := by
  by_cases h1 : s.size ≤ 200
  · by_cases h2 : r.size ≤ 200
    · have HR := Lib.hid (distI_yes (f := f) ⟨h1, h2⟩)
      go_enter Try.func60, Try.ntmps60
      go_wp2_with fail
      refine (spec_l3First s _ hs).mono ?_
      rintro e w1 ⟨a1, cap1, rfl, hO1, hb1⟩
      have hI1 := hO1.ints
      clear hO1
      go_wp2
      go_loopw [7, 8] (fun v i wr => ∃ (k : Nat) (a : Option Addr) (cap : Nat), k ≤ r.size ∧ i = .int .i64 k ∧ v = .slice a (s.size + 1) cap ∧ Ints wr a (tab (colAt (foldIf f s) (foldIf f r) 1 k) (s.size + 1)) ∧ Below w.heap.size w wr)
        (fun _ i _ => r.size - (intOf i).toNat)
      case atStart => exact ⟨0, a1, cap1, by omega, rfl, rfl, hI1, hb1⟩
      case round =>
        obtain ⟨k, a, cap, hk, rfl, rfl, hI, hb⟩ := hrel
        by_cases hlt : k < r.size
        · have hby := byteAt_eq r k hlt
          have hch := r[k].toNat_lt
          have HB := Lib.hid (colAt_bnd (foldIf f s) (foldIf f r) (rise := 1) (by decide) (by decide) k)
          have HN := Lib.hid (colAt_next s r f 1 k hlt ((k : Int) + 1) (by rw [colAt_head]))
          have HBY := Lib.hid hby
          have HSZ := Lib.hid (foldIf_size f s)
          clear hby hI1
          go_wp2_with fail
          refine (spec_l3Next s f (tab (colAt (foldIf f s) (foldIf f r) 1 k) (s.size + 1)) a (s.size + 1) cap _ _ (s.size + k) _ hs rfl (tab_length _ _) hI (fun i hi => by rw [intAt_tab _ _ _ (by omega)]; have := HB.out i (by rw [HSZ.out]; exact hi); rw [HSZ.out] at this; exact this) (by omega) (by omega) (by omega) (by omega) (by omega)).mono ?_
          rintro e w2 ⟨a2, cap2, rfl, hO2, hb2⟩
          have hI2 : Ints w2 a2 (tab (colAt (foldIf f s) (foldIf f r) 1 (k + 1)) (s.size + 1)) := by
            have := hO2.ints
            rw [← HBY.out, HN.out] at this
            exact this
          have hB2 := below_step hb hb2
          clear hO2 hI
          go_wp2
          go_roundw
          case rel => exact ⟨k + 1, a2, cap2, by omega, by go_num, rfl, hI2, hB2⟩
          case measure => simp [intOf]; omega
        · obtain rfl : k = r.size := by omega
          obtain ⟨b, off, rfl, hp⟩ := hI.at s.size (by rw [tab_length]; omega)
          have c0 := hp s.size (by rw [tab_length]; omega)
          rw [intAt_tab _ _ _ (by omega)] at c0
          have hl : (s.size : Int) < (s.size : Int) + 1 := by omega
          clear hp hI hI1
          go_wp2
          go_ret
          exact ⟨by rw [HR.out]; rfl, hb⟩
    · have HR := Lib.hid (distI_no (f := f) (s := s) (fun h => h2 h.2))
      have hd1 : decide (200 < (s.size : Int)) = false := by simp; omega
      have hd2 : decide (200 < (r.size : Int)) = true := by simp; omega
      go_enter Try.func60, Try.ntmps60
      go_wp2
      go_ret
      exact ⟨by rw [HR.out]; rfl, Below.refl _ _⟩
  · have HR := Lib.hid (distI_no (f := f) (r := r) (fun h => h1 h.1))
    have hd1 : decide (200 < (s.size : Int)) = true := by simp; omega
    go_enter Try.func60, Try.ntmps60
    go_wp2
    go_ret
    exact ⟨by rw [HR.out]; rfl, Below.refl _ _⟩
end Go.Proofs.Ytpniiaemgobaiab

/-
  The reader of drawn bytes: whatever it draws, it turns its own block alone.
-/
namespace Go.Proofs.Ytpniiaemgobaiab
open Go.RowKit
set_option linter.unusedVariables false
/-- block R is a reader over the row (a, len, cap, z), which lies below it -/
def RdAt (w : World) (R : Nat) (a : Option Addr) (len cap : Nat) (z : List Int) (p : Nat) : Prop :=
  w.heap[R]? = some (.cells #[.slice a len cap, .int .i64 p] 92 (0, 0)) ∧ p ≤ len ∧ len ≤ 1048576 ∧ IsRow .u8 w a len cap z ∧ ∀ x, a = some x → 0 < z.length → x.block < R
def RdOk (w : World) (R : Nat) (a : Option Addr) (len cap : Nat) (z : List Int) : Prop := ∃ p, RdAt w R a len cap z p
theorem grownBy_trans {w w1 w2 : World} {r : Option Nat} (h : w.grownBy w1 r) (h2 : w1.grownBy w2 r) : w.grownBy w2 r :=
  ⟨h2.os.trans h.os, h2.tape.trans h.tape, h2.output.trans h.output, Nat.le_trans h.size h2.size, fun k hk hne => (h2.block k (Nat.lt_of_lt_of_le hk h.size) hne).trans (h.block k hk hne)⟩
theorem grownBy_drewN {w w1 : World} {r : Option Nat} (h : w.grownBy w1 r) (n : Nat) : w.grownBy (w1.drewN n) r := ⟨h.os, h.tape, h.output, h.size, h.block⟩
theorem grownBy_setCell (w : World) (R o : Nat) (v : Value) : w.grownBy (w.setCell ⟨R, o, none⟩ v) (some R) :=
  ⟨rfl, rfl, rfl, by simp [World.setCell], fun k _ hne => heap_setCell_other w ⟨R, o, none⟩ k v (fun e => hne (by rw [e]))⟩
theorem isRow_kept {k : IntKind} {w w1 : World} {a : Option Addr} {len cap : Nat} {z : List Int} {R : Nat} (h : IsRow k w a len cap z) (hR : R ≤ w.heap.size) (hb : ∀ x, a = some x → 0 < z.length → x.block < R) (hg : ∀ j, j < R → w1.heap[j]? = w.heap[j]?) : IsRow k w1 a len cap z := by
  rcases h with h | ⟨x, rfl, h1, h2, h3, h4, h5⟩
  · exact .inl h
  · refine .inr ⟨x, rfl, h1, h2, h3, fun i hi => ?_, h5⟩
    have hx := hb x rfl (by omega)
    have e : (x.add i).block = x.block := by unfold Addr.add; split <;> rfl
    rw [← h4 i hi]
    exact World.cell?_of_block (by rw [e]; exact hg _ hx)
theorem RdAt.lt {w : World} {R : Nat} {a : Option Addr} {len cap : Nat} {z : List Int} {p : Nat} (h : RdAt w R a len cap z p) : R < w.heap.size := lt_of_block h.1
theorem RdOk.lt {w : World} {R : Nat} {a : Option Addr} {len cap : Nat} {z : List Int} (h : RdOk w R a len cap z) : R < w.heap.size := by obtain ⟨p, h⟩ := h; exact h.lt
/-- a reader is kept where no block up to its own is turned -/
theorem RdAt.kept {w w1 : World} {R : Nat} {a : Option Addr} {len cap : Nat} {z : List Int} {p : Nat} (h : RdAt w R a len cap z p) (hg : ∀ j, j ≤ R → w1.heap[j]? = w.heap[j]?) : RdAt w1 R a len cap z p :=
  ⟨(hg R (Nat.le_refl _)).trans h.1, h.2.1, h.2.2.1, isRow_kept h.2.2.2.1 (Nat.le_of_lt h.lt) h.2.2.2.2 (fun j hj => hg j (Nat.le_of_lt hj)), h.2.2.2.2⟩
theorem RdOk.kept {w w1 : World} {R : Nat} {a : Option Addr} {len cap : Nat} {z : List Int} (h : RdOk w R a len cap z) (hg : ∀ j, j ≤ R → w1.heap[j]? = w.heap[j]?) : RdOk w1 R a len cap z := by
  obtain ⟨p, h⟩ := h; exact ⟨p, h.kept hg⟩
theorem RdOk.alloc {w : World} {R : Nat} {a : Option Addr} {len cap : Nat} {z : List Int} (h : RdOk w R a len cap z) (o : Obj) : RdOk (w.alloc o) R a len cap z :=
  h.kept (fun j hj => Below.heap_alloc w o j (by have := h.lt; omega))
theorem RdOk.grown {w w1 : World} {R : Nat} {a : Option Addr} {len cap : Nat} {z : List Int} {r : Option Nat} (h : RdOk w R a len cap z) (hg : w.grownBy w1 r) (hr : ∀ k, r = some k → R < k) : RdOk w1 R a len cap z :=
  h.kept (fun j hj => hg.block j (by have := h.lt; omega) (fun e => by have := hr j e.symm; omega))
theorem RdOk.below {w w1 : World} {R : Nat} {a : Option Addr} {len cap : Nat} {z : List Int} (h : RdOk w R a len cap z) (hb : Below w.heap.size w w1) : RdOk w1 R a len cap z :=
  h.kept (fun j hj => hb.block j (by have := h.lt; omega))

/-- a step that writes to new blocks alone -/
theorem grownBy_own {w wa wb : World} {R : Nat} {row : Option Nat} (h : w.grownBy wa (some R)) (h2 : wa.grownBy wb row) (hr : ∀ k, row = some k → w.heap.size ≤ k) : w.grownBy wb (some R) :=
  ⟨h2.os.trans h.os, h2.tape.trans h.tape, h2.output.trans h.output, Nat.le_trans h.size h2.size, fun k hk hne => (h2.block k (Nat.lt_of_lt_of_le hk h.size) (fun e => by have := hr k e.symm; omega)).trans (h.block k hk hne)⟩
theorem grownBy_alloc {w wa : World} {R : Nat} (h : w.grownBy wa (some R)) (o : Obj) : w.grownBy (wa.alloc o) (some R) := grownBy_trans h (World.grownBy_alloc wa o _)
/-- one element of a literal that was laid ahead of a draw -/
theorem pick_any {p : Value → Prop} {w w2 : World} {R k : Nat} {cs : Array Value} {t : TypeId} (hg : (w.alloc (.cells cs t)).grownBy w2 (some R)) (hR : R < w.heap.size) (hk : k < cs.size) (hall : ∀ v ∈ cs.toList, p v) :
    ∃ v, w2.cell? ⟨w.heap.size, k, none⟩ = some v ∧ p v := by
  refine ⟨cs[k], hg.cell (by rw [World.cell?_alloc_new]; simp [hk]) (by simp; omega), hall _ (by simp)⟩
set_option maxHeartbeats 400000 in
theorem rd_next (w : World) (R : Nat) (a : Option Addr) (len cap : Nat) (z : List Int) (h : RdOk w R a len cap z) :
    Calls Try.prog 81 #[.pointer (some ⟨R, 0, none⟩)] w fun e w' => ∃ n : Int, e = .returned (.int .i64 n) ∧ (0 ≤ n ∧ n ≤ 255) ∧ RdOk w' R a len cap z ∧ w.grownBy w' (some R) := by
  obtain ⟨p, hp⟩ := h
  obtain ⟨h1, h2, h3, h4, h5⟩ := hp
  have hc0 : w.cell? ⟨R, 0, none⟩ = some (.slice a len cap) := by rw [cell_of_row w R 0 _ _ _ h1]; rfl
  have hc1 : w.cell? ⟨R, 1, none⟩ = some (.int .i64 p) := by rw [cell_of_row w R 1 _ _ _ h1]; rfl
  have hf1 := frozen_of_row w R 1 _ _ h1
  by_cases hlt : p < len
  · rcases h4 with ⟨rfl, rfl, rfl, rfl⟩ | ⟨x, rfl, hl, hm, hz, hcell, hwz⟩
    · omega
    · have hx := h5 x rfl (by omega)
      have hcp := hcell p (by omega)
      obtain ⟨b, off, spot⟩ := x
      have hspot : spot = none := by simpa [Addr.add] using World.cell?_spot (hcell 0 (by omega))
      subst hspot
      obtain ⟨n, hn⟩ : ∃ n, z.getD p 0 = n := ⟨_, rfl⟩
      rw [hn] at hcp
      have hcp' : w.cell? ⟨b, off + p, none⟩ = some (.int .u8 n) := by rw [Addr.add_lit] at hcp; exact hcp
      have hnb : 0 ≤ n ∧ n ≤ 255 := by
        have hin : z.getD p 0 ∈ z := by rw [List.getD_eq_getElem?_getD, List.getElem?_eq_getElem (by omega)]; simp
        rw [hn] at hin
        simpa [Lit.wf, IntKind.min, IntKind.max, IntKind.signed, IntKind.bits] using hwz n hin
      simp only at hx
      have hne : b ≠ R := by omega
      clear hn hcp
      have hi : (0 : Int) ≤ (p : Int) := by omega
      go_enter Try.func81, Try.ntmps81
      go_wp2
      go_quiet (fail)
      go_wp2
      have hW : w.grownBy ((w.drewN nq).setCell ⟨R, 1, none⟩ (.int .i64 ((p : Int) + 1))) (some R) := grownBy_trans (grownBy_drewN (World.grownBy.refl _ _) nq) (grownBy_setCell (w.drewN nq) R 1 _)
      have hW0 : ((w.drewN nq).setCell ⟨R, 1, none⟩ (.int .i64 ((p : Int) + 1))).heap[R]? = some (.cells #[.slice (some ⟨b, off, none⟩) len cap, .int .i64 ((p + 1 : Nat) : Int)] 92 (0, 0)) := by
        rw [heap_setCell_same (w.drewN nq) R 1 _ _ _ h1]; rfl
      generalize (w.drewN nq).setCell ⟨R, 1, none⟩ (.int .i64 ((p : Int) + 1)) = w1 at *
      have hd0 : w1.cell? ⟨R, 0, none⟩ = some (.slice (some ⟨b, off, none⟩) len cap) := by rw [cell_of_row w1 R 0 _ _ _ hW0]; rfl
      have hd1 : w1.cell? ⟨R, 1, none⟩ = some (.int .i64 ((p : Int) + 1)) := by rw [cell_of_row w1 R 1 _ _ _ hW0]; rfl
      have hd2 : w1.cell? ⟨b, off + p, none⟩ = some (.int .u8 n) := hW.cell hcp' (by simpa using hne)
      have hok : RdOk w1 R (some ⟨b, off, none⟩) len cap z := ⟨p + 1, hW0, by omega, h3, isRow_kept (R := R) (.inr ⟨_, rfl, hl, hm, hz, hcell, hwz⟩) (Nat.le_of_lt (lt_of_block h1)) h5 (fun j hj => hW.block j (by have := lt_of_block h1; omega) (by simp; omega)), h5⟩
      clear hcp' hc0 hc1 hf1 h1 hcell
      go_quiet (fail)
      go_wp2
      go_ret
      exact ⟨n, rfl, hnb, hok.below (below_drewN (Below.refl _ _) _), grownBy_drewN hW _⟩
  · obtain rfl : p = len := by omega
    go_enter Try.func81, Try.ntmps81
    go_wp2
    go_quiet (fail)
    go_wp2
    go_ret
    exact ⟨0, rfl, by omega, ⟨p, (show RdAt w R a p cap z p from ⟨h1, h2, h3, h4, h5⟩)⟩, grownBy_drewN (World.grownBy.refl _ _) _⟩

theorem rd_below (w : World) (R : Nat) (a : Option Addr) (len cap : Nat) (z : List Int) (h : RdOk w R a len cap z) (n : Int) :
    Calls Try.prog 48 #[.pointer (some ⟨R, 0, none⟩), .int .i64 n] w fun e w' => ∃ m : Int, e = .returned (.int .i64 m) ∧ (0 ≤ m ∧ (n ≤ 1 → m = 0) ∧ (1 < n → m < n) ∧ m ≤ 65535) ∧ RdOk w' R a len cap z ∧ w.grownBy w' (some R) := by
  by_cases h1 : n ≤ 1
  · go_enter Try.func48, Try.ntmps48
    go_wp2
    go_ret
    exact ⟨0, rfl, by omega, h, World.grownBy.refl _ _⟩
  · by_cases h2 : n ≤ 256
    · go_enter Try.func48, Try.ntmps48
      go_wp2_with (go_at_call 81; refine (rd_next _ _ _ _ _ _ h).mono ?_; rintro e w1 ⟨m, rfl, hm, hok, hg⟩; obtain ⟨hm0, hm1⟩ := hm)
      go_ret
      have e1 := Int.emod_nonneg m (show n ≠ 0 by omega)
      have e2 := Int.emod_lt_of_pos m (show 0 < n by omega)
      exact ⟨m % n, rfl, by omega, hok, hg⟩
    · go_enter Try.func48, Try.ntmps48
      go_wp2_with fail
      refine (rd_next _ _ _ _ _ _ h).mono ?_
      rintro e w1 ⟨m, rfl, hm, hok, hg⟩
      obtain ⟨hm0, hm1⟩ := hm
      go_wp2_with fail
      refine (rd_next _ _ _ _ _ _ hok).mono ?_
      rintro e w2 ⟨m2, rfl, hm2, hok2, hg2⟩
      obtain ⟨hm20, hm21⟩ := hm2
      go_wp2_with fail
      go_ret
      have e1 := Int.emod_nonneg (m * 256 + m2) (show n ≠ 0 by omega)
      have e2 := Int.emod_lt_of_pos (m * 256 + m2) (show 0 < n by omega)
      have e3 : (m * 256 + m2) % n ≤ m * 256 + m2 := by
        have := Int.emod_add_mul_ediv (m * 256 + m2) n
        have h0 : 0 ≤ n * ((m * 256 + m2) / n) := Int.mul_nonneg (by omega) (Int.ediv_nonneg (by omega) (by omega))
        omega
      exact ⟨(m * 256 + m2) % n, rfl, by omega, hok2, grownBy_trans hg hg2⟩
theorem rd_once (w : World) (R : Nat) (a : Option Addr) (len cap : Nat) (z : List Int) (h : RdOk w R a len cap z) (n : Int) (h0 : 0 ≤ n) (h1 : n ≤ 65536) :
    Calls Try.prog 47 #[.pointer (some ⟨R, 0, none⟩), .int .i64 n] w fun e w' => ∃ m : Bool, e = .returned (.bool m) ∧ RdOk w' R a len cap z ∧ w.grownBy w' (some R) := by
  go_enter Try.func47, Try.ntmps47
  go_wp2_with (go_at_call 48; refine (rd_below _ _ _ _ _ _ h _).mono ?_; rintro e w1 ⟨m, rfl, hm, hok, hg⟩)
  go_ret
  exact ⟨_, rfl, hok, hg⟩
set_option maxHeartbeats 400000 in
theorem rd_word (w : World) (R : Nat) (a : Option Addr) (len cap : Nat) (z : List Int) (h : RdOk w R a len cap z) :
    Calls Try.prog 105 #[.pointer (some ⟨R, 0, none⟩)] w fun e w' => ∃ m : Int, e = .returned (.int .u64 m) ∧ (0 ≤ m ∧ m ≤ 18446744073709551615) ∧ RdOk w' R a len cap z ∧ w.grownBy w' (some R) := by
  go_enter Try.func105, Try.ntmps105
  go_wp2
  go_loopw [3, 4] (fun v i wr => ∃ (k : Nat) (m : Int), k ≤ 8 ∧ i = .int .i64 k ∧ v = .int .u64 m ∧ (0 ≤ m ∧ m ≤ 18446744073709551615) ∧ RdOk wr R a len cap z ∧ w.grownBy wr (some R))
    (fun _ i _ => 8 - (intOf i).toNat)
  case atStart => exact ⟨0, 0, by omega, rfl, rfl, by omega, h, World.grownBy.refl _ _⟩
  case round =>
    obtain ⟨k, m, hk, rfl, rfl, hm, hok, hg⟩ := hrel
    by_cases hlt : k < 8
    · go_wp2_with (go_at_call 81; refine (rd_next _ _ _ _ _ _ hok).mono ?_; rintro e w1 ⟨n, rfl, hn, hok1, hg1⟩; obtain ⟨hn0, hn1⟩ := hn)
      go_roundw
      case rel => exact ⟨k + 1, _, by omega, by go_num, rfl, by simp only [bits]; rw [IntKind.wrap_u64]; omega, hok1, grownBy_trans hg hg1⟩
      case measure => simp [intOf]; omega
    · obtain rfl : k = 8 := by omega
      go_wp2
      go_ret
      exact ⟨m, rfl, hm, hok, hg⟩

set_option maxHeartbeats 400000 in
theorem rd_near (w : World) (R : Nat) (a : Option Addr) (len cap : Nat) (z : List Int) (h : RdOk w R a len cap z) (lo hi : Int) (hl0 : -1000000000000 ≤ lo) (hl1 : lo ≤ 1000000000000) (hh0 : -1000000000000 ≤ hi) (hh1 : hi ≤ 1000000000000) :
    Calls Try.prog 82 #[.pointer (some ⟨R, 0, none⟩), .int .i64 lo, .int .i64 hi] w fun e w' => ∃ m : Int, e = .returned (.int .i64 m) ∧ ((lo ≤ m ∧ m ≤ hi) ∨ m = lo ∨ m = hi) ∧ RdOk w' R a len cap z ∧ w.grownBy w' (some R) := by
  go_enter Try.func82, Try.ntmps82
  go_wp2_with fail
  refine (rd_below _ _ _ _ _ _ h _).mono ?_
  rintro e w1 ⟨m, rfl, ⟨hm0, _, hm1, _⟩, hok, hg⟩
  have hm2 : m < 8 := hm1 (by omega)
  clear hm1
  by_cases c0 : m = 0
  · subst c0
    go_wp2_with fail
    go_ret
    exact ⟨_, rfl, .inr (.inl rfl), hok, hg⟩
  · by_cases c1 : m = 1
    · subst c1
      go_wp2_with fail
      go_ret
      exact ⟨_, rfl, .inr (.inr rfl), hok, hg⟩
    · by_cases c2 : hi < lo
      · go_wp2_with fail
        go_ret
        exact ⟨_, rfl, .inr (.inl rfl), hok, hg⟩
      · go_wp2_with fail
        refine (rd_word _ _ _ _ _ _ hok).mono ?_
        rintro e w2 ⟨x, rfl, ⟨hx0, hx1⟩, hok2, hg2⟩
        have e1 := Int.emod_nonneg (x / 2) (show hi - lo + 1 ≠ 0 by omega)
        have e2 := Int.emod_lt_of_pos (x / 2) (show 0 < hi - lo + 1 by omega)
        go_wp2_with fail
        go_ret
        exact ⟨_, rfl, .inl (by omega), hok2, grownBy_trans hg hg2⟩
theorem rd_off (w : World) (R : Nat) (a : Option Addr) (len cap : Nat) (z : List Int) (h : RdOk w R a len cap z) (lo hi : Int) (hl0 : -1000000000000 ≤ lo) (hl1 : lo ≤ 1000000000000) (hh0 : -1000000000000 ≤ hi) (hh1 : hi ≤ 1000000000000) :
    Calls Try.prog 49 #[.pointer (some ⟨R, 0, none⟩), .int .i64 lo, .int .i64 hi] w fun e w' => ∃ m : Int, e = .returned (.int .i64 m) ∧ (-9223372036854775808 ≤ m ∧ m ≤ 9223372036854775807) ∧ RdOk w' R a len cap z ∧ w.grownBy w' (some R) := by
  go_enter Try.func49, Try.ntmps49
  go_wp2_with fail
  refine (rd_once _ _ _ _ _ _ h _ (by omega) (by omega)).mono ?_
  rintro e w1 ⟨m, rfl, hok, hg⟩
  cases m
  · go_wp2_with fail
    refine (rd_near _ _ _ _ _ _ hok _ _ (by omega) (by omega) (by omega) (by omega)).mono ?_
    rintro e w2 ⟨x, rfl, hx, hok2, hg2⟩
    go_wp2_with fail
    go_ret
    exact ⟨_, rfl, by omega, hok2, grownBy_trans hg hg2⟩
  · go_wp2_with fail
    refine (rd_below _ _ _ _ _ _ (hok.alloc _) _).mono ?_
    rintro e w2 ⟨x, rfl, ⟨hx0, _, hx1, _⟩, hok2, hg2⟩
    have hx2 : x < 4 := hx1 (by omega)
    clear hx1
    obtain ⟨k, rfl⟩ := Int.eq_ofNat_of_zero_le hx0
    obtain ⟨v, hv, y, rfl, hy⟩ := pick_any (k := k) (p := fun v => ∃ y : Int, v = .int .i64 y ∧ -9223372036854775808 ≤ y ∧ y ≤ 9223372036854775807) hg2 hok.lt (by simp; omega) (by
      intro v hv
      simp only [List.mem_cons, List.not_mem_nil, or_false] at hv
      rcases hv with rfl | rfl | rfl | rfl
      · exact ⟨_, rfl, by omega⟩
      · exact ⟨_, rfl, by omega⟩
      · exact ⟨_, rfl, by omega⟩
      · exact ⟨_, rfl, by omega⟩)
    go_wp2_with fail
    go_ret
    exact ⟨_, rfl, hy, hok2, grownBy_trans (grownBy_alloc hg _) hg2⟩
set_option maxHeartbeats 400000 in
theorem rd_term (w : World) (R : Nat) (a : Option Addr) (len cap : Nat) (z : List Int) (h : RdOk w R a len cap z) (n : Nat) (hn : n ≤ 1000) :
    Calls Try.prog 54 #[.pointer (some ⟨R, 0, none⟩), .int .i64 n] w fun e w' => ∃ s : ByteArray, e = .returned (.string s) ∧ s.size ≤ n + 1 ∧ RdOk w' R a len cap z ∧ w.grownBy w' (some R) := by
  obtain ⟨i0, hi, hz0, hz1, hz2⟩ := info_parts byte_info
  go_enter Try.func54, Try.ntmps54
  go_wp2_with fail
  refine (rd_below _ _ _ _ _ _ (h.alloc _) _).mono ?_
  rintro e w1 ⟨m, rfl, ⟨hm0, hm3, hm1, _⟩, hok, hg⟩
  have hm2 : m ≤ n := by
    by_cases h1 : (n : Int) ≤ 1
    · have := hm3 h1; omega
    · have := hm1 (by omega); omega
  clear hm1 hm3
  obtain ⟨q, rfl⟩ := Int.eq_ofNat_of_zero_le hm0
  have hwz := h.lt
  have hg1 : w.grownBy w1 (some R) := grownBy_trans (World.grownBy_alloc w _ _) hg
  have hown0 := (World.ownsRow_made (e := 5) (size := 1) w #[] 0 (Nat.le_refl _) (by decide) rfl).kept hg (.inr (by simp [Value.ownBlock]; omega))
  go_wp2_with fail
  go_loopw [5, 6] (fun v i wr => ∃ (k : Nat) (L : List UInt8), L.length + k = 1 + q ∧ i = .int .i64 k ∧ wr.ownsRow w.heap.size 5 1 v L.length (L.map byteVal) ∧ RdOk wr R a len cap z ∧ w.grownBy wr (some R))
    (fun _ i _ => (intOf i).toNat)
  case atStart => exact ⟨1 + q, [], by simp, by go_num, hown0, hok, hg1⟩
  case round =>
    obtain ⟨k, L, hL, rfl, hown, hokr, hgr⟩ := hrel
    by_cases hk0 : k = 0
    · subst hk0
      have hcv := run_owned_string (P := Try.prog) (w := wr) (src := 22) (dst := 9) (e := 5) Try.underlying22 Try.underlying5 Try.underlying9 _ hown
      go_wp2
      go_ret
      exact ⟨_, rfl, by show L.toArray.size ≤ _; simp; omega, hokr, hgr⟩
    · go_wp2_with fail
      refine (rd_below _ _ _ _ _ _ hokr _).mono ?_
      rintro e w2 ⟨x, rfl, ⟨hx0, _, hx1, _⟩, hok2, hg2⟩
      have hx2 : x < 6 := hx1 (by omega)
      clear hx1
      obtain ⟨j, rfl⟩ := Int.eq_ofNat_of_zero_le hx0
      have hown2 := hown.kept hg2 (.inr (fun e => by have := (hown.lt R e).1; omega))
      have hsz := hgr.size
      have hsz2 := hg2.size
      go_wp2_with (at_builtin; refine wpList_append_own _ rfl _ _ 22 rfl w.heap.size 5 i0 (.int .u8 0) 1 1 Try.underlying22 hi hz0 hz1 hz2 rfl (by decide) _ _ _ rfl (hown2.alloc _) ⟨w2.heap.size, 0, none⟩ 1 1 _ rfl rfl (cells_new _ _ _) (one_all rfl) (by unfold maxLen; omega) (by omega) (by simp; omega) ?_; intro v' w1 hown' hg _)
      have hown3 := own_cat (X := [_]) hown' rfl rfl
      have hokw := (hok2.alloc _).grown hg (fun k hk => by have := (hown2.lt k hk).1; omega)
      have hgw := grownBy_own (grownBy_alloc (grownBy_trans hgr hg2) _) hg (fun k hk => (hown2.lt k hk).1)
      clear hown hown2 hown' hg hg2 hgr
      go_roundw
      case rel => exact ⟨k - 1, _, by simp; omega, by congr 1; omega, hown3, hokw, hgw⟩
      case measure => simp [intOf]; omega

theorem byte_range (b : UInt8) : -9223372036854775808 ≤ (b.toNat : Int) ∧ (b.toNat : Int) ≤ 9223372036854775807 := by have := b.toNat_lt; omega
theorem isRow_lt {k : IntKind} {w : World} {a : Option Addr} {len cap : Nat} {z : List Int} (h : IsRow k w a len cap z) : ∀ x, a = some x → 0 < z.length → x.block < w.heap.size := by
  intro x hx hz
  rcases h with ⟨rfl, _⟩ | ⟨y, rfl, h1, h2, h3, h4, h5⟩
  · cases hx
  · cases hx
    have := block_lt_of_cell (h4 0 hz)
    have e : (x.add 0).block = x.block := by unfold Addr.add; split <;> rfl
    omega
theorem l1Open_any (a : Option Addr) (len cap : Nat) (z : List Int) (w : World) (hr : IsRow .u8 w a len cap z) (hl : len ≤ 1048576) :
    Calls Try.prog 40 #[.slice a len cap] w fun e w' => e = .returned (.pointer (some ⟨w.heap.size, 0, none⟩)) ∧ RdOk w' w.heap.size a len cap z ∧ Below w.heap.size w w' := by
  have hlt := isRow_lt hr
  go_enter Try.func40, Try.ntmps40
  go_wp2
  go_ret
  refine ⟨rfl, ⟨0, heap_alloc_new _ _, by omega, hl, isRow_kept hr (Nat.le_refl _) hlt (fun j hj => Below.heap_alloc _ _ _ hj), hlt⟩, (by repeat (first | exact Below.refl _ _ | assumption | (refine Below.drew ?_) | (refine below_drewN ?_ _) | (refine Below.alloc ?_ (by first | omega | (simp; done) | (simp; omega)) _) | (refine Below.setCell ?_ (by first | omega | (simp; done) | (simp; omega)) _)))⟩
theorem rd_nearly (w : World) (R : Nat) (a : Option Addr) (len cap : Nat) (z : List Int) (h : RdOk w R a len cap z) (s : ByteArray) (hs : s.size ≤ 1000) :
    Calls Try.prog 55 #[.pointer (some ⟨R, 0, none⟩), .string s] w fun e w' => ∃ t : ByteArray, e = .returned (.string t) ∧ t.size ≤ s.size + 2 ∧ RdOk w' R a len cap z ∧ w.grownBy w' (some R) := by
  go_enter Try.func55, Try.ntmps55
  go_wp2_with fail
  refine (rd_below _ _ _ _ _ _ h _).mono ?_
  rintro e w1 ⟨m, rfl, ⟨hm0, _, hm1, _⟩, hok, hg⟩
  have hm2 : m < 3 := hm1 (by omega)
  clear hm1
  obtain ⟨q, rfl⟩ := Int.eq_ofNat_of_zero_le hm0
  go_wp2_with fail
  go_loopw [1, 5] (fun v i wr => ∃ (k : Nat) (t : ByteArray), t.size + k ≤ s.size + q ∧ i = .int .i64 k ∧ v = .string t ∧ RdOk wr R a len cap z ∧ w.grownBy wr (some R))
    (fun _ i _ => (intOf i).toNat)
  case atStart => exact ⟨q, s, by omega, rfl, rfl, hok, hg⟩
  case round =>
    obtain ⟨k, t, hL, rfl, rfl, hokr, hgr⟩ := hrel
    by_cases hk0 : k = 0
    · subst hk0
      go_wp2
      go_ret
      exact ⟨_, rfl, by omega, hokr, hgr⟩
    · go_wp2_with fail
      refine (rd_below _ _ _ _ _ _ hokr _).mono ?_
      rintro e w2 ⟨x, rfl, ⟨hx0, hx3, hx1, _⟩, hok2, hg2⟩
      have hx2 : x ≤ t.size := by
        by_cases h1 : (t.size : Int) + 1 ≤ 1
        · have := hx3 h1; omega
        · have := hx1 (by omega); omega
      clear hx1 hx3
      obtain ⟨j, rfl⟩ := Int.eq_ofNat_of_zero_le hx0
      have hj : j ≤ t.size := by omega
      go_wp2_with fail
      refine (rd_below _ _ _ _ _ _ hok2 _).mono ?_
      rintro e w3 ⟨y, rfl, ⟨hy0, _, hy1, _⟩, hok3, hg3⟩
      have hy2 : y < 3 := hy1 (by omega)
      clear hy1
      have hgw := grownBy_trans hgr (grownBy_trans hg2 hg3)
      clear hgr hg2 hg3
      obtain ⟨A, hA⟩ : ∃ A, t.extract 0 j = A := ⟨_, rfl⟩
      obtain ⟨B, hB⟩ : ∃ B, t.extract j t.size = B := ⟨_, rfl⟩
      obtain ⟨C, hC⟩ : ∃ C, t.extract (j + 1) t.size = C := ⟨_, rfl⟩
      have hAs : A.size = j := by rw [← hA, ByteArray.size_extract]; omega
      have hBs : B.size = t.size - j := by rw [← hB, ByteArray.size_extract]; omega
      have hCs : C.size = t.size - (j + 1) := by rw [← hC, ByteArray.size_extract]; omega
      have hA1 : A.size ≤ 2000 := by omega
      have hB1 : B.size ≤ 2000 := by omega
      have hC1 : C.size ≤ 2000 := by omega
      have HA := Lib.hid hAs; have HB := Lib.hid hBs; have HC := Lib.hid hCs; clear hAs hBs hCs
      have hab : (A ++ ByteArray.mk #[99] ++ B).size = t.size + 1 := by rw [ByteArray.size_append, ByteArray.size_append, HA.out, HB.out]; show j + 1 + _ = _; omega
      have hac : (A ++ C).size = j + (t.size - (j + 1)) := by rw [ByteArray.size_append, HA.out, HC.out]
      have hac2 : (A ++ ByteArray.mk #[98] ++ C).size = j + 1 + (t.size - (j + 1)) := by rw [ByteArray.size_append, ByteArray.size_append, HA.out, HC.out]; rfl
      have HAB := Lib.hid hab; have HAC := Lib.hid hac; have HAD := Lib.hid hac2; clear hab hac hac2
      by_cases c0 : y = 0
      · subst c0
        go_wp2_with fail
        go_quiet (fail)
        go_wp2
        go_roundw
        case rel => exact ⟨k - 1, _, (by rw [HAB.out]; omega), by congr 1; omega, rfl, hok3.below (below_drewN (Below.refl _ _) _), grownBy_drewN hgw _⟩
        case measure => simp [intOf]; omega
      · by_cases c1 : y = 1
        · subst c1
          by_cases hjt : j < t.size
          · go_wp2_with fail
            go_quiet (fail)
            go_wp2
            go_roundw
            case rel => exact ⟨k - 1, _, (by rw [HAC.out]; omega), by congr 1; omega, rfl, hok3.below (below_drewN (Below.refl _ _) _), grownBy_drewN hgw _⟩
            case measure => simp [intOf]; omega
          · go_wp2_with fail
            go_roundw
            case rel => exact ⟨k - 1, _, (by omega), by congr 1; omega, rfl, hok3, hgw⟩
            case measure => simp [intOf]; omega
        · by_cases hjt : j < t.size
          · go_wp2_with fail
            go_quiet (fail)
            go_wp2
            go_roundw
            case rel => exact ⟨k - 1, _, (by rw [HAD.out]; omega), by congr 1; omega, rfl, hok3.below (below_drewN (Below.refl _ _) _), grownBy_drewN hgw _⟩
            case measure => simp [intOf]; omega
          · go_wp2_with fail
            go_roundw
            case rel => exact ⟨k - 1, _, (by omega), by congr 1; omega, rfl, hok3, hgw⟩
            case measure => simp [intOf]; omega
theorem isRow_below {k : IntKind} {w w1 : World} {a : Option Addr} {len cap : Nat} {z : List Int} (h : IsRow k w a len cap z) (hb : Below w.heap.size w w1) : IsRow k w1 a len cap z :=
  isRow_kept h (Nat.le_refl _) (isRow_lt h) (fun j hj => hb.block j hj)
theorem below_rd {w w1 w2 : World} (h : Below w.heap.size w w1) (hg : w1.grownBy w2 (some w.heap.size)) : Below w.heap.size w w2 := h.grown hg h.size (fun k hk => by cases hk; exact Nat.le_refl _)
end Go.Proofs.Ytpniiaemgobaiab

/-
  Chapter 1: what the drawers of chapter 1 hand over, whatever they read.
-/
namespace Go.Proofs.Ytpniiaemgobaiab
open Go.RowKit
set_option linter.unusedVariables false
end Go.Proofs.Ytpniiaemgobaiab

/-
  Drawn patterns, texts, and what chapter 3's drawers hand over, whatever they read.
-/
namespace Go.Proofs.Ytpniiaemgobaiab
open Go.RowKit
set_option linter.unusedVariables false
def i64B (k : Int) : Prop := -9223372036854775808 ≤ k ∧ k ≤ 9223372036854775807
theorem set3_grown {w X : World} {R B : Nat} (h : w.grownBy X (some R)) (hB : w.heap.size ≤ B) (x y z : Value) : w.grownBy (((X.setCell ⟨B, 0, none⟩ x).setCell ⟨B, 1, none⟩ y).setCell ⟨B, 2, none⟩ z) (some R) :=
  grownBy_own (grownBy_own (grownBy_own h (grownBy_setCell X B 0 x) (fun k e => by cases e; exact hB)) (grownBy_setCell _ B 1 y) (fun k e => by cases e; exact hB)) (grownBy_setCell _ B 2 z) (fun k e => by cases e; exact hB)
theorem set3_ok {X : World} {R B : Nat} {a : Option Addr} {len cap : Nat} {zz : List Int} (h : RdOk X R a len cap zz) (hB : R < B) (x y z : Value) : RdOk (((X.setCell ⟨B, 0, none⟩ x).setCell ⟨B, 1, none⟩ y).setCell ⟨B, 2, none⟩ z) R a len cap zz :=
  ((h.grown (grownBy_setCell X B 0 x) (fun k e => by cases e; exact hB)).grown (grownBy_setCell _ B 1 y) (fun k e => by cases e; exact hB)).grown (grownBy_setCell _ B 2 z) (fun k e => by cases e; exact hB)
theorem set3_cell {X : World} {b B i : Nat} (h : B ≠ b) (x y v : Value) : (((X.setCell ⟨b, 0, none⟩ x).setCell ⟨b, 1, none⟩ y).setCell ⟨b, 2, none⟩ v).cell? ⟨B, i, none⟩ = X.cell? ⟨B, i, none⟩ :=
  World.cell?_of_block ((Below.heap_setCell _ ⟨b, 2, none⟩ _ B h).trans ((Below.heap_setCell _ ⟨b, 1, none⟩ _ B h).trans (Below.heap_setCell _ ⟨b, 0, none⟩ _ B h)))
theorem laws_big (a : Option Addr) (len cap : Nat) (w : World) (hl : len ≤ 9223372036854775807) :
    Calls Try.prog 9 #[.slice a len cap] w fun e w' => e = .returned (.bool (decide (1048576 < (len : Int)))) ∧ w = w' := by
  go_enter Try.func9, Try.ntmps9
  go_wp2
  go_ret
  exact ⟨rfl, rfl⟩
end Go.Proofs.Ytpniiaemgobaiab

/-
  Plain facts: by how much lists of bytes differ: its own laws (the one as the other, by way of a third, turned round, piece by piece), and that the columns reckon it.
-/
namespace Go.Proofs.Ytpniiaemgobaiab
open Go.RowKit
set_option linter.unusedVariables false
/-- are two bytes unlike? -/
def df (x y : UInt8) : Nat := if x = y then 0 else 1
theorem df_self (x : UInt8) : df x x = 0 := if_pos rfl
theorem df_le (x y : UInt8) : df x y ≤ 1 := by unfold df; split <;> omega
theorem df_ne {x y : UInt8} (h : ¬ x = y) : df x y = 1 := if_neg h
theorem df_symm (x y : UInt8) : df x y = df y x := by
  by_cases h : x = y
  · subst h; rfl
  · rw [df_ne h, df_ne fun e => h e.symm]
theorem df_tri (x z y : UInt8) : df x y ≤ df x z + df z y := by
  by_cases h : x = z
  · subst h; omega
  · have := df_le x y; rw [df_ne h]; omega
/-- by how much two lists differ -/
def ed : List UInt8 → List UInt8 → Nat
  | [], b => b.length
  | x :: a, [] => a.length + 1
  | x :: a, y :: b => min (ed a b + df x y) (min (ed a (y :: b) + 1) (ed (x :: a) b + 1))
termination_by a b => a.length + b.length
theorem ed_nil (b : List UInt8) : ed [] b = b.length := by rw [ed]
theorem ed_nil' (a : List UInt8) : ed a [] = a.length := by
  cases a with
  | nil => rw [ed]
  | cons x a => rw [ed]; rfl
theorem ed_cons (x y : UInt8) (a b : List UInt8) : ed (x :: a) (y :: b) = min (ed a b + df x y) (min (ed a (y :: b) + 1) (ed (x :: a) b + 1)) := by rw [ed]
theorem ed_put (y : UInt8) (a b : List UInt8) : ed a (y :: b) ≤ ed a b + 1 := by
  cases a with
  | nil => rw [ed_nil, ed_nil]; simp
  | cons x a => rw [ed_cons]; omega
theorem ed_drop (x : UInt8) (a b : List UInt8) : ed (x :: a) b ≤ ed a b + 1 := by
  cases b with
  | nil => rw [ed_nil', ed_nil']; simp
  | cons y b => rw [ed_cons]; omega
theorem ed_both (x y : UInt8) (a b : List UInt8) : ed (x :: a) (y :: b) ≤ ed a b + df x y := by rw [ed_cons]; omega
theorem ed_cases (x y : UInt8) (a b : List UInt8) : ed (x :: a) (y :: b) = ed a b + df x y ∨ ed (x :: a) (y :: b) = ed a (y :: b) + 1 ∨ ed (x :: a) (y :: b) = ed (x :: a) b + 1 := by
  rw [ed_cons]; omega
/-- a way of proving something of two lists -/
theorem two_lists {M : List UInt8 → List UInt8 → Prop} (h0 : ∀ b, M [] b) (h1 : ∀ a, M a []) (h2 : ∀ x y a b, M a b → M a (y :: b) → M (x :: a) b → M (x :: a) (y :: b)) : ∀ a b, M a b := by
  have key : ∀ n a b, a.length + b.length ≤ n → M a b := by
    intro n
    induction n with
    | zero => intro a b h; cases a with
      | nil => exact h0 b
      | cons x a => simp at h
    | succ n ih =>
      intro a b h
      cases a with
      | nil => exact h0 b
      | cons x a => cases b with
        | nil => exact h1 _
        | cons y b =>
          simp only [List.length_cons] at h
          exact h2 x y a b (ih _ _ (by omega)) (ih _ _ (by simp only [List.length_cons]; omega)) (ih _ _ (by simp only [List.length_cons]; omega))
  intro a b
  exact key _ a b (Nat.le_refl _)
theorem ed_symm : ∀ a b, ed a b = ed b a := by
  refine two_lists (fun b => by rw [ed_nil, ed_nil']) (fun a => by rw [ed_nil, ed_nil']) fun x y a b h1 h2 h3 => ?_
  rw [ed_cons, ed_cons, h1, h2, h3, df_symm x y]; omega
theorem ed_len : ∀ a b, a.length ≤ b.length + ed a b ∧ b.length ≤ a.length + ed a b ∧ ed a b ≤ max a.length b.length := by
  refine two_lists (fun b => by rw [ed_nil]; simp) (fun a => by rw [ed_nil']; simp) fun x y a b h1 h2 h3 => ?_
  have := ed_cases x y a b
  have q := ed_both x y a b
  simp only [List.length_cons] at *
  have d := df_le x y
  omega
theorem ed_self : ∀ a, ed a a = 0 := by
  intro a
  induction a with
  | nil => rw [ed_nil]; rfl
  | cons x a ih => have := ed_both x x a a; rw [df_self] at this; omega
theorem ed_zero : ∀ a b, ed a b = 0 → a = b := by
  refine two_lists (fun b h => by rw [ed_nil] at h; exact (List.eq_nil_of_length_eq_zero h).symm) (fun a h => by rw [ed_nil'] at h; exact List.eq_nil_of_length_eq_zero h) fun x y a b h1 _ _ h => ?_
  rcases ed_cases x y a b with e | e | e
  · by_cases hxy : x = y
    · subst hxy; rw [h1 (by omega)]
    · rw [df_ne hxy] at e; omega
  · omega
  · omega
theorem ed_tri_all : ∀ n a c b, a.length + c.length + b.length ≤ n → ed a b ≤ ed a c + ed c b := by
  intro n
  induction n with
  | zero =>
    intro a c b h
    have ha : a = [] := List.eq_nil_of_length_eq_zero (by omega)
    have hb : b = [] := List.eq_nil_of_length_eq_zero (by omega)
    subst ha hb; rw [ed_nil]; simp
  | succ n ih =>
    intro a c b h
    match a, c, b, h with
    | [], c, b, h => have := ed_len c b; rw [ed_nil, ed_nil]; omega
    | x :: a, c, [], h => have := ed_len (x :: a) c; rw [ed_nil', ed_nil']; omega
    | x :: a, [], y :: b, h => have := ed_len (x :: a) (y :: b); rw [ed_nil', ed_nil]; omega
    | x :: a, z :: c, y :: b, h =>
      simp only [List.length_cons] at h
      rcases ed_cases x z a c with e | e | e
      · rcases ed_cases z y c b with f | f | f
        · have i := ih a c b (by omega)
          have j := ed_both x y a b
          have t := df_tri x z y
          omega
        · have i := ih a c (y :: b) (by simp only [List.length_cons]; omega)
          have j := ed_drop x a (y :: b)
          omega
        · have i := ih (x :: a) (z :: c) b (by simp only [List.length_cons]; omega)
          have j := ed_put y (x :: a) b
          omega
      · have i := ih a (z :: c) (y :: b) (by simp only [List.length_cons]; omega)
        have j := ed_drop x a (y :: b)
        omega
      · rcases ed_cases z y c b with f | f | f
        · have i := ih (x :: a) c b (by simp only [List.length_cons]; omega)
          have j := ed_put y (x :: a) b
          omega
        · have i := ih (x :: a) c (y :: b) (by simp only [List.length_cons]; omega)
          omega
        · have i := ih (x :: a) (z :: c) b (by simp only [List.length_cons]; omega)
          have j := ed_put y (x :: a) b
          omega
theorem ed_tri (a c b : List UInt8) : ed a b ≤ ed a c + ed c b := ed_tri_all _ a c b (Nat.le_refl _)
theorem ed_prepend (c d : List UInt8) : ∀ a b, ed (a ++ c) (b ++ d) ≤ ed a b + ed c d := by
  refine two_lists (fun b => ?_) (fun a => ?_) fun x y a b h1 h2 h3 => ?_
  · rw [ed_nil]
    induction b with
    | nil => simp
    | cons y b ih => have := ed_put y ([] ++ c) (b ++ d); simp only [List.cons_append, List.length_cons, List.nil_append] at *; omega
  · rw [ed_nil']
    induction a with
    | nil => simp
    | cons x a ih => have := ed_drop x (a ++ c) ([] ++ d); simp only [List.cons_append, List.length_cons, List.nil_append] at *; omega
  · simp only [List.cons_append] at *
    have p1 := ed_put y (x :: (a ++ c)) (b ++ d)
    have p2 := ed_drop x (a ++ c) (y :: (b ++ d))
    have p3 := ed_both x y (a ++ c) (b ++ d)
    rcases ed_cases x y a b with e | e | e
    · omega
    · omega
    · omega
theorem ed_rev_le : ∀ a b, ed a.reverse b.reverse ≤ ed a b := by
  refine two_lists (fun b => by simp [ed_nil]) (fun a => by simp [ed_nil']) fun x y a b h1 h2 h3 => ?_
  simp only [List.reverse_cons] at *
  rcases ed_cases x y a b with e | e | e
  · have := ed_prepend [x] [y] a.reverse b.reverse
    have q : ed [x] [y] ≤ df x y := by have := ed_both x y [] []; rw [ed_nil] at this; simpa using this
    omega
  · have := ed_prepend [x] [] a.reverse (b.reverse ++ [y])
    rw [ed_nil', List.append_nil] at this
    simp only [List.length_cons, List.length_nil] at this
    omega
  · have := ed_prepend [] [y] (a.reverse ++ [x]) b.reverse
    rw [ed_nil, List.append_nil] at this
    simp only [List.length_cons, List.length_nil] at this
    omega
theorem ed_rev (a b : List UInt8) : ed a.reverse b.reverse = ed a b := by
  have h1 := ed_rev_le a b
  have h2 := ed_rev_le a.reverse b.reverse
  rw [List.reverse_reverse, List.reverse_reverse] at h2
  omega
theorem ed_same_head (x : UInt8) (a b : List UInt8) : ed (x :: a) (x :: b) = ed a b := by
  have h1 := ed_both x x a b
  rw [df_self] at h1
  have h2 := ed_put x b b
  have h3 := ed_drop x a a
  have h4 := ed_self b
  have h5 := ed_self a
  have h6 := ed_tri a (x :: b) b
  have h7 := ed_tri a (x :: a) b
  have h8 := ed_drop x b b
  have h9 := ed_put x a a
  have := ed_cons x x a b
  rw [df_self] at this
  omega
theorem ed_snoc (x y : UInt8) (a b : List UInt8) : ed (a ++ [x]) (b ++ [y]) = min (ed a b + df x y) (min (ed a (b ++ [y]) + 1) (ed (a ++ [x]) b + 1)) := by
  have h := ed_cons x y a.reverse b.reverse
  have e1 : x :: a.reverse = (a ++ [x]).reverse := by simp
  have e2 : y :: b.reverse = (b ++ [y]).reverse := by simp
  rw [e1, e2] at h
  rw [ed_rev, ed_rev, ed_rev, ed_rev] at h
  exact h
theorem ed_same_last (x : UInt8) (a b : List UInt8) : ed (a ++ [x]) (b ++ [x]) = ed a b := by
  have h := ed_same_head x a.reverse b.reverse
  have e1 : x :: a.reverse = (a ++ [x]).reverse := by simp
  have e2 : x :: b.reverse = (b ++ [x]).reverse := by simp
  rw [e1, e2, ed_rev, ed_rev] at h
  exact h

theorem ed_drop_last (x : UInt8) (a b : List UInt8) : ed (a ++ [x]) b ≤ ed a b + 1 := by
  have h := ed_drop x a.reverse b.reverse
  rw [show x :: a.reverse = (a ++ [x]).reverse by simp, ed_rev, ed_rev] at h
  exact h
theorem ed_put_last (y : UInt8) (a b : List UInt8) : ed a (b ++ [y]) ≤ ed a b + 1 := by
  rw [ed_symm a, ed_symm a]; exact ed_drop_last y b a
theorem ed_both_last (x y : UInt8) (a b : List UInt8) : ed (a ++ [x]) (b ++ [y]) ≤ ed a b + df x y := by rw [ed_snoc]; omega
/-- the bytes of a text -/
def bl (s : ByteArray) : List UInt8 := s.data.toList
theorem bl_len (s : ByteArray) : (bl s).length = s.size := by show s.data.toList.length = s.data.size; simp
theorem bl_take (s : ByteArray) (i : Nat) (h : i < s.size) : (bl s).take (i + 1) = (bl s).take i ++ [byteAt s i] := by
  have h2 : i < (bl s).length := by rw [bl_len]; exact h
  rw [List.take_succ_eq_append_getElem h2]
  unfold byteAt
  rw [List.getD_eq_getElem?_getD, List.getElem?_eq_getElem (show i < s.data.toList.length from h2)]; rfl
theorem eqP_df (s : ByteArray) (b : UInt8) (i : Nat) (C : Int) : (if eqP s (b.toNat : Int) i then C else C + 1) = C + (df (byteAt s i) b : Nat) := by
  unfold eqP df
  by_cases h : byteAt s i = b
  · rw [h]; simp
  · have h2 : ¬ ((byteAt s i).toNat : Int) = (b.toNat : Int) := fun e => h (UInt8.toNat_inj.1 (by omega))
    simp [h, h2]
theorem colAt_step (s r : ByteArray) (rise : Int) (k i : Nat) : colAt s r rise (k + 1) (i + 1) = min3 (colAt s r rise k i + (df (byteAt s i) (byteAt r k) : Nat)) (colAt s r rise k (i + 1) + 1) (colAt s r rise (k + 1) i + 1) := by
  have h := nextAt_succ (eqP s ((byteAt r k).toNat : Int)) (colAt s r rise k) (colAt s r rise k 0 + rise) i
  rw [eqP_df] at h
  exact h
theorem colAt_first0 (s r : ByteArray) (rise : Int) (i : Nat) : colAt s r rise 0 i = i := rfl
theorem colAt_next0 (s r : ByteArray) (rise : Int) (k : Nat) : colAt s r rise (k + 1) 0 = colAt s r rise k 0 + rise := rfl
/-- the columns of all that was read reckon by how much it differs -/
theorem colAt_ed (s r : ByteArray) : ∀ k i, k ≤ r.size → i ≤ s.size → colAt s r 1 k i = (ed ((bl s).take i) ((bl r).take k) : Nat) := by
  intro k
  induction k with
  | zero => intro i _ hi; rw [colAt_first0, List.take_zero, ed_nil', List.length_take, bl_len, Nat.min_eq_left hi]
  | succ k ihk =>
    intro i hk
    induction i with
    | zero => intro _; rw [colAt_next0, ihk 0 (by omega) (by omega), List.take_zero, ed_nil, ed_nil, List.length_take, List.length_take, bl_len]; omega
    | succ i ihi =>
      intro hi
      rw [colAt_step, ihk i (by omega) (by omega), ihk (i + 1) (by omega) hi, ihi (by omega), bl_take s i (by omega), bl_take r k (by omega), ed_snoc]
      have := min3_spec ((ed ((bl s).take i) ((bl r).take k) : Int) + (df (byteAt s i) (byteAt r k) : Nat)) ((ed ((bl s).take i ++ [byteAt s i]) ((bl r).take k) : Int) + 1) ((ed ((bl s).take i) ((bl r).take k ++ [byteAt r k]) : Int) + 1)
      generalize min3 ((ed ((bl s).take i) ((bl r).take k) : Int) + (df (byteAt s i) (byteAt r k) : Nat)) ((ed ((bl s).take i ++ [byteAt s i]) ((bl r).take k) : Int) + 1) ((ed ((bl s).take i) ((bl r).take k ++ [byteAt r k]) : Int) + 1) = q at *
      omega
/-- a piece of what was read -/
def piece (r : ByteArray) (j k : Nat) : List UInt8 := ((bl r).take k).drop j
theorem piece_all (r : ByteArray) (k : Nat) (h : k ≤ r.size) : piece r k k = [] := by
  unfold piece
  rw [List.drop_eq_nil_iff, List.length_take, bl_len]; omega
theorem piece_succ (r : ByteArray) (j k : Nat) (hj : j ≤ k) (h : k < r.size) : piece r j (k + 1) = piece r j k ++ [byteAt r k] := by
  unfold piece
  rw [bl_take r k h, List.drop_append_of_le_length (by rw [List.length_take, bl_len]; omega)]
/-- where a piece may begin anywhere, the columns reckon the least of what differs -/
theorem colAt_least (s r : ByteArray) : ∀ k i, k ≤ r.size → i ≤ s.size → (∀ j, j ≤ k → colAt s r 0 k i ≤ (ed ((bl s).take i) (piece r j k) : Nat)) ∧ ∃ j, j ≤ k ∧ colAt s r 0 k i = (ed ((bl s).take i) (piece r j k) : Nat) := by
  intro k
  induction k with
  | zero =>
    intro i _ hi
    have e : ∀ j, piece r j 0 = [] := fun j => by unfold piece; simp
    have e2 : (colAt s r 0 0 i : Int) = (ed ((bl s).take i) [] : Nat) := by rw [colAt_first0, ed_nil', List.length_take, bl_len, Nat.min_eq_left hi]
    exact ⟨fun j _ => by rw [e, e2]; exact Int.le_refl _, 0, Nat.le_refl _, by rw [e, e2]⟩
  | succ k ihk =>
    intro i hk
    have h0 : ∀ q, colAt s r 0 q 0 = 0 := fun q => by
      induction q with
      | zero => rfl
      | succ q ih => rw [colAt_next0, ih]; rfl
    induction i with
    | zero =>
      intro _
      rw [h0, List.take_zero]
      exact ⟨fun j _ => by omega, k + 1, Nat.le_refl _, by rw [piece_all r _ hk, ed_nil]; rfl⟩
    | succ i ihi =>
      intro hi
      obtain ⟨a1, j1, b1, c1⟩ := ihk i (by omega) (by omega)
      obtain ⟨a2, j2, b2, c2⟩ := ihk (i + 1) (by omega) hi
      obtain ⟨a3, j3, b3, c3⟩ := ihi (by omega)
      have hm := min3_spec (colAt s r 0 k i + (df (byteAt s i) (byteAt r k) : Nat)) (colAt s r 0 k (i + 1) + 1) (colAt s r 0 (k + 1) i + 1)
      rw [colAt_step]
      generalize min3 (colAt s r 0 k i + (df (byteAt s i) (byteAt r k) : Nat)) (colAt s r 0 k (i + 1) + 1) (colAt s r 0 (k + 1) i + 1) = q at *
      rw [bl_take s i (by omega)] at a2 c2 ⊢
      have low : ∀ j, j ≤ k + 1 → q ≤ (ed ((bl s).take i ++ [byteAt s i]) (piece r j (k + 1)) : Nat) := by
        intro j hj
        by_cases e : j = k + 1
        · subst e
          have := a3 (k + 1) (Nat.le_refl _)
          rw [piece_all r _ hk, ed_nil'] at this ⊢
          rw [List.length_append, List.length_singleton]
          omega
        · have hj2 : j ≤ k := by omega
          have x1 := a1 j hj2
          have x2 := a2 j hj2
          have x3 := a3 j hj
          rw [piece_succ r j k hj2 (by omega)] at x3 ⊢
          rw [ed_snoc]
          omega
      refine ⟨low, ?_⟩
      rcases hm.2.2.2 with e | e | e
      · refine ⟨j1, by omega, ?_⟩
        have x := low j1 (by omega)
        rw [piece_succ r j1 k b1 (by omega)] at x ⊢
        have y := ed_both_last (byteAt s i) (byteAt r k) ((bl s).take i) (piece r j1 k)
        omega
      · refine ⟨j2, by omega, ?_⟩
        have x := low j2 (by omega)
        rw [piece_succ r j2 k b2 (by omega)] at x ⊢
        have y := ed_put_last (byteAt r k) ((bl s).take i ++ [byteAt s i]) (piece r j2 k)
        omega
      · refine ⟨j3, b3, ?_⟩
        have x := low j3 b3
        have y := ed_drop_last (byteAt s i) ((bl s).take i) (piece r j3 (k + 1))
        omega
end Go.Proofs.Ytpniiaemgobaiab

/-
  Chapter 3: what DrawDistance hands over, whatever it reads; a text turned round, as the laws do it.
-/
namespace Go.Proofs.Ytpniiaemgobaiab
open Go.RowKit
set_option linter.unusedVariables false
theorem drawDistance (a : Option Addr) (len cap : Nat) (z : List Int) (w : World) (hr : IsRow .u8 w a len cap z) (hl : len ≤ 1048576) :
    Calls Try.prog 65 #[.slice a len cap] w fun e w' => ∃ (s t : ByteArray) (f : Bool), e = .returned (.tuple #[.string s, .string t, .bool f]) ∧ s.size ≤ 14 ∧ t.size ≤ 14 ∧ Below w.heap.size w w' := by
  go_enter Try.func65, Try.ntmps65
  go_wp2_with fail
  refine (l1Open_any _ _ _ _ _ hr hl).mono ?_
  rintro e w1 ⟨rfl, hok, hb⟩
  go_wp2_with fail
  refine (rd_term _ _ _ _ _ _ hok 8 (by omega)).mono ?_
  rintro e w2 ⟨s, rfl, hs, hok2, hg2⟩
  go_wp2_with fail
  refine (rd_once _ _ _ _ _ _ hok2 _ (by omega) (by omega)).mono ?_
  rintro e w3 ⟨f, rfl, hok3, hg3⟩
  go_wp2_with fail
  refine (rd_once _ _ _ _ _ _ hok3 _ (by omega) (by omega)).mono ?_
  rintro e w4 ⟨m, rfl, hok4, hg4⟩
  have hg := grownBy_trans hg2 (grownBy_trans hg3 hg4)
  cases m
  · go_wp2_with fail
    refine (rd_nearly _ _ _ _ _ _ hok4 s (by omega)).mono ?_
    rintro e w5 ⟨t, rfl, ht, hok5, hg5⟩
    go_wp2_with fail
    go_ret3
    exact ⟨_, _, _, rfl, by omega, by omega, below_rd hb (grownBy_trans hg hg5)⟩
  · go_wp2_with fail
    refine (rd_term _ _ _ _ _ _ hok4 8 (by omega)).mono ?_
    rintro e w5 ⟨t, rfl, ht, hok5, hg5⟩
    go_wp2_with fail
    go_ret3
    exact ⟨_, _, _, rfl, by omega, by omega, below_rd hb (grownBy_trans hg hg5)⟩
/-- a text the other way round -/
def backS (s : ByteArray) : ByteArray := ⟨(bl s).reverse.toArray⟩
def backTo (s : ByteArray) (k : Nat) : ByteArray := ⟨((bl s).take k).reverse.toArray⟩
theorem backTo_all (s : ByteArray) : backTo s s.size = backS s := by unfold backTo backS; rw [List.take_of_length_le (by rw [bl_len]; exact Nat.le_refl _)]
theorem backTo_size (s : ByteArray) (k : Nat) (h : k ≤ s.size) : (backTo s k).size = k := by
  show (((bl s).take k).reverse.toArray).size = k
  simp [bl_len, h]
theorem backTo_succ (s : ByteArray) (k : Nat) (h : k < s.size) : s.extract k (k + 1) ++ backTo s k = backTo s (k + 1) := by
  rw [one_slice s k h]
  show ByteArray.mk _ ++ ByteArray.mk _ = ByteArray.mk _
  rw [ByteArray.mk_append_mk]
  congr 1
  rw [bl_take s k h, List.reverse_append]
  have e : byteAt s k = s[k] := by
    unfold byteAt
    rw [List.getD_eq_getElem?_getD, List.getElem?_eq_getElem (show k < s.data.toList.length by simpa using h)]
    rfl
  rw [e]; simp
end Go.Proofs.Ytpniiaemgobaiab

/-
  Plain facts: by how much texts differ: the one as the other, by way of a third, turned round, piece by piece.
-/
namespace Go.Proofs.Ytpniiaemgobaiab
open Go.RowKit
set_option linter.unusedVariables false
def fl (f : Bool) (s : ByteArray) : List UInt8 := if f then foldL (bl s) else bl s
theorem bl_foldIf (f : Bool) (s : ByteArray) : bl (foldIf f s) = fl f s := by
  cases f
  · rfl
  · show (foldL s.data.toList).toArray.toList = foldL s.data.toList; simp
theorem fl_len (f : Bool) (s : ByteArray) : (fl f s).length = s.size := by rw [← bl_foldIf, bl_len, foldIf_size]
theorem fl_back (f : Bool) (s : ByteArray) : fl f (backS s) = (fl f s).reverse := by
  have e : bl (backS s) = (bl s).reverse := by show (bl s).reverse.toArray.toList = _; simp
  unfold fl foldL
  rw [e]; cases f <;> simp
theorem bl_append (s t : ByteArray) : bl (s ++ t) = bl s ++ bl t := by
  show (s ++ t).data.toList = _
  simp [bl]
theorem fl_append (f : Bool) (s t : ByteArray) : fl f (s ++ t) = fl f s ++ fl f t := by
  unfold fl foldL; rw [bl_append]; cases f <;> simp
theorem bl_extract (s : ByteArray) (i j : Nat) : bl (s.extract i j) = ((bl s).take j).drop i := by
  show (s.extract i j).data.toList = _
  rw [ByteArray.data_extract, Array.toList_extract]
  simp [List.extract_eq_take_drop, List.drop_take]; rfl
theorem fl_extract (f : Bool) (s : ByteArray) (i j : Nat) : fl f (s.extract i j) = ((fl f s).take j).drop i := by
  unfold fl foldL; rw [bl_extract]; cases f <;> simp [List.map_drop, List.map_take]
theorem distI_ed {s r : ByteArray} {f : Bool} (hs : s.size ≤ 200) (hr : r.size ≤ 200) : distI s r f = (ed (fl f s) (fl f r) : Nat) := by
  rw [distI_yes ⟨hs, hr⟩, colAt_ed _ _ _ _ (by rw [foldIf_size]; exact Nat.le_refl _) (by rw [foldIf_size]; exact Nat.le_refl _), bl_foldIf, bl_foldIf, List.take_of_length_le (by rw [fl_len]; exact Nat.le_refl _), List.take_of_length_le (by rw [fl_len]; exact Nat.le_refl _)]
theorem alikeS_fl (s r : ByteArray) (f : Bool) : alikeS s r f = (fl f s == fl f r) := by
  unfold alikeS fl; cases f <;> rfl
theorem backS_size (s : ByteArray) : (backS s).size = s.size := by rw [← backTo_all, backTo_size _ _ (Nat.le_refl _)]
theorem dist_symm (s r : ByteArray) (f : Bool) : distI r s f = distI s r f := by
  by_cases h : s.size ≤ 200 ∧ r.size ≤ 200
  · rw [distI_ed h.1 h.2, distI_ed h.2 h.1, ed_symm]
  · rw [distI_no h, distI_no fun e => h ⟨e.2, e.1⟩]
theorem dist_self (s : ByteArray) (f : Bool) (hs : s.size ≤ 200) : distI s s f = 0 := by rw [distI_ed hs hs, ed_self]; rfl
theorem dist_back (s r : ByteArray) (f : Bool) (hs : s.size ≤ 200) (hr : r.size ≤ 200) : distI (backS s) (backS r) f = distI s r f := by
  rw [distI_ed hs hr, distI_ed (by rw [backS_size]; exact hs) (by rw [backS_size]; exact hr), fl_back, fl_back, ed_rev]
theorem dist_tri (s c r : ByteArray) (f : Bool) (hs : s.size ≤ 200) (hc : c.size ≤ 200) (hr : r.size ≤ 200) : distI s r f ≤ distI s c f + distI c r f := by
  rw [distI_ed hs hr, distI_ed hs hc, distI_ed hc hr]
  have := ed_tri (fl f s) (fl f c) (fl f r)
  omega
theorem dist_zero (s r : ByteArray) (f : Bool) (hs : s.size ≤ 200) (hr : r.size ≤ 200) : (distI s r f == 0) = alikeS s r f := by
  rw [distI_ed hs hr, alikeS_fl]
  by_cases h : fl f s = fl f r
  · rw [h, ed_self]; simp
  · have h2 : ¬ ed (fl f s) (fl f r) = 0 := fun e => h (ed_zero _ _ e)
    have h3 : ¬ ((ed (fl f s) (fl f r) : Nat) : Int) = 0 := by omega
    rw [Bool.eq_iff_iff]; simp only [beq_iff_eq]
    exact ⟨fun e => absurd e h3, fun e => absurd e h⟩
theorem dist_bnd (s r : ByteArray) (f : Bool) (hs : s.size ≤ 200) (hr : r.size ≤ 200) : (s.size : Int) - r.size ≤ distI s r f ∧ 0 ≤ distI s r f ∧ (distI s r f ≤ s.size ∨ distI s r f ≤ r.size) := by
  rw [distI_ed hs hr]
  have h := ed_len (fl f s) (fl f r)
  rw [fl_len, fl_len] at h
  omega
theorem dist_pieces (s r : ByteArray) (f : Bool) (i j : Nat) (hi : i ≤ s.size) (hj : j ≤ r.size) (hs : s.size ≤ 200) (hr : r.size ≤ 200) :
    distI s r f ≤ distI (s.extract 0 i) (r.extract 0 j) f + distI (s.extract i s.size) (r.extract j r.size) f := by
  have z1 : (s.extract 0 i).size ≤ 200 := by rw [ByteArray.size_extract]; omega
  have z2 : (r.extract 0 j).size ≤ 200 := by rw [ByteArray.size_extract]; omega
  have z3 : (s.extract i s.size).size ≤ 200 := by rw [ByteArray.size_extract]; omega
  have z4 : (r.extract j r.size).size ≤ 200 := by rw [ByteArray.size_extract]; omega
  rw [distI_ed hs hr, distI_ed z1 z2, distI_ed z3 z4, fl_extract, fl_extract, fl_extract, fl_extract]
  have e1 : (fl f s).take s.size = fl f s := List.take_of_length_le (by rw [fl_len]; exact Nat.le_refl _)
  have e2 : (fl f r).take r.size = fl f r := List.take_of_length_le (by rw [fl_len]; exact Nat.le_refl _)
  rw [e1, e2, List.drop_zero, List.drop_zero]
  have := ed_prepend ((fl f s).drop i) ((fl f r).drop j) ((fl f s).take i) ((fl f r).take j)
  rw [List.take_append_drop, List.take_append_drop] at this
  omega
theorem dist_last (s r q : ByteArray) (f : Bool) (hq : q.size = 1) (hs : s.size ≤ 100) (hr : r.size ≤ 100) : distI (s ++ q) (r ++ q) f = distI s r f := by
  have z1 : (s ++ q).size ≤ 200 := by rw [ByteArray.size_append]; omega
  have z2 : (r ++ q).size ≤ 200 := by rw [ByteArray.size_append]; omega
  rw [distI_ed z1 z2, distI_ed (by omega) (by omega), fl_append, fl_append]
  have hl : (fl f q).length = 1 := by rw [fl_len, hq]
  match h : fl f q, hl with
  | [x], _ => rw [ed_same_last]
theorem dist_head (s r q : ByteArray) (f : Bool) (hq : q.size = 1) (hs : s.size ≤ 100) (hr : r.size ≤ 100) : distI (q ++ s) (q ++ r) f = distI s r f := by
  have z1 : (q ++ s).size ≤ 200 := by rw [ByteArray.size_append]; omega
  have z2 : (q ++ r).size ≤ 200 := by rw [ByteArray.size_append]; omega
  rw [distI_ed z1 z2, distI_ed (by omega) (by omega), fl_append, fl_append]
  have hl : (fl f q).length = 1 := by rw [fl_len, hq]
  match h : fl f q, hl with
  | [x], _ => rw [List.singleton_append, List.singleton_append, ed_same_head]
end Go.Proofs.Ytpniiaemgobaiab

/-
  Plain facts of chapter 16: pieces of texts: how many can be paired, over whatever list of them; that texts which differ by k have all but q k in common; lists in order.
-/
namespace Go.Proofs.Ytpniiaemgobaiab
open Go.RowKit
set_option linter.unusedVariables false
/-- how many of both lists can be paired, counted over the things of U -/
def pairU (U A B : List (List UInt8)) : Nat := (U.map fun u => min (A.count u) (B.count u)).sum
theorem pairU_nil (A B : List (List UInt8)) : pairU [] A B = 0 := rfl
theorem pairU_cons (u : List UInt8) (U A B : List (List UInt8)) : pairU (u :: U) A B = min (A.count u) (B.count u) + pairU U A B := by
  simp [pairU]
theorem pairU_symm (U A B : List (List UInt8)) : pairU U A B = pairU U B A := by
  induction U with
  | nil => rfl
  | cons u U ih => rw [pairU_cons, pairU_cons, ih, Nat.min_comm]
theorem pairU_mono {U A B A' B' : List (List UInt8)} (h1 : ∀ u, A.count u ≤ A'.count u) (h2 : ∀ u, B.count u ≤ B'.count u) : pairU U A B ≤ pairU U A' B' := by
  induction U with
  | nil => exact Nat.le_refl _
  | cons u U ih => rw [pairU_cons, pairU_cons]; have := h1 u; have := h2 u; omega
theorem pairU_congr {U A B A' B' : List (List UInt8)} (h1 : ∀ u, A.count u = A'.count u) (h2 : ∀ u, B.count u = B'.count u) : pairU U A B = pairU U A' B' := by
  induction U with
  | nil => rfl
  | cons u U ih => rw [pairU_cons, pairU_cons, h1, h2, ih]
/-- of a thing that U has not nothing turns -/
theorem pairU_out {U : List (List UInt8)} {x : List UInt8} (h : x ∉ U) (A B : List (List UInt8)) : pairU U (x :: A) (x :: B) = pairU U A B := by
  induction U with
  | nil => rfl
  | cons u U ih =>
    have h1 : ¬ x = u := fun e => h (by rw [e]; exact List.mem_cons_self)
    have h2 : x ∉ U := fun e => h (List.mem_cons_of_mem _ e)
    rw [pairU_cons, pairU_cons, ih h2, List.count_cons_of_ne h1, List.count_cons_of_ne h1]
/-- one that both have more is a pair more -/
theorem pairU_both {U : List (List UInt8)} {x : List UInt8} (hn : U.Nodup) (h : x ∈ U) (A B : List (List UInt8)) : pairU U (x :: A) (x :: B) = pairU U A B + 1 := by
  induction U with
  | nil => cases h
  | cons u U ih =>
    rw [List.nodup_cons] at hn
    rw [pairU_cons, pairU_cons]
    by_cases e : x = u
    · subst e
      rw [pairU_out hn.1, List.count_cons_self, List.count_cons_self]; omega
    · rw [List.count_cons_of_ne e, List.count_cons_of_ne e]
      rcases List.mem_cons.1 h with h2 | h2
      · exact absurd h2 e
      · rw [ih hn.2 h2]; omega
/-- one that the other has not makes no pair -/
theorem pairU_left {U : List (List UInt8)} {x : List UInt8} {B : List (List UInt8)} (h : x ∉ B) (A : List (List UInt8)) : pairU U (x :: A) B = pairU U A B := by
  induction U with
  | nil => rfl
  | cons u U ih =>
    rw [pairU_cons, pairU_cons, ih]
    by_cases e : x = u
    · subst e
      rw [List.count_eq_zero_of_not_mem h]; omega
    · rw [List.count_cons_of_ne e]
theorem pairU_le_left {U : List (List UInt8)} (hn : U.Nodup) : ∀ A B, pairU U A B ≤ A.length := by
  intro A
  induction A with
  | nil =>
    intro B
    induction U with
    | nil => exact Nat.le_refl _
    | cons u U ih => rw [List.nodup_cons] at hn; rw [pairU_cons]; have := ih hn.2; simp at *; omega
  | cons x A ih =>
    intro B
    by_cases h : x ∈ U
    · have h1 : pairU U (x :: A) B ≤ pairU U (x :: A) (x :: B) := pairU_mono (fun _ => Nat.le_refl _) (fun u => List.count_le_count_cons)
      rw [pairU_both hn h] at h1
      have := ih B
      simp only [List.length_cons]; omega
    · have h1 : pairU U (x :: A) B ≤ pairU U (x :: A) (x :: B) := pairU_mono (fun _ => Nat.le_refl _) (fun u => List.count_le_count_cons)
      rw [pairU_out h] at h1
      have := ih B
      simp only [List.length_cons]; omega
theorem count_one {x : List UInt8} {U : List (List UInt8)} (hn : U.Nodup) (h : x ∈ U) : U.count x = 1 := by
  have h1 := List.nodup_iff_count.1 hn x
  have h2 := List.count_pos_iff.2 h
  omega
/-- over whatever things, as long as they are all of one list, each once -/
theorem pairU_any {A B U V : List (List UInt8)} (hU : U.Nodup) (hV : V.Nodup) (h1 : ∀ x, x ∈ A → x ∈ U) (h2 : ∀ x, x ∈ A → x ∈ V) : pairU U A B = pairU V A B := by
  have key : ∀ W : List (List UInt8), pairU W A B = pairU (W.filter fun x => decide (x ∈ A)) A B := by
    intro W
    induction W with
    | nil => rfl
    | cons w W ih =>
      rw [pairU_cons, ih]
      by_cases h : w ∈ A
      · rw [List.filter_cons_of_pos (by simpa using h), pairU_cons]
      · rw [List.filter_cons_of_neg (by simpa using h), List.count_eq_zero_of_not_mem h]; omega
  rw [key U, key V]
  have hp : (U.filter fun x => decide (x ∈ A)).Perm (V.filter fun x => decide (x ∈ A)) := by
    rw [List.perm_iff_count]
    intro a
    by_cases ha : a ∈ A
    · rw [List.count_filter (by simpa using ha), List.count_filter (by simpa using ha), count_one hU (h1 a ha), count_one hV (h2 a ha)]
    · rw [List.count_eq_zero_of_not_mem, List.count_eq_zero_of_not_mem] <;> simp [ha]
  unfold pairU
  exact (hp.map _).sum_nat
/-- each thing of a list once -/
def uniqL : List (List UInt8) → List (List UInt8)
  | [] => []
  | x :: l => if x ∈ uniqL l then uniqL l else x :: uniqL l
theorem mem_uniqL (x : List UInt8) (l : List (List UInt8)) : x ∈ uniqL l ↔ x ∈ l := by
  induction l with
  | nil => rfl
  | cons y l ih =>
    rw [uniqL]
    by_cases h : y ∈ uniqL l
    · rw [if_pos h, ih, List.mem_cons]
      constructor
      · exact .inr
      · rintro (e | e)
        · subst e; exact ih.1 h
        · exact e
    · rw [if_neg h, List.mem_cons, ih, List.mem_cons]
theorem nodup_uniqL (l : List (List UInt8)) : (uniqL l).Nodup := by
  induction l with
  | nil => exact List.nodup_nil
  | cons y l ih =>
    rw [uniqL]
    by_cases h : y ∈ uniqL l
    · rw [if_pos h]; exact ih
    · rw [if_neg h]; exact List.nodup_cons.2 ⟨h, ih⟩
/-- how many of both lists can be paired -/
def pairN (A B : List (List UInt8)) : Nat := pairU (uniqL (A ++ B)) A B
theorem pairN_eq {U A B : List (List UInt8)} (hU : U.Nodup) (h : ∀ x, x ∈ A → x ∈ U) : pairU U A B = pairN A B :=
  pairU_any hU (nodup_uniqL _) h fun x hx => (mem_uniqL _ _).2 (List.mem_append.2 (.inl hx))
theorem pairN_symm (A B : List (List UInt8)) : pairN A B = pairN B A := by
  unfold pairN
  rw [pairU_symm]
  exact pairU_any (nodup_uniqL _) (nodup_uniqL _) (fun x hx => (mem_uniqL _ _).2 (List.mem_append.2 (.inr hx))) fun x hx => (mem_uniqL _ _).2 (List.mem_append.2 (.inl hx))
theorem pairN_both (x : List UInt8) (A B : List (List UInt8)) : pairN (x :: A) (x :: B) = pairN A B + 1 := by
  have hm : x ∈ uniqL (x :: A ++ x :: B) := (mem_uniqL _ _).2 (by simp)
  have h1 : ∀ y, y ∈ A → y ∈ uniqL (x :: A ++ x :: B) := fun y hy => (mem_uniqL _ _).2 (by simp [hy])
  unfold pairN
  rw [pairU_both (nodup_uniqL _) hm, pairN_eq (nodup_uniqL _) h1]; rfl
theorem pairN_left {x : List UInt8} {B : List (List UInt8)} (h : x ∉ B) (A : List (List UInt8)) : pairN (x :: A) B = pairN A B := by
  have h1 : ∀ y, y ∈ A → y ∈ uniqL (x :: A ++ B) := fun y hy => (mem_uniqL _ _).2 (by simp [hy])
  unfold pairN
  rw [pairU_left h, pairN_eq (nodup_uniqL _) h1]; rfl
theorem pairN_right {y : List UInt8} {A : List (List UInt8)} (h : y ∉ A) (B : List (List UInt8)) : pairN A (y :: B) = pairN A B := by
  rw [pairN_symm, pairN_left h, pairN_symm]
theorem pairN_more (x : List UInt8) (A B : List (List UInt8)) : pairN A B ≤ pairN (x :: A) B := by
  have h1 : ∀ y, y ∈ A → y ∈ uniqL (x :: A ++ B) := fun y hy => (mem_uniqL _ _).2 (by simp [hy])
  rw [← pairN_eq (nodup_uniqL _) h1]
  exact pairU_mono (fun u => List.count_le_count_cons) (fun _ => Nat.le_refl _)
theorem pairN_more' (y : List UInt8) (A B : List (List UInt8)) : pairN A B ≤ pairN A (y :: B) := by
  rw [pairN_symm A B, pairN_symm A (y :: B)]; exact pairN_more _ _ _
theorem pairN_congr {A B A' B' : List (List UInt8)} (h1 : ∀ u, A.count u = A'.count u) (h2 : ∀ u, B.count u = B'.count u) : pairN A B = pairN A' B' := by
  have e : ∀ y, y ∈ A' → y ∈ uniqL (A ++ B) := fun y hy => (mem_uniqL _ _).2 (List.mem_append.2 (.inl (List.count_pos_iff.1 (by rw [h1]; exact List.count_pos_iff.2 hy))))
  rw [← pairN_eq (A := A') (B := B') (nodup_uniqL _) e]
  exact pairU_congr h1 h2
theorem pairN_le (A B : List (List UInt8)) : pairN A B ≤ A.length := pairU_le_left (nodup_uniqL _) A B
theorem pairN_nil (B : List (List UInt8)) : pairN [] B = 0 := Nat.le_zero.1 (pairN_le [] B)
theorem pairN_nil' (A : List (List UInt8)) : pairN A [] = 0 := by rw [pairN_symm]; exact pairN_nil A
theorem pairN_self (A : List (List UInt8)) : pairN A A = A.length := by
  induction A with
  | nil => rfl
  | cons x A ih => rw [pairN_both, ih]; rfl
/-- the pieces of q bytes, from the first one on -/
def gramsL (q : Nat) : List UInt8 → List (List UInt8)
  | [] => []
  | x :: a => if q ≤ a.length + 1 then (x :: a).take q :: gramsL q a else []
theorem gramsL_len {q : Nat} (hq : 1 ≤ q) (l : List UInt8) : (gramsL q l).length = l.length + 1 - q := by
  induction l with
  | nil => rw [gramsL]; simp; omega
  | cons x a ih =>
    rw [gramsL]
    by_cases h : q ≤ a.length + 1
    · rw [if_pos h, List.length_cons, ih, List.length_cons]; omega
    · rw [if_neg h]; simp only [List.length_nil, List.length_cons]; omega
theorem gramsL_short {q : Nat} {l : List UInt8} (hq : 1 ≤ q) (h : l.length < q) : gramsL q l = [] := by
  apply List.eq_nil_of_length_eq_zero
  rw [gramsL_len hq]; omega
theorem gramsL_cons_len {q : Nat} (hq : 1 ≤ q) (x : UInt8) (a : List UInt8) : (gramsL q (x :: a)).length ≤ (gramsL q a).length + 1 := by
  rw [gramsL_len hq, gramsL_len hq, List.length_cons]; omega
theorem gramsL_more {q : Nat} (hq : 1 ≤ q) (x : UInt8) (a : List UInt8) (B : List (List UInt8)) : pairN (gramsL q a) B ≤ pairN (gramsL q (x :: a)) B := by
  rw [gramsL]
  by_cases h : q ≤ a.length + 1
  · rw [if_pos h]; exact pairN_more _ _ _
  · rw [gramsL_short hq (by omega), pairN_nil]; exact Nat.zero_le _
theorem gramsL_more' {q : Nat} (hq : 1 ≤ q) (y : UInt8) (b : List UInt8) (A : List (List UInt8)) : pairN A (gramsL q b) ≤ pairN A (gramsL q (y :: b)) := by
  rw [pairN_symm A, pairN_symm A]; exact gramsL_more hq y b A
/-- texts that differ by k: so many pieces are in both; and what the last fault has spoilt so far -/
def Spoilt (q : Nat) (a b : List UInt8) : Prop :=
  (ed a b = 0 → a = b) ∧ (1 ≤ ed a b → ∃ r, r ≤ a.length ∧ r ≤ b.length ∧ a.take r = b.take r ∧ (gramsL q a).length + (q - 1 - r) ≤ pairN (gramsL q a) (gramsL q b) + q * ed a b)
theorem Spoilt.weak {q : Nat} {a b : List UInt8} (h : Spoilt q a b) : (gramsL q a).length ≤ pairN (gramsL q a) (gramsL q b) + q * ed a b := by
  by_cases h0 : ed a b = 0
  · have := h.1 h0
    subst this
    rw [pairN_self]; omega
  · obtain ⟨r, _, _, _, h4⟩ := h.2 (by omega)
    omega
theorem spoilt_of {q : Nat} {a b : List UInt8} {k : Nat} (hk : ed a b = k + 1) (h : (gramsL q a).length + (q - 1) ≤ pairN (gramsL q a) (gramsL q b) + (q * k + q)) : Spoilt q a b := by
  refine ⟨fun h0 => by omega, fun _ => ⟨0, Nat.zero_le _, Nat.zero_le _, by simp, ?_⟩⟩
  rw [hk, Nat.mul_add, Nat.mul_one]
  exact h
theorem spoilt {q : Nat} (hq : 1 ≤ q) : ∀ a b, Spoilt q a b := by
  refine two_lists (fun b => ?_) (fun a => ?_) fun x y a b h1 h2 h3 => ?_
  · cases b with
    | nil => exact ⟨fun _ => rfl, fun h => by rw [ed_nil] at h; simp at h⟩
    | cons y b =>
      refine spoilt_of (k := b.length) (by rw [ed_nil]; rfl) ?_
      rw [gramsL]
      simp only [List.length_nil]; omega
  · cases a with
    | nil => exact ⟨fun _ => rfl, fun h => by rw [ed_nil] at h; simp at h⟩
    | cons x a =>
      refine spoilt_of (k := a.length) (by rw [ed_nil']; rfl) ?_
      rw [gramsL_len hq, List.length_cons]
      have h : a.length ≤ q * a.length := Nat.le_mul_of_pos_left _ hq
      omega
  · rcases ed_cases x y a b with e | e | e
    · by_cases hxy : x = y
      · subst hxy
        rw [df_self, Nat.add_zero] at e
        refine ⟨fun h0 => by rw [h1.1 (by omega)], fun hk => ?_⟩
        obtain ⟨r, r1, r2, r3, r4⟩ := h1.2 (by omega)
        rw [e]
        refine ⟨r + 1, by simp; omega, by simp; omega, by simp [r3], ?_⟩
        by_cases hr : q ≤ r + 1
        · have ht : (x :: a).take q = (x :: b).take q := by
            obtain ⟨q', rfl⟩ : ∃ q', q = q' + 1 := ⟨q - 1, by omega⟩
            rw [List.take_succ_cons, List.take_succ_cons]
            congr 1
            have := congrArg (List.take q') r3
            rw [List.take_take, List.take_take] at this
            rwa [Nat.min_eq_left (by omega)] at this
          have ga : gramsL q (x :: a) = (x :: a).take q :: gramsL q a := by rw [gramsL, if_pos (by omega)]
          have gb : gramsL q (x :: b) = (x :: a).take q :: gramsL q b := by rw [gramsL, if_pos (by omega), ht]
          rw [ga, gb, pairN_both, List.length_cons]
          omega
        · have l1 := gramsL_cons_len hq x a
          have l2 := gramsL_more hq x a (gramsL q b)
          have l3 := gramsL_more' hq x b (gramsL q (x :: a))
          omega
      · rw [df_ne hxy] at e
        have l1 := gramsL_cons_len hq x a
        have l2 := gramsL_more hq x a (gramsL q b)
        have l3 := gramsL_more' hq y b (gramsL q (x :: a))
        have l4 := h1.weak
        exact spoilt_of e (by omega)
    · have l1 := gramsL_cons_len hq x a
      have l2 := gramsL_more hq x a (gramsL q (y :: b))
      have l4 := h2.weak
      exact spoilt_of e (by omega)
    · have l3 := gramsL_more' hq y b (gramsL q (x :: a))
      have l4 := h3.weak
      exact spoilt_of e (by omega)
/-- texts that differ by k have all pieces of the first one in common but q for each fault -/
theorem grams_left {q : Nat} (hq : 1 ≤ q) (a b : List UInt8) : (gramsL q a).length ≤ pairN (gramsL q a) (gramsL q b) + q * ed a b := (spoilt hq a b).weak
theorem grams_right {q : Nat} (hq : 1 ≤ q) (a b : List UInt8) : (gramsL q b).length ≤ pairN (gramsL q a) (gramsL q b) + q * ed a b := by
  rw [pairN_symm, ed_symm]; exact grams_left hq b a
theorem bl_irrefl (a : List UInt8) : ¬ a < a := List.lt_irrefl a
theorem bl_trans {a b c : List UInt8} (h1 : a < b) (h2 : b < c) : a < c := List.lt_trans h1 h2
theorem bl_asymm {a b : List UInt8} (h : a < b) : ¬ b < a := fun h2 => bl_irrefl a (bl_trans h h2)
theorem bl_tri {a b : List UInt8} (h1 : ¬ a < b) (h2 : ¬ b < a) : a = b := List.le_antisymm (List.not_lt.1 h2) (List.not_lt.1 h1)
theorem bl_le_lt {a b c : List UInt8} (h1 : ¬ b < a) (h2 : b < c) : a < c := by
  by_cases h : a < c
  · exact h
  · exfalso
    by_cases h3 : c < a
    · exact h1 (bl_trans h2 h3)
    · exact h1 (bl_tri h h3 ▸ h2)
/-- texts that do not fall -/
def UpL : List (List UInt8) → Prop
  | [] => True
  | x :: l => (∀ y ∈ l, ¬ y < x) ∧ UpL l
/-- one text more, behind all that are not above it -/
def insL (x : List UInt8) : List (List UInt8) → List (List UInt8)
  | [] => [x]
  | y :: l => if x < y then x :: y :: l else y :: insL x l
theorem insL_count (x u : List UInt8) (l : List (List UInt8)) : (insL x l).count u = (x :: l).count u := by
  induction l with
  | nil => rfl
  | cons y l ih =>
    rw [insL]
    by_cases h : x < y
    · rw [if_pos h]
    · rw [if_neg h, List.count_cons, ih, List.count_cons, List.count_cons, List.count_cons]; omega
theorem insL_len (x : List UInt8) (l : List (List UInt8)) : (insL x l).length = l.length + 1 := by
  induction l with
  | nil => rfl
  | cons y l ih =>
    rw [insL]
    by_cases h : x < y
    · rw [if_pos h]; rfl
    · rw [if_neg h, List.length_cons, ih]; rfl
theorem mem_insL {x y : List UInt8} {l : List (List UInt8)} (h : y ∈ insL x l) : y = x ∨ y ∈ l := by
  have h1 := List.count_pos_iff.2 h
  rw [insL_count] at h1
  exact List.mem_cons.1 (List.count_pos_iff.1 h1)
theorem insL_up {x : List UInt8} {l : List (List UInt8)} (h : UpL l) : UpL (insL x l) := by
  induction l with
  | nil => exact ⟨fun _ hy => (by cases hy), trivial⟩
  | cons y l ih =>
    rw [insL]
    by_cases hx : x < y
    · rw [if_pos hx]
      refine ⟨fun z hz => ?_, h⟩
      rcases List.mem_cons.1 hz with e | e
      · rw [e]; exact bl_asymm hx
      · intro hzx; exact h.1 z e (bl_trans hzx hx)
    · rw [if_neg hx]
      refine ⟨fun z hz => ?_, ih h.2⟩
      rcases mem_insL hz with e | e
      · rw [e]; exact hx
      · exact h.1 z e
/-- all texts put in one by one -/
def sortL : List (List UInt8) → List (List UInt8) → List (List UInt8)
  | out, [] => out
  | out, x :: l => sortL (insL x out) l
theorem sortL_up : ∀ (l out : List (List UInt8)), UpL out → UpL (sortL out l)
  | [], _, h => h
  | _ :: l, _, h => sortL_up l _ (insL_up h)
theorem sortL_count (u : List UInt8) : ∀ (l out : List (List UInt8)), (sortL out l).count u = out.count u + l.count u
  | [], out => by rw [sortL]; simp
  | x :: l, out => by rw [sortL, sortL_count u l, insL_count, List.count_cons, List.count_cons]; omega
theorem sortL_len : ∀ (l out : List (List UInt8)), (sortL out l).length = out.length + l.length
  | [], out => by rw [sortL]; simp
  | x :: l, out => by rw [sortL, sortL_len l, insL_len, List.length_cons]; omega
/-- two lists in order, held against each other from the first ones on -/
def comL : List (List UInt8) → List (List UInt8) → Nat
  | [], _ => 0
  | _ :: _, [] => 0
  | x :: A, y :: B => if x < y then comL A (y :: B) else if y < x then comL (x :: A) B else comL A B + 1
termination_by A B => A.length + B.length
theorem comL_nil' (A : List (List UInt8)) : comL A [] = 0 := by cases A <;> rw [comL]
theorem comL_nil (B : List (List UInt8)) : comL [] B = 0 := by rw [comL]
theorem comL_pair : ∀ n A B, A.length + B.length ≤ n → UpL A → UpL B → comL A B = pairN A B := by
  intro n
  induction n with
  | zero =>
    intro A B h _ _
    rw [List.eq_nil_of_length_eq_zero (l := A) (by omega), comL_nil, pairN_nil]
  | succ n ih =>
    intro A B h hA hB
    match A, B, h, hA, hB with
    | [], B, _, _, _ => rw [comL_nil, pairN_nil]
    | x :: A, [], _, _, _ => rw [comL_nil', pairN_nil']
    | x :: A, y :: B, h, hA, hB =>
      simp only [List.length_cons] at h
      rw [comL]
      by_cases h1 : x < y
      · rw [if_pos h1, ih _ _ (by simp only [List.length_cons]; omega) hA.2 hB, pairN_left]
        intro hm
        rcases List.mem_cons.1 hm with e | e
        · subst e; exact bl_irrefl _ h1
        · exact hB.1 x e h1
      · rw [if_neg h1]
        by_cases h2 : y < x
        · rw [if_pos h2, ih _ _ (by simp only [List.length_cons]; omega) hA hB.2, pairN_right]
          intro hm
          rcases List.mem_cons.1 hm with e | e
          · subst e; exact bl_irrefl _ h2
          · exact hA.1 y e h2
        · have e := bl_tri h1 h2
          subst e
          rw [if_neg h2, pairN_both, ih _ _ (by omega) hA.2 hB.2]
end Go.Proofs.Ytpniiaemgobaiab

/-
  Slices of texts: as lists of lists of bytes; two texts held against each other; a text put into a list in order.
-/
namespace Go.Proofs.Ytpniiaemgobaiab
open Go.RowKit
set_option linter.unusedVariables false
def txt (x : List UInt8) : ByteArray := ⟨x.toArray⟩
theorem bl_txt (x : List UInt8) : bl (txt x) = x := by show x.toArray.toList = x; simp
theorem txt_bl (s : ByteArray) : txt (bl s) = s := by show ByteArray.mk s.data.toList.toArray = s; simp
theorem txt_size (x : List UInt8) : (txt x).size = x.length := by show x.toArray.size = _; simp
def strV (x : List UInt8) : Value := .string (txt x)
def strs (L : List (List UInt8)) : List Value := L.map strV
theorem strs_length (L : List (List UInt8)) : (strs L).length = L.length := by simp [strs]
theorem strs_one (L : List (List UInt8)) : ∀ u ∈ strs L, u.oneCell' = true := by
  intro u hu
  obtain ⟨x, _, rfl⟩ := List.mem_map.1 hu
  rfl
theorem strs_at {L : List (List UInt8)} {k : Nat} (h : k < L.length) : valAt (strs L) k = .string (txt (L.getD k [])) := by
  unfold valAt strs
  simp [List.getD_eq_getElem?_getD, h, strV]
theorem strs_append (A B : List (List UInt8)) : strs (A ++ B) = strs A ++ strs B := by simp [strs]
theorem toList_bl (s : ByteArray) : s.toList = bl s := ByteArray.toList_eq s
theorem strLt (A X : ByteArray) : Op.bytesLess A.toList X.toList = decide (bl A < bl X) := by
  rw [toList_bl, toList_bl]; exact bytesLess_eq _ _
theorem strEq (A X : ByteArray) : (A.toList == X.toList) = decide (bl A = bl X) := by
  rw [toList_bl, toList_bl]
  by_cases h : bl A = bl X
  · rw [decide_eq_true h]; simpa using h
  · rw [decide_eq_false h]; simpa using h
/-- where a text is put in -/
theorem insL_split (x : List UInt8) : ∀ (L : List (List UInt8)) (k : Nat), k ≤ L.length → (∀ j, j < k → ¬ x < L.getD j []) → (k = L.length ∨ x < L.getD k []) → insL x L = L.take k ++ x :: L.drop k
  | [], k, h, _, _ => by
    have : k = 0 := by simpa using h
    subst this; rfl
  | y :: L, 0, _, _, h2 => by
    rcases h2 with h2 | h2
    · simp at h2
    · rw [insL, if_pos (by simpa using h2)]; rfl
  | y :: L, k + 1, h, h1, h2 => by
    have h0 : ¬ x < y := by simpa using h1 0 (by omega)
    rw [insL, if_neg h0, insL_split x L k (by simpa using h) (fun j hj => by simpa using h1 (j + 1) (by omega)) (by
      rcases h2 with h2 | h2
      · exact .inl (by simpa using h2)
      · exact .inr (by simpa using h2))]
    rfl
theorem OwnV.cap_le {e m : Nat} {w : World} {B g n cap : Nat} {V : List Value} (h : OwnV e m w B (some ⟨g, 0, none⟩) n cap V) : n ≤ cap := by
  rcases h.2.2 with ⟨hv, _⟩ | ⟨g', c, cur, hv, _, _, hnc, _⟩
  · cases hv
  · simp only [Value.slice.injEq] at hv
    rw [hv.2.2]; exact hnc
theorem OwnV.part {e m : Nat} {w : World} {B g n cap : Nat} {V : List Value} (h : OwnV e m w B (some ⟨g, 0, none⟩) n cap V) (s t : Nat) : ∀ j u, ((V.drop s).take t)[j]? = some u → w.cell? ((⟨g, s, none⟩ : Addr).add j) = some u := by
  intro j u hj
  rw [List.getElem?_take] at hj
  split at hj
  · rw [List.getElem?_drop] at hj
    obtain ⟨hl, he⟩ := List.getElem?_eq_some_iff.1 hj
    have := h.cell (s + j) (by rw [← h.len]; exact hl)
    rw [Addr.add_lit, this]
    unfold valAt
    rw [List.getD_eq_getElem?_getD, List.getElem?_eq_getElem hl, he]; rfl
  · cases hj
/-- the piece of q bytes at place j -/
def gramAt (q : Nat) (l : List UInt8) (j : Nat) : List UInt8 := (l.drop j).take q
def gramsTo (q : Nat) (l : List UInt8) (m : Nat) : List (List UInt8) := (List.range m).map (gramAt q l)
theorem gramsTo_succ (q : Nat) (l : List UInt8) (m : Nat) : gramsTo q l (m + 1) = gramsTo q l m ++ [gramAt q l m] := by simp [gramsTo, List.range_succ]
theorem gramsTo_length (q : Nat) (l : List UInt8) (m : Nat) : (gramsTo q l m).length = m := by simp [gramsTo]
theorem gramsTo_cons (q : Nat) (x : UInt8) (l : List UInt8) (m : Nat) : gramsTo q (x :: l) (m + 1) = (x :: l).take q :: gramsTo q l m := by
  unfold gramsTo
  rw [List.range_succ_eq_map, List.map_cons, List.map_map]
  rfl
theorem gramsTo_all {q : Nat} (hq : 1 ≤ q) (l : List UInt8) : gramsTo q l (l.length + 1 - q) = gramsL q l := by
  induction l with
  | nil => rw [gramsL, show ([] : List UInt8).length + 1 - q = 0 by simp; omega]; rfl
  | cons x l ih =>
    rw [gramsL]
    by_cases h : q ≤ l.length + 1
    · rw [if_pos h, List.length_cons, show l.length + 1 + 1 - q = (l.length + 1 - q) + 1 by omega, gramsTo_cons, ih]
    · rw [if_neg h, List.length_cons, show l.length + 1 + 1 - q = 0 by omega]; rfl
theorem gramAt_extract (s : ByteArray) (q j : Nat) : bl (s.extract j (j + q)) = gramAt q (bl s) j := by
  rw [bl_extract]
  unfold gramAt
  rw [List.drop_take, show j + q - j = q by omega]
theorem gramAt_len {q : Nat} {l : List UInt8} {j : Nat} (h : j + q ≤ l.length) : (gramAt q l j).length = q := by
  unfold gramAt; rw [List.length_take, List.length_drop]; omega
/-- the first m pieces, put in one by one -/
def sortTo (q : Nat) (l : List UInt8) : Nat → List (List UInt8)
  | 0 => []
  | m + 1 => insL (gramAt q l m) (sortTo q l m)
theorem sortTo_length (q : Nat) (l : List UInt8) (m : Nat) : (sortTo q l m).length = m := by
  induction m with
  | zero => rfl
  | succ m ih => rw [sortTo, insL_len, ih]
theorem sortTo_up (q : Nat) (l : List UInt8) (m : Nat) : UpL (sortTo q l m) := by
  induction m with
  | zero => trivial
  | succ m ih => exact insL_up ih
theorem sortTo_count (q : Nat) (l : List UInt8) (m : Nat) (u : List UInt8) : (sortTo q l m).count u = (gramsTo q l m).count u := by
  induction m with
  | zero => rfl
  | succ m ih => rw [sortTo, insL_count, List.count_cons, ih, gramsTo_succ, List.count_append, List.count_singleton]
/-- all pieces in order -/
def gramsS (q : Nat) (s : ByteArray) : List (List UInt8) := sortTo q (bl s) (s.size + 1 - q)
theorem gramsS_count {q : Nat} (hq : 1 ≤ q) (s : ByteArray) (u : List UInt8) : (gramsS q s).count u = (gramsL q (bl s)).count u := by
  unfold gramsS
  rw [sortTo_count, ← bl_len, gramsTo_all hq]
theorem gramsS_length (q : Nat) (s : ByteArray) : (gramsS q s).length = s.size + 1 - q := sortTo_length _ _ _
theorem gramsS_up (q : Nat) (s : ByteArray) : UpL (gramsS q s) := sortTo_up _ _ _
def comN (q : Nat) (s t : ByteArray) : Nat := pairN (gramsL q (bl s)) (gramsL q (bl t))
theorem comL_gramsS {q : Nat} (hq : 1 ≤ q) (s t : ByteArray) : comL (gramsS q s) (gramsS q t) = comN q s t := by
  rw [comL_pair _ _ _ (Nat.le_refl _) (gramsS_up q s) (gramsS_up q t)]
  exact pairN_congr (gramsS_count hq s) (gramsS_count hq t)
end Go.Proofs.Ytpniiaemgobaiab

/-
  Chapter 15: a tree of words as a list: a node's word, its distance from the one above, that one's place (plain).
-/
namespace Go.Proofs.Ytpniiaemgobaiab
open Go.RowKit
set_option linter.unusedVariables false
structure BkN where
  t : ByteArray
  d : Int
  u : Int
def bkAt (T : List BkN) (i : Nat) : BkN := T.getD i ⟨⟨#[]⟩, 0, 0⟩
def bkC (b : BkN) : List Value := [.string b.t, .int .i64 b.d, .int .i64 b.u]
def bks : List BkN → List Value
  | [] => []
  | b :: T => bkC b ++ bks T
theorem bks_length (T : List BkN) : (bks T).length = T.length * 3 := by
  induction T with
  | nil => rfl
  | cons b T ih => rw [bks, List.length_append, ih, List.length_cons]; simp [bkC]; omega
theorem bks_append (T U : List BkN) : bks (T ++ U) = bks T ++ bks U := by
  induction T with
  | nil => rfl
  | cons b T ih => rw [List.cons_append, bks, bks, ih, List.append_assoc]
theorem bks_one (b : BkN) : bks [b] = bkC b := by simp [bks]
theorem bks_cell (T : List BkN) : ∀ v ∈ bks T, v.oneCell' = true := by
  induction T with
  | nil => intro v hv; cases hv
  | cons b T ih =>
    intro v hv
    rw [bks, List.mem_append] at hv
    rcases hv with hv | hv
    · simp [bkC] at hv
      rcases hv with rfl | rfl | rfl <;> rfl
    · exact ih v hv
theorem bks_at (T : List BkN) : ∀ i, i < T.length → valAt (bks T) (i * 3) = .string (bkAt T i).t ∧ valAt (bks T) (i * 3 + 1) = .int .i64 (bkAt T i).d ∧ valAt (bks T) (i * 3 + 2) = .int .i64 (bkAt T i).u := by
  induction T with
  | nil => intro i h; simp at h
  | cons b T ih =>
    intro i h
    cases i with
    | zero => exact ⟨rfl, rfl, rfl⟩
    | succ i =>
      obtain ⟨h1, h2, h3⟩ := ih i (by simpa using h)
      have e : ∀ j, valAt (bks (b :: T)) (j + 3) = valAt (bks T) j := fun j => by
        unfold valAt
        rw [bks, List.getD_eq_getElem?_getD, List.getD_eq_getElem?_getD, List.getElem?_append_right (by simp [bkC])]
        simp [bkC]
      have e2 : bkAt (b :: T) (i + 1) = bkAt T i := by simp [bkAt]
      rw [e2, ← h1, ← h2, ← h3, ← e, ← e, ← e]
      exact ⟨by congr 1; omega, by congr 1; omega, by congr 1; omega⟩
/-- the first node from place i on that stands under a place at a distance -/
def kidB (T : List BkN) (up : Nat) (d : Int) : Nat → Nat → Option Nat
  | 0, _ => none
  | f + 1, i => if (bkAt T i).u = (up : Int) ∧ (bkAt T i).d = d then some i else kidB T up d f (i + 1)
theorem kidB_lt {T : List BkN} {up : Nat} {d : Int} : ∀ {f i k : Nat}, kidB T up d f i = some k → i ≤ k ∧ k < i + f ∧ (bkAt T k).u = (up : Int) ∧ (bkAt T k).d = d
  | 0, _, _, h => by cases h
  | f + 1, i, k, h => by
    rw [kidB] at h
    split at h
    · rename_i h2
      injection h with h
      subst h
      exact ⟨Nat.le_refl _, by omega, h2⟩
    · obtain ⟨h1, h3, h4⟩ := kidB_lt h
      exact ⟨by omega, by omega, h4⟩
/-- where a word is to stand: its place above and its distance; none: it is there -/
def goB (T : List BkN) (w : ByteArray) : Nat → Nat → Option (Nat × Int)
  | 0, _ => none
  | f + 1, p => if distI (bkAt T p).t w false = 0 then none else match kidB T p (distI (bkAt T p).t w false) (T.length - 1) 1 with
    | none => some (p, distI (bkAt T p).t w false)
    | some k => goB T w f k
def addB (T : List BkN) (w : ByteArray) : List BkN := if T = [] then [⟨w, 0, 0⟩] else match goB T w T.length 0 with
  | none => T
  | some (p, d) => T ++ [⟨w, d, (p : Int)⟩]
def bkTo (t : Nat → ByteArray) : Nat → List BkN
  | 0 => []
  | m + 1 => addB (bkTo t m) (t m)
/-- each node but the first stands under one before it -/
def UpB (T : List BkN) : Prop := ∀ i, 1 ≤ i → i < T.length → 0 ≤ (bkAt T i).u ∧ (bkAt T i).u < (i : Int)
theorem kidB_up {T : List BkN} (h : UpB T) {p k : Nat} {d : Int} (hk : kidB T p d (T.length - 1) 1 = some k) : p < k ∧ k < T.length := by
  obtain ⟨h1, h2, h3, _⟩ := kidB_lt hk
  have := h k h1 (by omega)
  omega
theorem goB_lt {T : List BkN} (h : UpB T) {w : ByteArray} : ∀ {f p q : Nat} {d : Int}, p < T.length → goB T w f p = some (q, d) → q < T.length
  | 0, _, _, _, _, h2 => by cases h2
  | f + 1, p, q, d, hp, h2 => by
    rw [goB] at h2
    split at h2
    · cases h2
    · split at h2
      · injection h2 with h2
        injection h2 with h2 h3
        omega
      · rename_i k hk
        exact goB_lt h (kidB_up h hk).2 h2
theorem addB_len (T : List BkN) (w : ByteArray) : (addB T w).length ≤ T.length + 1 ∧ 1 ≤ (addB T w).length := by
  unfold addB
  split
  · simp
  · rename_i h
    have : 1 ≤ T.length := by cases T; exact absurd rfl h; simp
    split
    · omega
    · simp
theorem addB_up {T : List BkN} (h : UpB T) (w : ByteArray) : UpB (addB T w) := by
  unfold addB
  split
  · intro i h1 h2; simp at h2; omega
  · rename_i hne
    split
    · exact h
    · rename_i p d hg
      have hp := goB_lt h (by cases T; exact absurd rfl hne; simp) hg
      intro i h1 h2
      rw [List.length_append, List.length_singleton] at h2
      by_cases e : i < T.length
      · have : bkAt (T ++ [⟨w, d, (p : Int)⟩]) i = bkAt T i := by simp [bkAt, List.getD_eq_getElem?_getD, List.getElem?_append_left e]
        rw [this]; exact h i h1 e
      · have : i = T.length := by omega
        subst this
        have : bkAt (T ++ [⟨w, d, (p : Int)⟩]) T.length = ⟨w, d, (p : Int)⟩ := by simp [bkAt, List.getD_eq_getElem?_getD]
        rw [this]
        show 0 ≤ (p : Int) ∧ (p : Int) < (T.length : Int)
        omega
theorem bkTo_len (t : Nat → ByteArray) (m : Nat) : (bkTo t m).length ≤ m := by
  induction m with
  | zero => exact Nat.le_refl _
  | succ m ih => rw [bkTo]; have := (addB_len (bkTo t m) (t m)).1; omega
theorem bkTo_up (t : Nat → ByteArray) (m : Nat) : UpB (bkTo t m) := by
  induction m with
  | zero => intro i h1 h2; simp [bkTo] at h2
  | succ m ih => exact addB_up ih _
/-- each node's word is one of the words, its distance a number of faults -/
theorem bkTo_sz {t : Nat → ByteArray} {n B : Nat} (h : ∀ i, i < n → (t i).size ≤ B) : ∀ m, m ≤ n → ∀ b ∈ bkTo t m, b.t.size ≤ B
  | 0, _, b, hb => by cases hb
  | m + 1, hm, b, hb => by
    rw [bkTo] at hb
    unfold addB at hb
    split at hb
    · rw [List.mem_singleton] at hb; subst hb; exact h m (by omega)
    · split at hb
      · exact bkTo_sz h m (by omega) b hb
      · rw [List.mem_append, List.mem_singleton] at hb
        rcases hb with hb | hb
        · exact bkTo_sz h m (by omega) b hb
        · subst hb; exact h m (by omega)
theorem goB_in {T : List BkN} (h : UpB T) {w : ByteArray} {p f : Nat} (hp : p < T.length) (hf : T.length ≤ p + f) (f' : Nat) (hf' : T.length ≤ p + f') : goB T w f p = goB T w f' p := by
  induction f generalizing p f' with
  | zero => omega
  | succ f ih =>
    cases f' with
    | zero => omega
    | succ f' =>
      rw [goB, goB]
      split
      · rfl
      · split
        · rfl
        · rename_i k hk
          have hk2 := kidB_up h hk
          exact ih hk2.2 (by omega) f' (by omega)
end Go.Proofs.Ytpniiaemgobaiab

/-
  Chapter 15: a node's kids, in their order (plain).
-/
namespace Go.Proofs.Ytpniiaemgobaiab
open Go.RowKit
set_option linter.unusedVariables false
theorem bkAt_old {L : List BkN} {b : BkN} {i : Nat} (h : i < L.length) : bkAt (L ++ [b]) i = bkAt L i := by simp [bkAt, List.getD_eq_getElem?_getD, List.getElem?_append_left h]
theorem bkAt_new (L : List BkN) (b : BkN) : bkAt (L ++ [b]) L.length = b := by simp [bkAt, List.getD_eq_getElem?_getD]
/-- of f nodes from place i on those that stand under p -/
def kidsB (L : List BkN) (p : Nat) : Nat → Nat → List Nat
  | 0, _ => []
  | f + 1, i => if (bkAt L i).u = (p : Int) then i :: kidsB L p f (i + 1) else kidsB L p f (i + 1)
theorem kidsB_in {L : List BkN} {p : Nat} : ∀ {f i k : Nat}, k ∈ kidsB L p f i → i ≤ k ∧ k < i + f ∧ (bkAt L k).u = (p : Int)
  | 0, _, _, h => by cases h
  | f + 1, i, k, h => by
    rw [kidsB] at h
    split at h
    · rename_i h2
      rcases List.mem_cons.1 h with e | e
      · subst e; exact ⟨Nat.le_refl _, by omega, h2⟩
      · obtain ⟨a, b, c⟩ := kidsB_in e; exact ⟨by omega, by omega, c⟩
    · obtain ⟨a, b, c⟩ := kidsB_in h; exact ⟨by omega, by omega, c⟩
theorem kidsB_len (L : List BkN) (p : Nat) : ∀ f i, (kidsB L p f i).length ≤ f
  | 0, _ => Nat.le_refl _
  | f + 1, i => by
    have := kidsB_len L p f (i + 1)
    rw [kidsB]
    split
    · simp only [List.length_cons]; omega
    · omega
theorem kidsB_snoc (L : List BkN) (p : Nat) : ∀ f i, kidsB L p (f + 1) i = kidsB L p f i ++ if (bkAt L (i + f)).u = (p : Int) then [i + f] else []
  | 0, i => by
    rw [kidsB, kidsB]
    show (if (bkAt L i).u = (p : Int) then [i] else []) = [] ++ if (bkAt L (i + 0)).u = (p : Int) then [i + 0] else []
    rw [Nat.add_zero, List.nil_append]
  | f + 1, i => by
    have h := kidsB_snoc L p f (i + 1)
    rw [kidsB, h, kidsB, show i + 1 + f = i + (f + 1) by omega]
    split
    · rfl
    · rfl
theorem kidsB_old {L : List BkN} {b : BkN} {p : Nat} : ∀ {f i : Nat}, i + f ≤ L.length → kidsB (L ++ [b]) p f i = kidsB L p f i
  | 0, _, _ => rfl
  | f + 1, i, h => by
    rw [kidsB, kidsB, bkAt_old (by omega), kidsB_old (by omega)]
/-- a node's kids -/
def KB (L : List BkN) (p : Nat) : List Nat := kidsB L p (L.length - (p + 1)) (p + 1)
theorem KB_in {L : List BkN} {p k : Nat} (h : k ∈ KB L p) : p < k ∧ k < L.length ∧ (bkAt L k).u = (p : Int) := by
  obtain ⟨a, b, c⟩ := kidsB_in h; exact ⟨by omega, by omega, c⟩
theorem KB_len (L : List BkN) (p : Nat) : (KB L p).length ≤ L.length := by
  have := kidsB_len L p (L.length - (p + 1)) (p + 1); unfold KB; omega
theorem KB_add (L : List BkN) (b : BkN) (p : Nat) (hp : p < L.length) : KB (L ++ [b]) p = KB L p ++ if b.u = (p : Int) then [L.length] else [] := by
  unfold KB
  rw [List.length_append, List.length_singleton, show L.length + 1 - (p + 1) = L.length - (p + 1) + 1 by omega, kidsB_snoc, kidsB_old (by omega), show p + 1 + (L.length - (p + 1)) = L.length by omega, bkAt_new]
theorem KB_new (L : List BkN) (b : BkN) : KB (L ++ [b]) L.length = [] := by
  unfold KB
  rw [List.length_append, List.length_singleton, Nat.sub_self]; rfl
/-- the first kid at a distance is what the walk over all nodes finds -/
theorem kidB_skip {L : List BkN} (h : UpB L) {p : Nat} {d : Int} : ∀ {f i : Nat}, 1 ≤ i → i + f ≤ p + 1 → i + f ≤ L.length → ∀ g, kidB L p d (f + g) i = kidB L p d g (i + f)
  | 0, i, _, _, _, g => by rw [Nat.zero_add, Nat.add_zero]
  | f + 1, i, h1, h2, h3, g => by
    have hu := h i h1 (by omega)
    rw [show f + 1 + g = f + g + 1 by omega, kidB, if_neg (fun e => by have := e.1; omega), kidB_skip h (by omega) (by omega) (by omega) g, show i + 1 + f = i + (f + 1) by omega]
theorem kidB_find (L : List BkN) (p : Nat) (d : Int) : ∀ f i, kidB L p d f i = (kidsB L p f i).find? (fun j => decide ((bkAt L j).d = d))
  | 0, _ => rfl
  | f + 1, i => by
    rw [kidB, kidsB, kidB_find L p d f (i + 1)]
    by_cases h : (bkAt L i).u = (p : Int)
    · rw [if_pos h]
      by_cases h2 : (bkAt L i).d = d
      · rw [if_pos ⟨h, h2⟩, List.find?_cons_of_pos (by simpa using h2)]
      · rw [if_neg (fun e => h2 e.2), List.find?_cons_of_neg (by simpa using h2)]
    · rw [if_neg (fun e => h e.1), if_neg h]
theorem kidB_KB {L : List BkN} (h : UpB L) {p : Nat} (hp : p < L.length) (d : Int) : kidB L p d (L.length - 1) 1 = (KB L p).find? (fun j => decide ((bkAt L j).d = d)) := by
  have h1 := kidB_skip h (p := p) (d := d) (f := p) (i := 1) (Nat.le_refl _) (by omega) (by omega) (L.length - (p + 1))
  rw [show p + (L.length - (p + 1)) = L.length - 1 by omega, show 1 + p = p + 1 by omega] at h1
  rw [h1, kidB_find]; rfl
/-- no node below another is at 0 -/
def PosB (L : List BkN) : Prop := ∀ i, 1 ≤ i → i < L.length → (bkAt L i).d ≠ 0
theorem goB_pos {L : List BkN} {w : ByteArray} : ∀ {f p q : Nat} {d : Int}, goB L w f p = some (q, d) → d ≠ 0
  | 0, _, _, _, h => by cases h
  | f + 1, p, q, d, h => by
    rw [goB] at h
    split at h
    · cases h
    · rename_i h0
      split at h
      · injection h with h
        injection h with h1 h2
        rw [← h2]; exact h0
      · exact goB_pos h
theorem addB_pos {L : List BkN} (h : PosB L) (w : ByteArray) : PosB (addB L w) := by
  unfold addB
  split
  · intro i h1 h2; simp at h2; omega
  · split
    · exact h
    · rename_i p d hg
      intro i h1 h2
      rw [List.length_append, List.length_singleton] at h2
      by_cases e : i < L.length
      · rw [bkAt_old e]; exact h i h1 e
      · have : i = L.length := by omega
        subst this
        rw [bkAt_new]; exact goB_pos hg
theorem bkTo_pos (t : Nat → ByteArray) (m : Nat) : PosB (bkTo t m) := by
  induction m with
  | zero => intro i h1 h2; simp [bkTo] at h2
  | succ m ih => exact addB_pos ih _
theorem kid_none {L : List BkN} (h : PosB L) (p : Nat) : (KB L p).find? (fun j => decide ((bkAt L j).d = 0)) = none := by
  rw [List.find?_eq_none]
  intro j hj
  obtain ⟨h1, h2, _⟩ := KB_in hj
  simpa using h j (by omega) h2
end Go.Proofs.Ytpniiaemgobaiab

/-
  Chapter 15: what is near in a tree (plain): what stands under a node's kid differs from the node's word by as much as the kid says; so the walk that passes by what cannot be near finds all.
-/
namespace Go.Proofs.Ytpniiaemgobaiab
open Go.RowKit
set_option linter.unusedVariables false
def upOf (T : List BkN) (j : Nat) : Nat := (bkAt T j).u.toNat
def upOfN (T : List BkN) : Nat → Nat → Nat
  | 0, j => j
  | n + 1, j => upOfN T n (upOf T j)
theorem upOfN_last (T : List BkN) : ∀ n j, upOfN T (n + 1) j = upOf T (upOfN T n j)
  | 0, _ => rfl
  | n + 1, j => by rw [upOfN, upOfN_last T n (upOf T j)]; rfl
theorem upOfN_add (T : List BkN) : ∀ m n j, upOfN T (m + n) j = upOfN T n (upOfN T m j)
  | 0, n, j => by rw [Nat.zero_add]; rfl
  | m + 1, n, j => by rw [Nat.add_right_comm, upOfN, upOfN_add T m n, upOfN]
/-- j is c, or stands under it -/
def Bel (T : List BkN) (c j : Nat) : Prop := ∃ n, upOfN T n j = c ∧ ∀ m, m < n → 0 < upOfN T m j
theorem Bel.self (T : List BkN) (c : Nat) : Bel T c c := ⟨0, rfl, fun m h => by omega⟩
theorem Bel.step {T : List BkN} {c j : Nat} (hj : 0 < j) (h : Bel T c (upOf T j)) : Bel T c j := by
  obtain ⟨n, hn, hm⟩ := h
  refine ⟨n + 1, hn, fun m h => ?_⟩
  cases m with
  | zero => exact hj
  | succ m => exact hm m (by omega)
theorem Bel.cases {T : List BkN} {c j : Nat} (h : Bel T c j) : j = c ∨ (0 < j ∧ Bel T c (upOf T j)) := by
  obtain ⟨n, hn, hm⟩ := h
  cases n with
  | zero => exact .inl hn
  | succ n => exact .inr ⟨hm 0 (by omega), n, hn, fun m h => hm (m + 1) (by omega)⟩
theorem Bel.trans {T : List BkN} {a b c : Nat} (h : Bel T a b) (k : Bel T b c) : Bel T a c := by
  obtain ⟨n, hn, hm⟩ := h
  obtain ⟨m, hm2, hk⟩ := k
  refine ⟨m + n, by rw [upOfN_add, hm2, hn], fun i hi => ?_⟩
  by_cases h : i < m
  · exact hk i h
  · obtain ⟨d, rfl⟩ : ∃ d, i = m + d := ⟨i - m, by omega⟩
    rw [upOfN_add, hm2]; exact hm d (by omega)
theorem upOf_lt {T : List BkN} (h : UpB T) {j : Nat} (h0 : 0 < j) (hj : j < T.length) : upOf T j < j := by
  have := h j h0 hj
  unfold upOf; omega
theorem upOfN_le {T : List BkN} (h : UpB T) : ∀ n j, j < T.length → (∀ m, m < n → 0 < upOfN T m j) → upOfN T n j + n ≤ j := by
  intro n
  induction n with
  | zero => intro j _ _; exact Nat.le_refl _
  | succ n ih =>
    intro j hj hm
    have h0 : 0 < j := hm 0 (by omega)
    have := upOf_lt h h0 hj
    have h2 := ih (upOf T j) (by omega) (fun m hh => hm (m + 1) (by omega))
    rw [upOfN]; omega
theorem Bel.le {T : List BkN} (h : UpB T) {c j : Nat} (hj : j < T.length) (hb : Bel T c j) : c ≤ j := by
  obtain ⟨n, hn, hm⟩ := hb
  have := upOfN_le h n j hj hm
  omega
theorem Bel.line {T : List BkN} {a b j : Nat} (ha : Bel T a j) (hb : Bel T b j) : Bel T a b ∨ Bel T b a := by
  obtain ⟨n, hn, hn2⟩ := ha
  obtain ⟨m, hm, hm2⟩ := hb
  rcases Nat.le_total n m with h | h
  · obtain ⟨d, rfl⟩ : ∃ d, m = n + d := ⟨m - n, by omega⟩
    exact .inr ⟨d, by rw [← hn, ← upOfN_add]; exact hm, fun i hi => by rw [← hn, ← upOfN_add]; exact hm2 _ (by omega)⟩
  · obtain ⟨d, rfl⟩ : ∃ d, n = m + d := ⟨n - m, by omega⟩
    exact .inl ⟨d, by rw [← hm, ← upOfN_add]; exact hn, fun i hi => by rw [← hm, ← upOfN_add]; exact hn2 _ (by omega)⟩
/-- under a node, but not it: under one of its kids -/
theorem Bel.kid {T : List BkN} {p j : Nat} (h : Bel T p j) (hne : j ≠ p) : ∃ c, 0 < c ∧ upOf T c = p ∧ Bel T c j := by
  obtain ⟨n, hn, hm⟩ := h
  cases n with
  | zero => exact absurd hn hne
  | succ n =>
    rw [upOfN_last] at hn
    exact ⟨upOfN T n j, hm n (by omega), hn, n, rfl, fun m h => hm m (by omega)⟩
/-- what stands under a kid differs from the node's word as the kid says -/
def PathB (T : List BkN) : Prop := ∀ c j, 0 < c → c < T.length → j < T.length → Bel T c j → distI (bkAt T (upOf T c)).t (bkAt T j).t false = (bkAt T c).d
theorem goB_bel {T : List BkN} (h : UpB T) {w : ByteArray} : ∀ {f p q : Nat} {d : Int}, p < T.length → goB T w f p = some (q, d) → Bel T p q ∧ q < T.length ∧ d = distI (bkAt T q).t w false ∧
    ∀ c, 0 < c → c < T.length → Bel T c q → Bel T p (upOf T c) → distI (bkAt T (upOf T c)).t w false = (bkAt T c).d
  | 0, _, _, _, _, h2 => by cases h2
  | f + 1, p, q, d, hp, h2 => by
    rw [goB] at h2
    split at h2
    · cases h2
    · split at h2
      · injection h2 with h2
        injection h2 with h2 h3
        subst h2
        refine ⟨Bel.self _ _, hp, h3.symm, fun c hc hcl hcq hpc => ?_⟩
        have h1 := hcq.le h hp
        have h4 := hpc.le h (by have := upOf_lt h hc hcl; omega)
        have := upOf_lt h hc hcl
        omega
      · rename_i k hk
        have hk2 := kidB_up h hk
        obtain ⟨hk3, hk4, hk5, hk6⟩ := kidB_lt hk
        have huk : upOf T k = p := by unfold upOf; omega
        obtain ⟨b1, b2, b3, b4⟩ := goB_bel h hk2.2 h2
        have hpk : Bel T p k := Bel.step (by omega) (by rw [huk]; exact Bel.self _ _)
        refine ⟨hpk.trans b1, b2, b3, fun c hc hcl hcq hpc => ?_⟩
        rcases hcq.line b1 with hck | hkc
        · rcases hck.cases with e | ⟨_, e⟩
          · rw [← e, huk, hk6]
          · exfalso
            rw [huk] at e
            have h1 := e.le h hp
            have h4 := hpc.le h (by have := upOf_lt h hc hcl; omega)
            have := upOf_lt h hc hcl
            omega
        · rcases hkc.cases with e | ⟨_, e⟩
          · rw [e, huk, hk6]
          · exact b4 c hc hcl hcq e
theorem bel_old {T : List BkN} (h : UpB T) {b : BkN} {c : Nat} : ∀ j, j < T.length → (Bel (T ++ [b]) c j ↔ Bel T c j) := by
  intro j
  induction j using Nat.strongRecOn with
  | ind j ih =>
    intro hj
    have hu : upOf (T ++ [b]) j = upOf T j := by unfold upOf; rw [bkAt_old hj]
    constructor
    · intro hb
      rcases hb.cases with e | ⟨h0, e⟩
      · rw [e]; exact Bel.self _ _
      · rw [hu] at e
        have := upOf_lt h h0 hj
        exact Bel.step h0 ((ih _ this (by omega)).1 e)
    · intro hb
      rcases hb.cases with e | ⟨h0, e⟩
      · rw [e]; exact Bel.self _ _
      · have := upOf_lt h h0 hj
        exact Bel.step h0 (by rw [hu]; exact (ih _ this (by omega)).2 e)
theorem bel_root {T : List BkN} (h : UpB T) : ∀ j, j < T.length → Bel T 0 j := by
  intro j
  induction j using Nat.strongRecOn with
  | ind j ih =>
    intro hj
    by_cases e : j = 0
    · rw [e]; exact Bel.self _ _
    · have := upOf_lt h (by omega) hj
      exact Bel.step (by omega) (ih _ this (by omega))
theorem addB_path {T : List BkN} (hu : UpB T) (h : PathB T) (w : ByteArray) : PathB (addB T w) := by
  unfold addB
  split
  · intro c j hc hcl; simp at hcl; omega
  · rename_i hne
    have hT : 0 < T.length := by cases T; exact absurd rfl hne; simp
    split
    · exact h
    · rename_i q d hg
      obtain ⟨b1, b2, b3, b4⟩ := goB_bel hu hT hg
      have hu2 : UpB (T ++ [⟨w, d, (q : Int)⟩]) := by
        have := addB_up hu w
        unfold addB at this
        rw [if_neg hne, hg] at this
        exact this
      intro c j hc hcl hjl hb
      rw [List.length_append, List.length_singleton] at hcl hjl
      have hun : upOf (T ++ [⟨w, d, (q : Int)⟩]) T.length = q := by unfold upOf; rw [bkAt_new]; simp
      have hwn : (bkAt (T ++ [⟨w, d, (q : Int)⟩]) T.length).t = w := by rw [bkAt_new]
      by_cases hcT : c < T.length
      · have huc : upOf (T ++ [⟨w, d, (q : Int)⟩]) c = upOf T c := by unfold upOf; rw [bkAt_old hcT]
        have hlt := upOf_lt hu hc hcT
        rw [huc, bkAt_old (by omega), bkAt_old hcT]
        by_cases hjT : j < T.length
        · rw [bkAt_old hjT]
          exact h c j hc hcT hjT ((bel_old hu j hjT).1 hb)
        · have hj : j = T.length := by omega
          subst hj
          rw [hwn]
          rcases hb.cases with e | ⟨_, e⟩
          · omega
          · rw [hun] at e
            exact b4 c hc hcT ((bel_old hu q b2).1 e) (bel_root hu _ (by omega))
      · have hcn : c = T.length := by omega
        subst hcn
        have hjn : j = T.length := by
          have := hb.le hu2 (by rw [List.length_append, List.length_singleton]; exact hjl)
          omega
        subst hjn
        rw [hun, hwn, bkAt_old b2, bkAt_new]
        exact b3.symm
theorem bkTo_path (t : Nat → ByteArray) (m : Nat) : PathB (bkTo t m) := by
  induction m with
  | zero => intro c j hc hcl; simp [bkTo] at hcl
  | succ m ih => exact addB_path (bkTo_up t m) ih _
/-- the walk: the places of the words that are near, as it comes by -/
def nearB (T : List BkN) (w : ByteArray) (k : Int) : Nat → Nat → List Nat
  | 0, _ => []
  | f + 1, p => (if distI (bkAt T p).t w false ≤ k then [p] else []) ++ ((KB T p).filter fun c => decide (distI (bkAt T p).t w false - k ≤ (bkAt T c).d) && decide ((bkAt T c).d ≤ distI (bkAt T p).t w false + k)).flatMap (nearB T w k f)
theorem kidsB_has {T : List BkN} {p : Nat} : ∀ {f i c : Nat}, i ≤ c → c < i + f → (bkAt T c).u = (p : Int) → c ∈ kidsB T p f i
  | 0, _, _, h1, h2, _ => by omega
  | f + 1, i, c, h1, h2, h3 => by
    rw [kidsB]
    by_cases e : i = c
    · subst e; rw [if_pos h3]; exact List.mem_cons_self
    · have := kidsB_has (f := f) (i := i + 1) (c := c) (by omega) (by omega) h3
      split
      · exact List.mem_cons_of_mem _ this
      · exact this
theorem KB_has {T : List BkN} (h : UpB T) {p c : Nat} (hc : 0 < c) (hcl : c < T.length) (hu : upOf T c = p) : c ∈ KB T p := by
  have := h c hc hcl
  unfold upOf at hu
  exact kidsB_has (by omega) (by omega) (by omega)
theorem near_all {T : List BkN} (hu : UpB T) (hP : PathB T) (w : ByteArray) (k : Int) (hw : w.size ≤ 200) (hs : ∀ j, j < T.length → (bkAt T j).t.size ≤ 200) :
    ∀ f p j, p < T.length → T.length ≤ p + f → j < T.length → Bel T p j → distI (bkAt T j).t w false ≤ k → j ∈ nearB T w k f p := by
  intro f
  induction f with
  | zero => intro p j hp hf; omega
  | succ f ih =>
    intro p j hp hf hj hb hd
    rw [nearB, List.mem_append]
    by_cases e : j = p
    · subst e; left; rw [if_pos hd]; exact List.mem_singleton.2 rfl
    · right
      obtain ⟨c, hc, huc, hcj⟩ := hb.kid e
      have hcl : c < T.length := Nat.lt_of_le_of_lt (hcj.le hu hj) hj
      have hpath := hP c j hc hcl hj hcj
      rw [huc] at hpath
      have t1 := dist_tri (bkAt T p).t (bkAt T j).t w false (hs p hp) (hs j hj) hw
      have t2 := dist_tri (bkAt T p).t w (bkAt T j).t false (hs p hp) hw (hs j hj)
      rw [dist_symm (bkAt T j).t w false] at t2
      have hlt := upOf_lt hu hc hcl
      refine List.mem_flatMap.2 ⟨c, List.mem_filter.2 ⟨KB_has hu hc hcl huc, ?_⟩, ih c j hcl (by omega) hj hcj hd⟩
      rw [Bool.and_eq_true, decide_eq_true_eq, decide_eq_true_eq]
      omega
theorem near_only {T : List BkN} (hu : UpB T) (w : ByteArray) (k : Int) : ∀ f p j, p < T.length → j ∈ nearB T w k f p → j < T.length ∧ Bel T p j ∧ distI (bkAt T j).t w false ≤ k := by
  intro f
  induction f with
  | zero => intro p j _ h; cases h
  | succ f ih =>
    intro p j hp h
    rw [nearB, List.mem_append] at h
    rcases h with h | h
    · split at h
      · rename_i hd
        rw [List.mem_singleton] at h
        subst h
        exact ⟨hp, Bel.self _ _, hd⟩
      · cases h
    · obtain ⟨c, hc, hj⟩ := List.mem_flatMap.1 h
      obtain ⟨hk, _⟩ := List.mem_filter.1 hc
      obtain ⟨h1, h2, h3⟩ := KB_in hk
      obtain ⟨a1, a2, a3⟩ := ih c j h2 hj
      have hpc : Bel T p c := Bel.step (by omega) (by unfold upOf; rw [h3]; simpa using Bel.self T p)
      exact ⟨a1, hpc.trans a2, a3⟩
end Go.Proofs.Ytpniiaemgobaiab

/-
  Slices of structs of numbers: a call's own ones, their cells in one list.
-/
namespace Go.Proofs.Ytpniiaemgobaiab
open Go.RowKit
set_option linter.unusedVariables false
/-- a slice of n structs of m numbers each, all numbers in one list L, that lies in memory laid from block B on -/
def OwnM (e m : Nat) (w : World) (B : Nat) (a : Option Addr) (n cap : Nat) (L : List Int) : Prop := L.length = n * m ∧ w.ownsRow B e m (.slice a n cap) n (L.map (Value.int .i64))
section
variable {e m : Nat} {w w1 : World} {B : Nat} {a : Option Addr} {n cap : Nat} {L : List Int}
theorem OwnM.len (h : OwnM e m w B a n cap L) : L.length = n * m := h.1
theorem OwnM.kept (h : OwnM e m w B a n cap L) (hb : Below w.heap.size w w1) : OwnM e m w1 B a n cap L :=
  ⟨h.1, h.2.kept (grown_of_below hb none) (by cases hv : (Value.slice a n cap).ownBlock <;> simp)⟩
theorem OwnM.mono {C : Nat} (h : OwnM e m w B a n cap L) (hC : C ≤ B) : OwnM e m w C a n cap L := by
  refine ⟨h.1, h.2.1, ?_⟩
  rcases h.2.2 with h | ⟨g, c, cur, h1, h2, r⟩
  · exact .inl h
  · exact .inr ⟨g, c, cur, h1, Nat.le_trans hC h2, r⟩
theorem OwnM.ints (h : OwnM e m w B a n cap L) : Ints w a L := by
  obtain ⟨hl, h⟩ := h
  rcases h.2 with ⟨hv, h0⟩ | ⟨g, cap', cur, hv, hb, hg, r⟩
  · exact .inl (List.eq_nil_of_length_eq_zero (by rw [hl, h0, Nat.zero_mul]))
  · simp only [Value.slice.injEq] at hv
    obtain ⟨rfl, _, rfl⟩ := hv
    refine .inr ⟨g, 0, rfl, fun i hi => ?_⟩
    rw [Nat.zero_add, h.cellAt i (by rw [← hl]; exact hi)]
    simp [intAt, List.getD_eq_getElem?_getD, List.getElem?_eq_getElem hi]
theorem OwnM.head (h : OwnM e m w B a n cap L) (i : Nat) (hi : i < n) : ∃ g, a = some ⟨g, 0, none⟩ ∧ B ≤ g ∧ g < w.heap.size := by
  rcases h.2.2 with ⟨hv, h0⟩ | ⟨g, cap', cur, hv, hb, hg, r⟩
  · omega
  · simp only [Value.slice.injEq] at hv
    exact ⟨g, hv.1, hb, lt_of_block hg⟩
theorem OwnM.cell {g : Nat} (h : OwnM e m w B (some ⟨g, 0, none⟩) n cap L) (i : Nat) (hi : i < n * m) : w.cell? ⟨g, i, none⟩ = some (.int .i64 (intAt L i)) := by
  obtain ⟨hl, h⟩ := h
  have hi2 : i < L.length := by rw [hl]; exact hi
  rw [h.cellAt i hi]
  simp [intAt, List.getD_eq_getElem?_getD, List.getElem?_eq_getElem hi2]
theorem OwnM.frozen {g : Nat} (h : OwnM e m w B (some ⟨g, 0, none⟩) n cap L) (i : Nat) : w.frozen? ⟨g, i, none⟩ = false := h.2.frozenAt i
theorem OwnM.set {g : Nat} (h : OwnM e m w B (some ⟨g, 0, none⟩) n cap L) (i : Nat) (x : Int) : OwnM e m (w.setCell ⟨g, i, none⟩ (.int .i64 x)) B (some ⟨g, 0, none⟩) n cap (L.set i x) :=
  ⟨by simpa using h.1, by have := (h.2.stored i (.int .i64 x)).1; rw [List.map_set]; exact this⟩
theorem OwnM.set_grown {g : Nat} (h : OwnM e m w B (some ⟨g, 0, none⟩) n cap L) (i : Nat) (x : Int) : w.grownBy (w.setCell ⟨g, i, none⟩ (.int .i64 x)) (some g) := (h.2.stored i (.int .i64 x)).2
theorem OwnM.turn (h : OwnM e m w B a n cap L) (hB : B ≤ w.heap.size) (hg : w.grownBy w1 (Value.slice a n cap).ownBlock) : Below B w w1 :=
  (Below.refl B w).grown hg hB fun k hk => (h.2.lt k hk).1
theorem OwnM.turn_lt (h : OwnM e m w B a n cap L) : ∀ k, (Value.slice a n cap).ownBlock = some k → k < w.heap.size := fun k hk => (h.2.lt k hk).2
theorem OwnM.nil (w : World) (B : Nat) : OwnM e m w B none 0 0 [] := ⟨by simp, World.ownsRow_nil w B _ m⟩
theorem OwnM.shape {v : Value} (hL : L.length = n * m) (h : w.ownsRow B e m v n (L.map (Value.int .i64))) : ∃ a cap, v = .slice a n cap ∧ OwnM e m w B a n cap L := by
  rcases h.2 with ⟨rfl, rfl⟩ | ⟨g, cap, cur, rfl, r⟩
  · exact ⟨none, 0, rfl, hL, h⟩
  · exact ⟨some ⟨g, 0, none⟩, cap, rfl, hL, h⟩
/-- kept where its own block is as it was -/
theorem OwnM.on (h : OwnM e m w B a n cap L) (hb : ∀ g, (Value.slice a n cap).ownBlock = some g → w1.heap[g]? = w.heap[g]?) : OwnM e m w1 B a n cap L := by
  refine ⟨h.1, h.2.1, ?_⟩
  rcases h.2.2 with h | ⟨g, c, cur, h1, h2, h3, r⟩
  · exact .inl h
  · refine .inr ⟨g, c, cur, h1, h2, ?_, r⟩
    rw [hb g (by rw [h1]; rfl)]; exact h3
end
theorem pair_lt {i n : Nat} (h : i < n) : i * 2 < n * 2 ∧ i * 2 + 1 < n * 2 := by omega
end Go.Proofs.Ytpniiaemgobaiab

/-
  Chapter 9: recsOf: ends as records of one pattern.
-/
namespace Go.Proofs.Ytpniiaemgobaiab
open Go.RowKit
set_option linter.unusedVariables false
/-- the records of the first i of some ends: pattern, place, number in turn -/
def recL (P : Int) (L : List Int) : Nat → List Int
  | 0 => []
  | i + 1 => recL P L i ++ [P, intAt L (i * 2), intAt L (i * 2 + 1)]
theorem recL_length (P : Int) (L : List Int) (i : Nat) : (recL P L i).length = i * 3 := by
  induction i with
  | zero => rfl
  | succ i ih => simp only [recL, List.length_append, ih, List.length_cons, List.length_nil]; omega
end Go.Proofs.Ytpniiaemgobaiab

/-
  Records by end and pattern: putting them in one by one, and sorting them, gives the same list. No program's text: plain lists.
-/
namespace Go.Proofs.Ytpniiaemgobaiab
set_option linter.unusedVariables false
structure Rc where
  p : Int
  e : Int
  d : Int
def ltR (x y : Rc) : Prop := x.e < y.e ∨ x.e = y.e ∧ x.p < y.p
instance (x y : Rc) : Decidable (ltR x y) := by unfold ltR; infer_instance
/-- two records that stand for different places -/
def farR (x y : Rc) : Prop := x.e ≠ y.e ∨ x.p ≠ y.p
theorem ltR_trans {x y z : Rc} (h : ltR x y) (k : ltR y z) : ltR x z := by unfold ltR at *; omega
theorem ltR_irrefl (x : Rc) : ¬ ltR x x := by unfold ltR; omega
theorem ltR_of {x y : Rc} (h : ¬ ltR y x) (k : farR x y) : ltR x y := by unfold ltR farR at *; omega
theorem farR_symm {x y : Rc} (h : farR x y) : farR y x := by unfold farR at *; omega
/-- one more, behind all that are less -/
def addR : List Rc → Rc → List Rc
  | [], x => [x]
  | y :: l, x => if ltR y x then y :: addR l x else x :: y :: l
theorem addR_perm (l : List Rc) (x : Rc) : (addR l x).Perm (x :: l) := by
  induction l with
  | nil => exact List.Perm.refl _
  | cons y l ih =>
    unfold addR
    split
    · exact (ih.cons y).trans (List.Perm.swap x y l)
    · exact List.Perm.refl _
theorem addR_sorted (l : List Rc) (x : Rc) (h : l.Pairwise ltR) (hf : ∀ y ∈ l, farR y x) : (addR l x).Pairwise ltR := by
  induction l with
  | nil => simp [addR]
  | cons y l ih =>
    rw [List.pairwise_cons] at h
    unfold addR
    split
    · next hlt =>
      rw [List.pairwise_cons]
      refine ⟨fun z hz => ?_, ih h.2 fun z hz => hf z (List.mem_cons_of_mem _ hz)⟩
      rcases List.mem_cons.1 ((addR_perm l x).mem_iff.1 hz) with rfl | hz
      · exact hlt
      · exact h.1 z hz
    · next hlt =>
      have hxy : ltR x y := ltR_of hlt (farR_symm (hf y (List.mem_cons_self ..)))
      rw [List.pairwise_cons]
      refine ⟨fun z hz => ?_, List.pairwise_cons.2 h⟩
      rcases List.mem_cons.1 hz with rfl | hz
      · exact hxy
      · exact ltR_trans hxy (h.1 z hz)
/-- put in one by one -/
def addAllR (l : List Rc) : List Rc → List Rc
  | [] => l
  | x :: r => addAllR (addR l x) r
theorem addAllR_perm (r : List Rc) : ∀ l, (addAllR l r).Perm (l ++ r) := by
  induction r with
  | nil => intro l; simp [addAllR]
  | cons x r ih =>
    intro l
    unfold addAllR
    exact (ih _).trans (((addR_perm l x).append_right r).trans (by simpa using (List.perm_middle (a := x) (l₁ := l) (l₂ := r)).symm))
theorem addAllR_sorted (r : List Rc) : ∀ l, l.Pairwise ltR → (l ++ r).Pairwise farR → (addAllR l r).Pairwise ltR := by
  induction r with
  | nil => intro l h _; simpa [addAllR] using h
  | cons x r ih =>
    intro l h hf
    unfold addAllR
    have hf2 := List.pairwise_append.1 hf
    refine ih _ (addR_sorted l x h fun y hy => hf2.2.2 y hy x (List.mem_cons_self ..)) ?_
    have hp : (addR l x ++ r).Perm (l ++ x :: r) := ((addR_perm l x).append_right r).trans (by simpa using (List.perm_middle (a := x) (l₁ := l) (l₂ := r)).symm)
    exact hf.perm hp.symm (fun h => farR_symm h)
theorem sorted_far {l : List Rc} (h : l.Pairwise ltR) : l.Pairwise farR := h.imp fun {a b} h => by unfold ltR at h; unfold farR; omega
theorem addAllR_append (r s : List Rc) : ∀ l, addAllR l (r ++ s) = addAllR (addAllR l r) s := by
  induction r with
  | nil => intro l; rfl
  | cons x r ih => intro l; simp only [List.cons_append, addAllR]; exact ih _
/-- two sorted lists of the same records are one -/
theorem sorted_uniq : ∀ (a b : List Rc), a.Perm b → a.Pairwise ltR → b.Pairwise ltR → a = b := by
  intro a
  induction a with
  | nil => intro b hp _ _; exact hp.nil_eq
  | cons x a ih =>
    intro b hp ha hb
    cases b with
    | nil => exact absurd hp.symm (by intro h; have := h.length_eq; simp at this)
    | cons y b =>
      rw [List.pairwise_cons] at ha hb
      have hxy : x = y := by
        have hx : x ∈ y :: b := hp.mem_iff.1 (List.mem_cons_self ..)
        have hy : y ∈ x :: a := hp.mem_iff.2 (List.mem_cons_self ..)
        rcases List.mem_cons.1 hx with h | h
        · exact h
        · rcases List.mem_cons.1 hy with h2 | h2
          · exact h2.symm
          · exact absurd (ltR_trans (ha.1 y h2) (hb.1 x h)) (ltR_irrefl x)
      subst hxy
      rw [ih b (List.Perm.cons_inv hp) ha.2 hb.2]
/-- what a sort gives of records that stand for different places is what putting them in one by one gives -/
theorem sort_is_add (l s : List Rc) (hf : l.Pairwise farR) (hp : s.Perm l) (hs : s.Pairwise fun x y => ¬ ltR y x) : s = addAllR [] l := by
  have hsf : s.Pairwise farR := hf.perm hp.symm (fun h => farR_symm h)
  have hss : s.Pairwise ltR := hs.imp₂ (fun a b h k => ltR_of h k) hsf
  exact sorted_uniq _ _ (hp.trans (by simpa using (addAllR_perm l []).symm)) hss (addAllR_sorted l [] List.Pairwise.nil (by simpa using hf))
end Go.Proofs.Ytpniiaemgobaiab

/-
  Chapter 9's model: one record more, put in.
-/
namespace Go.Proofs.Ytpniiaemgobaiab
open Go.RowKit
set_option linter.unusedVariables false
def rcAt (L : List Rc) (i : Nat) : Rc := L.getD i ⟨0, 0, 0⟩
def recI : List Rc → List Int
  | [] => []
  | r :: l => r.p :: r.e :: r.d :: recI l
theorem recI_length (L : List Rc) : (recI L).length = L.length * 3 := by
  induction L with
  | nil => rfl
  | cons r l ih => simp only [recI, List.length_cons, ih]; omega
theorem recI_append (L M : List Rc) : recI (L ++ M) = recI L ++ recI M := by
  induction L with
  | nil => rfl
  | cons r l ih => simp only [List.cons_append, recI, ih]
theorem recI_take (L : List Rc) (k : Nat) (h : k ≤ L.length) : recI (L.take k) = (recI L).take (k * 3) := by
  have e := recI_append (L.take k) (L.drop k)
  rw [List.take_append_drop] at e
  rw [e, List.take_left' (by rw [recI_length, List.length_take]; omega)]
theorem recI_drop (L : List Rc) (k : Nat) (h : k ≤ L.length) : recI (L.drop k) = (recI L).drop (k * 3) := by
  have e := recI_append (L.take k) (L.drop k)
  rw [List.take_append_drop] at e
  rw [e, List.drop_left' (by rw [recI_length, List.length_take]; omega)]
theorem recI_at (L : List Rc) : ∀ i, i < L.length → intAt (recI L) (i * 3) = (rcAt L i).p ∧ intAt (recI L) (i * 3 + 1) = (rcAt L i).e ∧ intAt (recI L) (i * 3 + 2) = (rcAt L i).d := by
  induction L with
  | nil => intro i hi; simp at hi
  | cons r l ih =>
    intro i hi
    cases i with
    | zero => exact ⟨rfl, rfl, rfl⟩
    | succ i =>
      have h := ih i (by simpa using hi)
      have e : (i + 1) * 3 = i * 3 + 3 := by omega
      rw [e]
      simpa [recI, intAt, rcAt, List.getD_eq_getElem?_getD] using h
theorem addR_split (L : List Rc) (x : Rc) : ∀ k, k ≤ L.length → (∀ i, i < k → ltR (rcAt L i) x) → (k = L.length ∨ ¬ ltR (rcAt L k) x) → addR L x = L.take k ++ x :: L.drop k := by
  induction L with
  | nil => intro k hk _ _; simp [addR]
  | cons y l ih =>
    intro k hk h1 h2
    cases k with
    | zero =>
      have hn : ¬ ltR y x := by
        rcases h2 with h2 | h2
        · simp at h2
        · exact h2
      unfold addR
      rw [if_neg hn]; rfl
    | succ k =>
      have hy : ltR y x := h1 0 (by omega)
      unfold addR
      rw [if_pos hy, ih k (by simpa using hk) (fun i hi => h1 (i + 1) (by omega)) (by
        rcases h2 with h2 | h2
        · left; simpa using h2
        · right; exact h2)]
      rfl
theorem OwnM.part {e m : Nat} {w : World} {B g n cap : Nat} {L : List Int} (h : OwnM e m w B (some ⟨g, 0, none⟩) n cap L) (s t : Nat) : ∀ j u, (((L.drop s).take t).map (Value.int .i64))[j]? = some u → w.cell? ((⟨g, s, none⟩ : Addr).add j) = some u := by
  intro j u hu
  have hj : j < ((L.drop s).take t).length := by
    have := (List.getElem?_eq_some_iff.1 hu).1
    simpa using this
  have hj2 : s + j < n * m := by
    have := h.len; rw [List.length_take, List.length_drop] at hj; omega
  rw [Addr.add_lit, h.cell (s + j) hj2]
  rw [List.getElem?_map, List.getElem?_take, if_pos (by rw [List.length_take] at hj; omega), List.getElem?_drop] at hu
  have hl := h.len
  rw [List.getElem?_eq_getElem (by omega)] at hu
  simp only [Option.map_some, Option.some.injEq] at hu
  rw [← hu]
  simp [intAt, List.getD_eq_getElem?_getD, List.getElem?_eq_getElem (show s + j < L.length by omega)]
end Go.Proofs.Ytpniiaemgobaiab

/-
  Chapter 16's model: the pieces of a text, put in one by one (by wip/tools/mk_grams.py).
-/
namespace Go.Proofs.Ytpniiaemgobaiab
open Go.RowKit
set_option linter.unusedVariables false
theorem str_info : (Try.prog.info? 9).map (fun i => (i.zero, i.size, i.bytes)) = some (some (.string ⟨#[]⟩), 1, 16) := by kernel_rfl
end Go.Proofs.Ytpniiaemgobaiab


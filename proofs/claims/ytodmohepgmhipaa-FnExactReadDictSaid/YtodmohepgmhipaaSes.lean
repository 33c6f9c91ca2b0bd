/-
  Sessions as texts and numbers; how they lie: as they are read, as they may be written.
-/
import Derived.Test.YtodmohepgmhipaaWr
import Derived.Test.YtodmohepgmhipaaPats2
namespace Go.Proofs.Ytodmohepgmhipaa
open Go.RowKit
set_option linter.unusedVariables false
set_option maxRecDepth 100000
structure Ses where
  D : List Pt
  r : Int
  b : Int
  a : Int
  C : List (List Int)
  Q : List Int
  z : Bool
def rowAt (C : List (List Int)) (i : Nat) : List Int := C.getD i []
def ColAt (w : World) (b o : Nat) (K : List Int) : Prop := ∃ a cap, w.cell? ⟨b, o, none⟩ = some (.slice a K.length cap) ∧ Ints w a K
def ColsAt (w : World) (b off : Nat) (C : List (List Int)) : Prop := ∀ i, i < C.length → ColAt w b (off + i) (rowAt C i)
def Cols (w : World) (a : Option Addr) (C : List (List Int)) : Prop := C = [] ∨ ∃ b off, a = some ⟨b, off, none⟩ ∧ ColsAt w b off C
theorem ColAt.kept {w w1 : World} {b o : Nat} {K : List Int} (h : ColAt w b o K) (hb : Below w.heap.size w w1) : ColAt w1 b o K := by
  obtain ⟨a, cap, h0, hi⟩ := h
  exact ⟨a, cap, (hb.cell (p := ⟨b, _, none⟩) (block_lt_of_cell h0)).trans h0, hi.kept hb⟩
theorem Cols.at {w : World} {a : Option Addr} {C : List (List Int)} (h : Cols w a C) (i : Nat) (hi : i < C.length) : ∃ b off, a = some ⟨b, off, none⟩ ∧ ColsAt w b off C := by
  rcases h with rfl | h
  · simp at hi
  · exact h
theorem Cols.kept {w w1 : World} {a : Option Addr} {C : List (List Int)} (h : Cols w a C) (hb : Below w.heap.size w w1) : Cols w1 a C := by
  rcases h with rfl | ⟨b, off, rfl, h⟩
  · exact .inl rfl
  · exact .inr ⟨b, off, rfl, fun i hi => (h i hi).kept hb⟩
/-- all rows together, up to row i -/
def colSum (C : List (List Int)) : Nat → Nat
  | 0 => 0
  | i + 1 => colSum C i + (rowAt C i).length
theorem colSum_le (C : List (List Int)) {i j : Nat} (h : i ≤ j) : colSum C i ≤ colSum C j := by
  induction j with
  | zero => obtain rfl : i = 0 := by omega
            exact Nat.le_refl _
  | succ j ih =>
    by_cases e : i = j + 1
    · subst e; exact Nat.le_refl _
    · have := ih (by omega); simp only [colSum]; omega
theorem colSum_at (C : List (List Int)) (i n : Nat) (h : i < n) : (rowAt C i).length ≤ colSum C n := by
  have := colSum_le C (show i + 1 ≤ n from h)
  simp only [colSum] at this
  omega
theorem colSum_congr {C C' : List (List Int)} {n : Nat} (h : ∀ i, i < n → (rowAt C i).length = (rowAt C' i).length) : colSum C n = colSum C' n := by
  induction n with
  | zero => rfl
  | succ n ih => simp only [colSum]; rw [ih fun i hi => h i (by omega), h n (by omega)]
def patRow (V : List Value) (i : Nat) (p : Pt) : Prop := valAt V (i * 3) = .string p.t ∧ valAt V (i * 3 + 1) = .int .i64 p.k ∧ valAt V (i * 3 + 2) = .bool p.f
def PatsV (V : List Value) (L : List Pt) : Prop := V.length = L.length * 3 ∧ ∀ i, i < L.length → patRow V i (ptAt L i)
theorem PatsV.pats {w : World} {a : Option Addr} {V : List Value} {L : List Pt} (hV : PatsV V L) (h : Vals w a V) : Pats w a L := by
  rcases h with h | ⟨b, off, rfl, h⟩
  · left
    subst h
    have := hV.1
    exact List.eq_nil_of_length_eq_zero (by simp at this; omega)
  · refine .inr ⟨b, off, rfl, fun i hi => ?_⟩
    obtain ⟨q0, q1, q2⟩ := hV.2 i hi
    have hl := hV.1
    have c0 := h (i * 3) (by omega)
    have c1 := h (i * 3 + 1) (by omega)
    have c2 := h (i * 3 + 2) (by omega)
    rw [q0] at c0; rw [q1, ← Nat.add_assoc] at c1; rw [q2, ← Nat.add_assoc] at c2
    exact ⟨c0, c1, c2⟩
theorem PatsV.nil_iff {V : List Value} {L : List Pt} (h : PatsV V L) : V ≠ [] → L.length ≠ 0 := fun hV e => hV (List.eq_nil_of_length_eq_zero (by rw [h.1, e]))
theorem made_wr {w : World} {g : Nat} {L : List Pt} (h : Made w g L.length L.length L) : ∃ P, PatsV P L ∧ Wr w (some ⟨g, 0, none⟩) P := by
  obtain ⟨cur, h1, h2, h3⟩ := h
  have hv : ∀ i, i < cur.size → ∀ u, cur[i]? = some u → valAt cur.toList i = u := fun i hi u hu => by
    simp only [valAt, List.getD_eq_getElem?_getD, Array.getElem?_toList, hu, Option.getD_some]
  refine ⟨cur.toList, ⟨by simpa using h2, fun i hi => ?_⟩, .inr ⟨g, 0, rfl, fun i hi => ?_, fun i => frozen_of_row w g i _ _ h1⟩⟩
  · obtain ⟨q0, q1, q2⟩ := h3 i hi
    exact ⟨hv _ (by omega) _ q0, hv _ (by omega) _ q1, hv _ (by omega) _ q2⟩
  · have hi' : i < cur.size := by simpa using hi
    rw [Nat.zero_add, cell_of_row w g _ _ _ _ h1, hv i hi' cur[i] (by simp [hi'])]
    simp [hi']
/-- the cells of rows -/
def colV (cA : Nat → Option Addr) (cC : Nat → Nat) (C : List (List Int)) : List Value := (List.range C.length).map fun j => .slice (cA j) (rowAt C j).length (cC j)
theorem colV_length (cA : Nat → Option Addr) (cC : Nat → Nat) (C : List (List Int)) : (colV cA cC C).length = C.length := by simp [colV]
theorem colV_at (cA : Nat → Option Addr) (cC : Nat → Nat) (C : List (List Int)) (j : Nat) (h : j < C.length) : valAt (colV cA cC C) j = .slice (cA j) (rowAt C j).length (cC j) := by
  simp [valAt, colV, List.getD_eq_getElem?_getD, h]
/-- rows that may be written -/
structure ColsW (w : World) (ac : Option Addr) (cA : Nat → Option Addr) (cC : Nat → Nat) (C : List (List Int)) : Prop where
  top : Wr w ac (colV cA cC C)
  row : ∀ j, j < C.length → WrI w (cA j) (rowAt C j)
theorem ColsW.cols {w : World} {ac : Option Addr} {cA : Nat → Option Addr} {cC : Nat → Nat} {C : List (List Int)} (h : ColsW w ac cA cC C) : Cols w ac C := by
  rcases h.top.vals with h0 | ⟨b, off, rfl, hv⟩
  · left
    have := colV_length cA cC C
    rw [h0] at this
    exact List.eq_nil_of_length_eq_zero this.symm
  · refine .inr ⟨b, off, rfl, fun i hi => ⟨cA i, cC i, ?_, (h.row i hi).ints⟩⟩
    have := hv i (by rw [colV_length]; exact hi)
    rwa [colV_at _ _ _ _ hi] at this
def sesV (ad ac aq : Option Addr) (cd cc cq nq : Nat) (s : Ses) : Value := .agg #[.slice ad s.D.length cd, .int .i64 s.r, .int .i64 s.b, .int .i64 s.a, .slice ac s.C.length cc, .slice aq nq cq, .bool s.z]
/-- v reads as s -/
def SesV (w : World) (v : Value) (s : Ses) : Prop := ∃ ad ac aq cd cc cq nq, v = sesV ad ac aq cd cc cq nq s ∧ s.Q.length = nq * 3 ∧ Pats w ad s.D ∧ Cols w ac s.C ∧ Ints w aq s.Q
theorem SesV.kept {w w1 : World} {v : Value} {s : Ses} (h : SesV w v s) (hb : Below w.heap.size w w1) : SesV w1 v s := by
  obtain ⟨ad, ac, aq, cd, cc, cq, nq, e, hn, h1, h2, h3⟩ := h
  exact ⟨ad, ac, aq, cd, cc, cq, nq, e, hn, h1.kept hb, h2.kept hb, h3.kept hb⟩
def sSlot (ad ac aq : Option Addr) (cA : Nat → Option Addr) : Nat → Option Addr
  | 0 => ad
  | 1 => ac
  | 2 => aq
  | j + 3 => cA j
def sLen (s : Ses) : Nat → Nat
  | 0 => s.D.length
  | 1 => s.C.length
  | 2 => s.Q.length
  | j + 3 => (rowAt s.C j).length
structure SesP (w : World) (B E : Nat) (ad ac aq : Option Addr) (cA : Nat → Option Addr) (cC : Nat → Nat) (P : List Value) (s : Ses) : Prop where
  pat : PatsV P s.D
  dict : Wr w ad P
  cols : ColsW w ac cA cC s.C
  que : WrI w aq s.Q
  lies : Lies B E (s.C.length + 3) (sSlot ad ac aq cA) (sLen s)
/-- v reads as s, and may be written: what it leads to lies in blocks from B on and below E, apart from each other -/
def SesW (w : World) (B E : Nat) (v : Value) (s : Ses) : Prop := ∃ ad ac aq cd cc cq nq cA cC P, v = sesV ad ac aq cd cc cq nq s ∧ s.Q.length = nq * 3 ∧ SesP w B E ad ac aq cA cC P s
section
variable {w w1 : World} {B E : Nat} {v : Value} {s : Ses} {ad ac aq : Option Addr} {cA : Nat → Option Addr} {cC : Nat → Nat} {P : List Value}
theorem SesP.in0 (h : SesP w B E ad ac aq cA cC P s) {g o : Nat} (hP : P ≠ []) (e : ad = some ⟨g, o, none⟩) : B ≤ g ∧ g < E := by
  obtain ⟨g', o', e', h1, h2⟩ := h.lies.inn 0 (by omega) (h.pat.nil_iff hP)
  have e2 : ad = some ⟨g', o', none⟩ := e'
  rw [e] at e2; cases e2; exact ⟨h1, h2⟩
theorem colV_nil (hV : colV cA cC s.C ≠ []) : s.C.length ≠ 0 := fun e0 => hV (List.eq_nil_of_length_eq_zero (by rw [colV_length]; exact e0))
theorem map_nil {L : List Int} (hV : L.map (Value.int .i64) ≠ []) : L.length ≠ 0 := fun e0 => hV (List.eq_nil_of_length_eq_zero (by rw [List.length_map]; exact e0))
theorem SesP.in1 (h : SesP w B E ad ac aq cA cC P s) {g o : Nat} (hV : s.C.length ≠ 0) (e : ac = some ⟨g, o, none⟩) : B ≤ g ∧ g < E := by
  obtain ⟨g', o', e', h1, h2⟩ := h.lies.inn 1 (by omega) hV
  have e2 : ac = some ⟨g', o', none⟩ := e'
  rw [e] at e2; cases e2; exact ⟨h1, h2⟩
theorem SesP.in2 (h : SesP w B E ad ac aq cA cC P s) {g o : Nat} (hV : s.Q.length ≠ 0) (e : aq = some ⟨g, o, none⟩) : B ≤ g ∧ g < E := by
  obtain ⟨g', o', e', h1, h2⟩ := h.lies.inn 2 (by omega) hV
  have e2 : aq = some ⟨g', o', none⟩ := e'
  rw [e] at e2; cases e2; exact ⟨h1, h2⟩
theorem SesP.in3 (h : SesP w B E ad ac aq cA cC P s) {j g o : Nat} (hj : j < s.C.length) (hV : (rowAt s.C j).length ≠ 0) (e : cA j = some ⟨g, o, none⟩) : B ≤ g ∧ g < E := by
  obtain ⟨g', o', e', h1, h2⟩ := h.lies.inn (j + 3) (by omega) hV
  have e2 : cA j = some ⟨g', o', none⟩ := e'
  rw [e] at e2; cases e2; exact ⟨h1, h2⟩
/-- kept where no block between B and E is turned -/
theorem SesP.on (h : SesP w B E ad ac aq cA cC P s) (hb : ∀ k, k < w.heap.size → B ≤ k → k < E → w1.heap[k]? = w.heap[k]?) : SesP w1 B E ad ac aq cA cC P s :=
  ⟨h.pat, h.dict.on fun hP g o e hlt => hb g hlt (h.in0 hP e).1 (h.in0 hP e).2,
   ⟨h.cols.top.on fun hV g o e hlt => hb g hlt (h.in1 (colV_nil hV) e).1 (h.in1 (colV_nil hV) e).2,
    fun j hj => Wr.on (h.cols.row j hj) fun hV g o e hlt => hb g hlt (h.in3 hj (map_nil hV) e).1 (h.in3 hj (map_nil hV) e).2⟩,
   Wr.on h.que fun hV g o e hlt => hb g hlt (h.in2 (map_nil hV) e).1 (h.in2 (map_nil hV) e).2, h.lies⟩
theorem SesW.on (h : SesW w B E v s) (hb : ∀ k, k < w.heap.size → B ≤ k → k < E → w1.heap[k]? = w.heap[k]?) : SesW w1 B E v s := by
  obtain ⟨ad, ac, aq, cd, cc, cq, nq, cA, cC, P, e, hn, hp⟩ := h
  exact ⟨ad, ac, aq, cd, cc, cq, nq, cA, cC, P, e, hn, hp.on hb⟩
theorem SesW.kept (h : SesW w B E v s) (hb : Below w.heap.size w w1) : SesW w1 B E v s := h.on fun k hk _ _ => hb.block k hk
theorem SesW.trn {S : Nat → Prop} (h : SesW w B E v s) (ht : Trn S w w1) (hS : ∀ k, S k → k < B ∨ E ≤ k) : SesW w1 B E v s := h.on fun k hk h1 h2 => ht.block k hk fun hs => by have := hS k hs; omega
theorem SesW.mid {B1 E1 : Nat} (h : SesW w B E v s) (hm : Mid B1 E1 w w1) (hE : E1 ≤ B ∨ E ≤ B1) : SesW w1 B E v s := h.on fun k hk h1 h2 => hm.block k hk (by omega)
theorem SesW.wide {B1 E1 : Nat} (h : SesW w B E v s) (hB : B1 ≤ B) (hE : E ≤ E1) : SesW w B1 E1 v s := by
  obtain ⟨ad, ac, aq, cd, cc, cq, nq, cA, cC, P, e, hn, hp⟩ := h
  exact ⟨ad, ac, aq, cd, cc, cq, nq, cA, cC, P, e, hn, hp.pat, hp.dict, hp.cols, hp.que, hp.lies.wide hB hE⟩
theorem SesW.read (h : SesW w B E v s) : SesV w v s := by
  obtain ⟨ad, ac, aq, cd, cc, cq, nq, cA, cC, P, e, hn, hp⟩ := h
  exact ⟨ad, ac, aq, cd, cc, cq, nq, e, hn, hp.pat.pats hp.dict.vals, hp.cols.cols, hp.que.ints⟩
end
/-- not too much of anything -/
structure SesB (M : Nat) (s : Ses) : Prop where
  d : s.D.length ≤ M
  t : ∀ i, i < s.D.length → (ptAt s.D i).t.size ≤ M
  c : s.C.length ≤ M
  r : ∀ i, i < s.C.length → (rowAt s.C i).length ≤ M
  q : s.Q.length ≤ M * 3
end Go.Proofs.Ytodmohepgmhipaa

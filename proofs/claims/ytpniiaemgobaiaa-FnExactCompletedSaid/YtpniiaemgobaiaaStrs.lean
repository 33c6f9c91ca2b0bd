/-
  Slices of texts: as lists of lists of bytes; two texts held against each other; a text put into a list in order.
-/
import Derived.Test.YtpniiaemgobaiaaOwnV
import Derived.Test.YtpniiaemgobaiaaDistFacts
import Derived.Test.YtpniiaemgobaiaaGram
import Derived.Sort.Walk0
namespace Go.Proofs.Ytpniiaemgobaiaa
open Go.RowKit
set_option linter.unusedVariables false
set_option maxRecDepth 100000
def txt (x : List UInt8) : ByteArray := ⟨x.toArray⟩
theorem bl_txt (x : List UInt8) : bl (txt x) = x := by show x.toArray.toList = x; simp
theorem txt_bl (s : ByteArray) : txt (bl s) = s := by show ByteArray.mk s.data.toList.toArray = s; simp
theorem txt_size (x : List UInt8) : (txt x).size = x.length := by show x.toArray.size = _; simp
def strV (x : List UInt8) : Value := .string (txt x)
def strs (L : List (List UInt8)) : List Value := L.map strV
theorem strs_length (L : List (List UInt8)) : (strs L).length = L.length := by simp [strs]
theorem strs_one (L : List (List UInt8)) : ∀ u ∈ strs L, u.oneCell' = true := by
  intro u hu
  obtain ⟨x, _, rfl⟩ := List.mem_map.1 hu
  rfl
theorem strs_at {L : List (List UInt8)} {k : Nat} (h : k < L.length) : valAt (strs L) k = .string (txt (L.getD k [])) := by
  unfold valAt strs
  simp [List.getD_eq_getElem?_getD, h, strV]
theorem strs_append (A B : List (List UInt8)) : strs (A ++ B) = strs A ++ strs B := by simp [strs]
theorem toList_bl (s : ByteArray) : s.toList = bl s := ByteArray.toList_eq s
theorem strLt (A X : ByteArray) : Op.bytesLess A.toList X.toList = decide (bl A < bl X) := by
  rw [toList_bl, toList_bl]; exact bytesLess_eq _ _
theorem strEq (A X : ByteArray) : (A.toList == X.toList) = decide (bl A = bl X) := by
  rw [toList_bl, toList_bl]
  by_cases h : bl A = bl X
  · rw [decide_eq_true h]; simpa using h
  · rw [decide_eq_false h]; simpa using h
/-- where a text is put in -/
theorem insL_split (x : List UInt8) : ∀ (L : List (List UInt8)) (k : Nat), k ≤ L.length → (∀ j, j < k → ¬ x < L.getD j []) → (k = L.length ∨ x < L.getD k []) → insL x L = L.take k ++ x :: L.drop k
  | [], k, h, _, _ => by
    have : k = 0 := by simpa using h
    subst this; rfl
  | y :: L, 0, _, _, h2 => by
    rcases h2 with h2 | h2
    · simp at h2
    · rw [insL, if_pos (by simpa using h2)]; rfl
  | y :: L, k + 1, h, h1, h2 => by
    have h0 : ¬ x < y := by simpa using h1 0 (by omega)
    rw [insL, if_neg h0, insL_split x L k (by simpa using h) (fun j hj => by simpa using h1 (j + 1) (by omega)) (by
      rcases h2 with h2 | h2
      · exact .inl (by simpa using h2)
      · exact .inr (by simpa using h2))]
    rfl
theorem OwnV.cap_le {e m : Nat} {w : World} {B g n cap : Nat} {V : List Value} (h : OwnV e m w B (some ⟨g, 0, none⟩) n cap V) : n ≤ cap := by
  rcases h.2.2 with ⟨hv, _⟩ | ⟨g', c, cur, hv, _, _, hnc, _⟩
  · cases hv
  · simp only [Value.slice.injEq] at hv
    rw [hv.2.2]; exact hnc
theorem OwnV.part {e m : Nat} {w : World} {B g n cap : Nat} {V : List Value} (h : OwnV e m w B (some ⟨g, 0, none⟩) n cap V) (s t : Nat) : ∀ j u, ((V.drop s).take t)[j]? = some u → w.cell? ((⟨g, s, none⟩ : Addr).add j) = some u := by
  intro j u hj
  rw [List.getElem?_take] at hj
  split at hj
  · rw [List.getElem?_drop] at hj
    obtain ⟨hl, he⟩ := List.getElem?_eq_some_iff.1 hj
    have := h.cell (s + j) (by rw [← h.len]; exact hl)
    rw [Addr.add_lit, this]
    unfold valAt
    rw [List.getD_eq_getElem?_getD, List.getElem?_eq_getElem hl, he]; rfl
  · cases hj
/-- the piece of q bytes at place j -/
def gramAt (q : Nat) (l : List UInt8) (j : Nat) : List UInt8 := (l.drop j).take q
def gramsTo (q : Nat) (l : List UInt8) (m : Nat) : List (List UInt8) := (List.range m).map (gramAt q l)
theorem gramsTo_succ (q : Nat) (l : List UInt8) (m : Nat) : gramsTo q l (m + 1) = gramsTo q l m ++ [gramAt q l m] := by simp [gramsTo, List.range_succ]
theorem gramsTo_length (q : Nat) (l : List UInt8) (m : Nat) : (gramsTo q l m).length = m := by simp [gramsTo]
theorem gramsTo_cons (q : Nat) (x : UInt8) (l : List UInt8) (m : Nat) : gramsTo q (x :: l) (m + 1) = (x :: l).take q :: gramsTo q l m := by
  unfold gramsTo
  rw [List.range_succ_eq_map, List.map_cons, List.map_map]
  rfl
theorem gramsTo_all {q : Nat} (hq : 1 ≤ q) (l : List UInt8) : gramsTo q l (l.length + 1 - q) = gramsL q l := by
  induction l with
  | nil => rw [gramsL, show ([] : List UInt8).length + 1 - q = 0 by simp; omega]; rfl
  | cons x l ih =>
    rw [gramsL]
    by_cases h : q ≤ l.length + 1
    · rw [if_pos h, List.length_cons, show l.length + 1 + 1 - q = (l.length + 1 - q) + 1 by omega, gramsTo_cons, ih]
    · rw [if_neg h, List.length_cons, show l.length + 1 + 1 - q = 0 by omega]; rfl
theorem gramAt_extract (s : ByteArray) (q j : Nat) : bl (s.extract j (j + q)) = gramAt q (bl s) j := by
  rw [bl_extract]
  unfold gramAt
  rw [List.drop_take, show j + q - j = q by omega]
theorem gramAt_len {q : Nat} {l : List UInt8} {j : Nat} (h : j + q ≤ l.length) : (gramAt q l j).length = q := by
  unfold gramAt; rw [List.length_take, List.length_drop]; omega
/-- the first m pieces, put in one by one -/
def sortTo (q : Nat) (l : List UInt8) : Nat → List (List UInt8)
  | 0 => []
  | m + 1 => insL (gramAt q l m) (sortTo q l m)
theorem sortTo_length (q : Nat) (l : List UInt8) (m : Nat) : (sortTo q l m).length = m := by
  induction m with
  | zero => rfl
  | succ m ih => rw [sortTo, insL_len, ih]
theorem sortTo_up (q : Nat) (l : List UInt8) (m : Nat) : UpL (sortTo q l m) := by
  induction m with
  | zero => trivial
  | succ m ih => exact insL_up ih
theorem sortTo_count (q : Nat) (l : List UInt8) (m : Nat) (u : List UInt8) : (sortTo q l m).count u = (gramsTo q l m).count u := by
  induction m with
  | zero => rfl
  | succ m ih => rw [sortTo, insL_count, List.count_cons, ih, gramsTo_succ, List.count_append, List.count_singleton]
/-- all pieces in order -/
def gramsS (q : Nat) (s : ByteArray) : List (List UInt8) := sortTo q (bl s) (s.size + 1 - q)
theorem gramsS_count {q : Nat} (hq : 1 ≤ q) (s : ByteArray) (u : List UInt8) : (gramsS q s).count u = (gramsL q (bl s)).count u := by
  unfold gramsS
  rw [sortTo_count, ← bl_len, gramsTo_all hq]
theorem gramsS_length (q : Nat) (s : ByteArray) : (gramsS q s).length = s.size + 1 - q := sortTo_length _ _ _
theorem gramsS_up (q : Nat) (s : ByteArray) : UpL (gramsS q s) := sortTo_up _ _ _
def comN (q : Nat) (s t : ByteArray) : Nat := pairN (gramsL q (bl s)) (gramsL q (bl t))
theorem comL_gramsS {q : Nat} (hq : 1 ≤ q) (s t : ByteArray) : comL (gramsS q s) (gramsS q t) = comN q s t := by
  rw [comL_pair _ _ _ (Nat.le_refl _) (gramsS_up q s) (gramsS_up q t)]
  exact pairN_congr (gramsS_count hq s) (gramsS_count hq t)
end Go.Proofs.Ytpniiaemgobaiaa

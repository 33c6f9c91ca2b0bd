/-
  All records of a dictionary's patterns: as they are told.
-/
import Derived.Test.YtodmohepgmhipaaRecAdd
import Derived.Test.YtodmohepgmhipaaL3Ends
import Derived.Test.YtodmohepgmhipaaPats
namespace Go.Proofs.Ytodmohepgmhipaa
open Go.RowKit
set_option linter.unusedVariables false
set_option maxRecDepth 100000
def recsF (P : Int) (E : List Int) : Nat → List Rc
  | 0 => []
  | m + 1 => recsF P E m ++ [⟨P, intAt E (m * 2), intAt E (m * 2 + 1)⟩]
theorem recsF_length (P : Int) (E : List Int) (m : Nat) : (recsF P E m).length = m := by
  induction m with
  | zero => rfl
  | succ m ih => simp [recsF, ih]
def endsP (p : Pt) (r : ByteArray) : List Int := endF (lastD p.t r p.f) p.k (r.size + 1)
def endsC (p : Pt) (r : ByteArray) : Nat := endN (lastD p.t r p.f) p.k (r.size + 1)
theorem endsP_length (p : Pt) (r : ByteArray) : (endsP p r).length = endsC p r * 2 := endF_length _ _ _
theorem endsC_le (p : Pt) (r : ByteArray) : endsC p r ≤ r.size + 1 := endN_le _ _ _
/-- the records of the first i patterns, pattern by pattern -/
def allR (L : List Pt) (r : ByteArray) : Nat → List Rc
  | 0 => []
  | i + 1 => allR L r i ++ recsF i (endsP (ptAt L i) r) (endsC (ptAt L i) r)
theorem allR_length (L : List Pt) (r : ByteArray) (i : Nat) : (allR L r i).length ≤ i * (r.size + 1) := by
  induction i with
  | zero => simp [allR]
  | succ i ih =>
    simp only [allR, List.length_append, recsF_length]
    have := endsC_le (ptAt L i) r
    rw [Nat.add_mul, Nat.one_mul]; omega
theorem addAllR_length (r l : List Rc) : (addAllR l r).length = l.length + r.length := by
  have := (addAllR_perm r l).length_eq
  rw [List.length_append] at this; exact this
theorem OwnM.some_head {e m : Nat} {w : World} {B : Nat} {a : Option Addr} {n cap : Nat} {L : List Int} (h : OwnM e m w B a n cap L) (hn : 0 < n) : ∃ g, a = some ⟨g, 0, none⟩ ∧ n ≤ cap := by
  rcases h.2.2 with ⟨_, h0⟩ | ⟨g, c, cur, hv, _, _, hnc, _⟩
  · omega
  · simp only [Value.slice.injEq] at hv
    obtain ⟨rfl, _, rfl⟩ := hv
    exact ⟨g, rfl, hnc⟩
end Go.Proofs.Ytodmohepgmhipaa

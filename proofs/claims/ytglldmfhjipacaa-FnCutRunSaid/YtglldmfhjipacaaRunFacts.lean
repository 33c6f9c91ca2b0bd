/-
  Chapters 5 and 6: plain facts: the columns of a text, one behind the other; its rows.
-/
import Derived.Test.YtglldmfhjipacaaColNear
import Derived.Test.YtglldmfhjipacaaL3NextL
namespace Go.Proofs.Ytglldmfhjipacaa
open Go.RowKit
set_option linter.unusedVariables false
set_option maxRecDepth 100000
/-- the column behind q bytes of a text -/
def colQ (s t : ByteArray) (f : Bool) : Nat → Nat → Int
  | 0 => fun i => (i : Int)
  | q + 1 => nextAt (maskG s f ((byteAt t q).toNat : Int)) (colQ s t f q) 0
theorem colQ_near (s t : ByteArray) (f : Bool) : ∀ q, Near (colQ s t f q) s.size := by
  intro q
  induction q with
  | zero => exact near_id s.size
  | succ q ih => exact (near_next ih).1
theorem colQ_first {s t : ByteArray} {k : Int} {f : Bool} (hp : patOk s k = true) : firstColL s k = tab (colQ s t f 0) (s.size + 1) := by
  unfold firstColL; rw [hp]; rfl
theorem colQ_next {s t : ByteArray} {k : Int} {f : Bool} {q : Nat} (hp : patOk s k = true) : nextColL s k f ((byteAt t q).toNat : Int) (tab (colQ s t f q) (s.size + 1)) = tab (colQ s t f (q + 1)) (s.size + 1) := by
  have hb := (byteAt t q).toNat_lt
  have h1 : colOkB (patOk s k) s.size (tab (colQ s t f q) (s.size + 1)) = true := by rw [hp]; exact colOkB_near_tab (colQ_near s t f q)
  have h : nextColB s k ((byteAt t q).toNat : Int) (tab (colQ s t f q) (s.size + 1)) = true := by
    unfold nextColB; rw [h1, inB_yes ⟨by omega, by omega⟩]; rfl
  unfold nextColL
  rw [h]
  simp only [if_true]
  refine tab_congr fun i hi => ?_
  show _ = nextAt _ _ 0 i
  exact nextAt_congr (n := s.size) (fun _ _ => rfl) (fun j hj => intAt_tab _ _ _ (by omega)) i (by omega)
theorem byte_in (t : ByteArray) (q : Nat) : inB ((byteAt t q).toNat : Int) 0 255 = true := by
  have hb := (byteAt t q).toNat_lt
  exact inB_yes ⟨by omega, by omega⟩
end Go.Proofs.Ytglldmfhjipacaa

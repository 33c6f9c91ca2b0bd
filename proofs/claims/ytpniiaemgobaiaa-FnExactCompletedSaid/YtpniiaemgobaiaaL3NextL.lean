/-
  Chapter 3: NextCol, in the program and in its model; FnExactNextCol's walk.
-/
import Derived.Test.YtpniiaemgobaiaaL3NextS
import Derived.Test.YtpniiaemgobaiaaL3OkS
namespace Go.Proofs.Ytpniiaemgobaiaa
open Go.RowKit
set_option linter.unusedVariables false
set_option maxRecDepth 100000
def nextColB (s : ByteArray) (k : Int) (b : Int) (L : List Int) : Bool := colOkB (patOk s k) s.size L && inB b 0 255
def nextColL (s : ByteArray) (k : Int) (f : Bool) (b : Int) (L : List Int) : List Int := if nextColB s k b L then tab (nextAt (maskG s f b) (intAt L) 0) (s.size + 1) else []
theorem colOkB_bnd {ok : Bool} {n : Nat} {L : List Int} (h : colOkB ok n L = true) : Bnd (intAt L) n n := by
  intro i hi
  obtain ⟨_, h1, h2⟩ := (colOkB_iff _ _ _).1 h
  have := stepsB_bnd h2 i (by omega)
  omega
theorem eqP_mask (s : ByteArray) (b : Int) (n : Nat) (C : Nat → Int) (head : Int) : tab (nextAt (eqP s b) C head) n = tab (nextAt (maskG s false b) C head) n := rfl
theorem eqP_fold (s : ByteArray) (b : Int) (C : Nat → Int) (head : Int) : tab (nextAt (eqP (foldS s) (foldI b)) C head) (s.size + 1) = tab (nextAt (maskG s true b) C head) (s.size + 1) := by
  apply tab_congr
  intro i hi
  refine nextAt_congr (n := s.size) (fun j hj => ?_) (fun _ _ => rfl) i (by omega)
  have h2 : j < (foldS s).size := by rw [foldS_size]; exact hj
  rw [maskG_fold s b j h2, eqP_at _ _ _ h2]
theorem nextColL_len (s : ByteArray) (k : Int) (f : Bool) (b : Int) (L : List Int) (hs : s.size ≤ 1048576) : (nextColL s k f b L).length ≤ 1048577 := by
  unfold nextColL; split
  · rw [tab_length]; omega
  · simp
end Go.Proofs.Ytpniiaemgobaiaa

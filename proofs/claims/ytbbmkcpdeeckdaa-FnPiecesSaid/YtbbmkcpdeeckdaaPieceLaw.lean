/-
  Slices of pieces; the laws' own helpers on them.
-/
import Derived.Test.YtbbmkcpdeeckdaaOwnV
import Derived.Test.YtbbmkcpdeeckdaaMark
import Derived.Test.YtbbmkcpdeeckdaaIntLaw
namespace Go.Proofs.Ytbbmkcpdeeckdaa
open Go.RowKit
set_option linter.unusedVariables false
set_option maxRecDepth 100000
/-- the cells of n pieces -/
def pieceL (f : Nat → Int) (t : Nat → ByteArray) : Nat → List Value
  | 0 => []
  | n + 1 => pieceL f t n ++ [.int .i64 (f n), .string (t n)]
def upd {α : Type} (f : Nat → α) (i : Nat) (x : α) : Nat → α := fun j => if j = i then x else f j
theorem pieceL_length (f : Nat → Int) (t : Nat → ByteArray) (n : Nat) : (pieceL f t n).length = n * 2 := by
  induction n with
  | zero => rfl
  | succ n ih => simp only [pieceL, List.length_append, ih, List.length_cons, List.length_nil]; omega
theorem pieceL_at (f : Nat → Int) (t : Nat → ByteArray) (n i : Nat) (h : i < n) : valAt (pieceL f t n) (i * 2) = .int .i64 (f i) ∧ valAt (pieceL f t n) (i * 2 + 1) = .string (t i) := by
  induction n with
  | zero => omega
  | succ n ih =>
    simp only [pieceL]
    by_cases e : i = n
    · subst e
      rw [valAt_right (j := 0) (by rw [pieceL_length]; omega), valAt_right (j := 1) (by rw [pieceL_length])]
      exact ⟨rfl, rfl⟩
    · rw [valAt_left (by rw [pieceL_length]; omega), valAt_left (by rw [pieceL_length]; omega)]
      exact ih (by omega)
theorem pieceL_congr {f f' : Nat → Int} {t t' : Nat → ByteArray} (n : Nat) (h : ∀ i, i < n → f i = f' i ∧ t i = t' i) : pieceL f t n = pieceL f' t' n := by
  induction n with
  | zero => rfl
  | succ n ih => simp only [pieceL]; rw [ih fun i hi => h i (by omega), (h n (by omega)).1, (h n (by omega)).2]
theorem upd_other {α : Type} (f : Nat → α) (i j : Nat) (x : α) (h : j ≠ i) : upd f i x j = f j := by unfold upd; rw [if_neg h]
theorem upd_self {α : Type} (f : Nat → α) (i : Nat) (x : α) : upd f i x i = x := by unfold upd; rw [if_pos rfl]
theorem pieceL_setI (f : Nat → Int) (t : Nat → ByteArray) (n i : Nat) (x : Int) (h : i < n) : (pieceL f t n).set (i * 2) (.int .i64 x) = pieceL (upd f i x) t n := by
  induction n with
  | zero => omega
  | succ n ih =>
    simp only [pieceL]
    by_cases e : i = n
    · subst e
      rw [List.set_append_right _ _ (by rw [pieceL_length]; omega), pieceL_length, Nat.sub_self, upd_self, pieceL_congr i (f := upd f i x) (f' := f) (t := t) (t' := t) (fun j hj => ⟨upd_other _ _ _ _ (by omega), rfl⟩)]
      rfl
    · rw [List.set_append_left _ _ (by rw [pieceL_length]; omega), ih (by omega), upd_other _ _ _ _ (fun h => e h.symm)]
theorem pieceL_setT (f : Nat → Int) (t : Nat → ByteArray) (n i : Nat) (x : ByteArray) (h : i < n) : (pieceL f t n).set (i * 2 + 1) (.string x) = pieceL f (upd t i x) n := by
  induction n with
  | zero => omega
  | succ n ih =>
    simp only [pieceL]
    by_cases e : i = n
    · subst e
      rw [List.set_append_right _ _ (by rw [pieceL_length]; omega), pieceL_length, Nat.add_sub_cancel_left, upd_self, pieceL_congr i (f := f) (f' := f) (t := upd t i x) (t' := t) (fun j hj => ⟨rfl, upd_other _ _ _ _ (by omega)⟩)]
      rfl
    · rw [List.set_append_left _ _ (by rw [pieceL_length]; omega), ih (by omega), upd_other _ _ _ _ (fun h => e h.symm)]
/-- pieces marked from k on, up to j -/
def mkF (k : Int) (f : Nat → Int) (j : Nat) : Nat → Int := fun i => if i < j then k + (i : Int) * 2 else f i
def mkT (k : Int) (t : Nat → ByteArray) (j : Nat) : Nat → ByteArray := fun i => if i < j then markS (k + (i : Int) * 2 + 1) else t i
theorem pieceL_mk (k : Int) (f : Nat → Int) (t : Nat → ByteArray) (n j : Nat) : pieceL (upd (mkF k f j) j (k + (j : Int) * 2)) (upd (mkT k t j) j (markS (k + (j : Int) * 2 + 1))) n = pieceL (mkF k f (j + 1)) (mkT k t (j + 1)) n := by
  refine pieceL_congr n fun i _ => ?_
  unfold upd mkF mkT
  by_cases e : i = j
  · subst e; simp
  · by_cases h : i < j
    · simp [e, h, show i < j + 1 by omega]
    · simp [e, h, show ¬ i < j + 1 by omega]
theorem pieceL_mk0 (k : Int) (f : Nat → Int) (t : Nat → ByteArray) (n : Nat) : pieceL (mkF k f 0) (mkT k t 0) n = pieceL f t n := pieceL_congr n fun i _ => ⟨by simp [mkF], by simp [mkT]⟩
end Go.Proofs.Ytbbmkcpdeeckdaa

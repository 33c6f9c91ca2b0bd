/-
  Chapter 4: a column as bits: contracts of MyersNew, in the program and in its model.
-/
import Derived.Test.YtodmohepgmhipaaL3First
import Derived.Test.YtodmohepgmhipaaL1Mask
import Derived.Deep.RegionLaw
namespace Go.Proofs.Ytodmohepgmhipaa
open Go.RowKit
set_option linter.unusedVariables false
set_option maxRecDepth 100000
def upG (L : List Int) (i : Nat) : Bool := decide (intAt L (i + 1) - intAt L i = 1)
def dnG (L : List Int) (i : Nat) : Bool := decide (intAt L (i + 1) - intAt L i = -1)
def myV (u d s : Int) : Value := .agg #[.int .i64 u, .int .i64 d, .int .i64 s]
theorem maskTo_yes {g : Nat → Bool} {k : Nat} (h : g k = true) : maskTo g (k + 1) = maskTo g k + 2 ^ k := by simp [maskTo, h]
theorem maskTo_no {g : Nat → Bool} {k : Nat} (h : g k = false) : maskTo g (k + 1) = maskTo g k := by simp [maskTo, h]
theorem maskTo_ltI (g : Nat → Bool) (k : Nat) : ((maskTo g k : Nat) : Int) < 2 ^ k := by
  have h := maskTo_lt g k
  have : ((2 ^ k : Nat) : Int) = (2 : Int) ^ k := by simp
  omega
theorem maskTo_all (g : Nat → Bool) (n : Nat) (h : ∀ i, i < n → g i = true) : ((maskTo g n : Nat) : Int) = 2 ^ n - 1 := by
  induction n with
  | zero => rfl
  | succ n ih =>
    rw [maskTo_yes (h n (by omega)), Int.natCast_add, ih (fun i hi => h i (by omega))]
    have : ((2 ^ n : Nat) : Int) = (2 : Int) ^ n := by simp
    rw [this, Int.pow_succ]; omega
theorem maskTo_none (g : Nat → Bool) (n : Nat) (h : ∀ i, i < n → g i = false) : maskTo g n = 0 := by
  induction n with
  | zero => rfl
  | succ n ih => rw [maskTo_no (h n (by omega)), ih (fun i hi => h i (by omega))]
theorem below_set3 {B g : Nat} {w1 w : World} (h : Below B w1 w) (hg : B ≤ g) (a b c : Value) : Below B w1 (((w.setCell ⟨g, 0, none⟩ a).setCell ⟨g, 1, none⟩ b).setCell ⟨g, 2, none⟩ c) :=
  ((h.setCell (p := ⟨g, 0, none⟩) hg a).setCell (p := ⟨g, 1, none⟩) hg b).setCell (p := ⟨g, 2, none⟩) hg c
theorem alloc2_cell (w : World) (o p : Obj) : (w.alloc o).heap.size = w.heap.size + 1 := by simp
def myersNewV (s : ByteArray) (k : Int) : Value := if patOk s k then myV (2 ^ s.size - 1) 0 s.size else myV 0 0 0
theorem l4Of_first (n : Nat) : myV (maskTo (upG (tab idI (n + 1))) (n + 1 - 1) : Nat) (maskTo (dnG (tab idI (n + 1))) (n + 1 - 1) : Nat) (intAt (tab idI (n + 1)) (n + 1 - 1)) = myV (2 ^ n - 1) 0 n := by
  have h1 : ∀ i, i < n → upG (tab idI (n + 1)) i = true := by
    intro i hi
    unfold upG; rw [intAt_tab _ _ _ (by omega), intAt_tab _ _ _ (by omega)]; apply decide_eq_true; unfold idI; omega
  have h2 : ∀ i, i < n → dnG (tab idI (n + 1)) i = false := by
    intro i hi
    unfold dnG; rw [intAt_tab _ _ _ (by omega), intAt_tab _ _ _ (by omega)]; apply decide_eq_false; unfold idI; omega
  have e : n + 1 - 1 = n := rfl
  rw [e, maskTo_all _ _ h1, maskTo_none _ _ h2, intAt_tab _ _ _ (by omega)]; rfl
end Go.Proofs.Ytodmohepgmhipaa

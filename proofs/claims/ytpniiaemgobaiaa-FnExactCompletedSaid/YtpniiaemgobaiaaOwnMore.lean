/-
  Slices of int64 that a call makes by appending.
-/
import Derived.Test.YtpniiaemgobaiaaInts
import Derived.Deep.RegionLaw
import Derived.Deep.AppendLies
namespace Go.Proofs.Ytpniiaemgobaiaa
open Go.RowKit
set_option linter.unusedVariables false
set_option maxRecDepth 100000
theorem OwnN.shape1 {w : World} {B : Nat} {v : Value} {n : Nat} {L : List Int} (h : w.ownsRow B 2 1 v (n + 1) (L.map (Value.int .i64))) : ∃ g cap, v = .slice (some ⟨g, 0, none⟩) (n + 1) cap ∧ OwnN w B (some ⟨g, 0, none⟩) (n + 1) cap L := by
  obtain ⟨a, cap, rfl, hO⟩ := OwnN.shape h
  obtain ⟨g, rfl, _, _⟩ := hO.head 0 (by omega)
  exact ⟨g, cap, rfl, hO⟩
theorem OwnN.snoc {w : World} {B : Nat} {g n cap : Nat} {f : Nat → Int} (h : w.ownsRow B 2 1 (.slice (some ⟨g, 0, none⟩) (n + 1) cap) (n + 1) ((tab f n).map (Value.int .i64) ++ [.int .i64 (f n)])) : OwnN w B (some ⟨g, 0, none⟩) (n + 1) cap (tab f (n + 1)) :=
  ⟨tab_length _ _, own_snoc h⟩
theorem OwnN.below {w w1 w0 : World} {B : Nat} {a : Option Addr} {n cap : Nat} {L : List Int} {v : Value} (h : OwnN w B a n cap L) (hb : Below B w0 w) (hB : B ≤ w.heap.size) (hg : w.grownBy w1 (Value.slice a n cap).ownBlock) : Below B w0 w1 :=
  hb.grown hg hB fun k hk => (h.2.lt k hk).1
end Go.Proofs.Ytpniiaemgobaiaa

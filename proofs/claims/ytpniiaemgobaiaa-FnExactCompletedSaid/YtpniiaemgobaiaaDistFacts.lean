/-
  Plain facts: by how much texts differ: the one as the other, by way of a third, turned round, piece by piece.
-/
import Derived.Test.YtpniiaemgobaiaaL3DistS
import Derived.Test.YtpniiaemgobaiaaL3DrawD
namespace Go.Proofs.Ytpniiaemgobaiaa
open Go.RowKit
set_option linter.unusedVariables false
set_option maxRecDepth 100000
def fl (f : Bool) (s : ByteArray) : List UInt8 := if f then foldL (bl s) else bl s
theorem bl_foldIf (f : Bool) (s : ByteArray) : bl (foldIf f s) = fl f s := by
  cases f
  · rfl
  · show (foldL s.data.toList).toArray.toList = foldL s.data.toList; simp
theorem fl_len (f : Bool) (s : ByteArray) : (fl f s).length = s.size := by rw [← bl_foldIf, bl_len, foldIf_size]
theorem fl_back (f : Bool) (s : ByteArray) : fl f (backS s) = (fl f s).reverse := by
  have e : bl (backS s) = (bl s).reverse := by show (bl s).reverse.toArray.toList = _; simp
  unfold fl foldL
  rw [e]; cases f <;> simp
theorem bl_append (s t : ByteArray) : bl (s ++ t) = bl s ++ bl t := by
  show (s ++ t).data.toList = _
  simp [bl]
theorem fl_append (f : Bool) (s t : ByteArray) : fl f (s ++ t) = fl f s ++ fl f t := by
  unfold fl foldL; rw [bl_append]; cases f <;> simp
theorem bl_extract (s : ByteArray) (i j : Nat) : bl (s.extract i j) = ((bl s).take j).drop i := by
  show (s.extract i j).data.toList = _
  rw [ByteArray.data_extract, Array.toList_extract]
  simp [List.extract_eq_take_drop, List.drop_take]; rfl
theorem fl_extract (f : Bool) (s : ByteArray) (i j : Nat) : fl f (s.extract i j) = ((fl f s).take j).drop i := by
  unfold fl foldL; rw [bl_extract]; cases f <;> simp [List.map_drop, List.map_take]
theorem distI_ed {s r : ByteArray} {f : Bool} (hs : s.size ≤ 200) (hr : r.size ≤ 200) : distI s r f = (ed (fl f s) (fl f r) : Nat) := by
  rw [distI_yes ⟨hs, hr⟩, colAt_ed _ _ _ _ (by rw [foldIf_size]; exact Nat.le_refl _) (by rw [foldIf_size]; exact Nat.le_refl _), bl_foldIf, bl_foldIf, List.take_of_length_le (by rw [fl_len]; exact Nat.le_refl _), List.take_of_length_le (by rw [fl_len]; exact Nat.le_refl _)]
theorem alikeS_fl (s r : ByteArray) (f : Bool) : alikeS s r f = (fl f s == fl f r) := by
  unfold alikeS fl; cases f <;> rfl
theorem backS_size (s : ByteArray) : (backS s).size = s.size := by rw [← backTo_all, backTo_size _ _ (Nat.le_refl _)]
theorem dist_symm (s r : ByteArray) (f : Bool) : distI r s f = distI s r f := by
  by_cases h : s.size ≤ 200 ∧ r.size ≤ 200
  · rw [distI_ed h.1 h.2, distI_ed h.2 h.1, ed_symm]
  · rw [distI_no h, distI_no fun e => h ⟨e.2, e.1⟩]
theorem dist_self (s : ByteArray) (f : Bool) (hs : s.size ≤ 200) : distI s s f = 0 := by rw [distI_ed hs hs, ed_self]; rfl
theorem dist_back (s r : ByteArray) (f : Bool) (hs : s.size ≤ 200) (hr : r.size ≤ 200) : distI (backS s) (backS r) f = distI s r f := by
  rw [distI_ed hs hr, distI_ed (by rw [backS_size]; exact hs) (by rw [backS_size]; exact hr), fl_back, fl_back, ed_rev]
theorem dist_tri (s c r : ByteArray) (f : Bool) (hs : s.size ≤ 200) (hc : c.size ≤ 200) (hr : r.size ≤ 200) : distI s r f ≤ distI s c f + distI c r f := by
  rw [distI_ed hs hr, distI_ed hs hc, distI_ed hc hr]
  have := ed_tri (fl f s) (fl f c) (fl f r)
  omega
theorem dist_zero (s r : ByteArray) (f : Bool) (hs : s.size ≤ 200) (hr : r.size ≤ 200) : (distI s r f == 0) = alikeS s r f := by
  rw [distI_ed hs hr, alikeS_fl]
  by_cases h : fl f s = fl f r
  · rw [h, ed_self]; simp
  · have h2 : ¬ ed (fl f s) (fl f r) = 0 := fun e => h (ed_zero _ _ e)
    have h3 : ¬ ((ed (fl f s) (fl f r) : Nat) : Int) = 0 := by omega
    rw [Bool.eq_iff_iff]; simp only [beq_iff_eq]
    exact ⟨fun e => absurd e h3, fun e => absurd e h⟩
theorem dist_bnd (s r : ByteArray) (f : Bool) (hs : s.size ≤ 200) (hr : r.size ≤ 200) : (s.size : Int) - r.size ≤ distI s r f ∧ 0 ≤ distI s r f ∧ (distI s r f ≤ s.size ∨ distI s r f ≤ r.size) := by
  rw [distI_ed hs hr]
  have h := ed_len (fl f s) (fl f r)
  rw [fl_len, fl_len] at h
  omega
theorem dist_pieces (s r : ByteArray) (f : Bool) (i j : Nat) (hi : i ≤ s.size) (hj : j ≤ r.size) (hs : s.size ≤ 200) (hr : r.size ≤ 200) :
    distI s r f ≤ distI (s.extract 0 i) (r.extract 0 j) f + distI (s.extract i s.size) (r.extract j r.size) f := by
  have z1 : (s.extract 0 i).size ≤ 200 := by rw [ByteArray.size_extract]; omega
  have z2 : (r.extract 0 j).size ≤ 200 := by rw [ByteArray.size_extract]; omega
  have z3 : (s.extract i s.size).size ≤ 200 := by rw [ByteArray.size_extract]; omega
  have z4 : (r.extract j r.size).size ≤ 200 := by rw [ByteArray.size_extract]; omega
  rw [distI_ed hs hr, distI_ed z1 z2, distI_ed z3 z4, fl_extract, fl_extract, fl_extract, fl_extract]
  have e1 : (fl f s).take s.size = fl f s := List.take_of_length_le (by rw [fl_len]; exact Nat.le_refl _)
  have e2 : (fl f r).take r.size = fl f r := List.take_of_length_le (by rw [fl_len]; exact Nat.le_refl _)
  rw [e1, e2, List.drop_zero, List.drop_zero]
  have := ed_prepend ((fl f s).drop i) ((fl f r).drop j) ((fl f s).take i) ((fl f r).take j)
  rw [List.take_append_drop, List.take_append_drop] at this
  omega
theorem dist_last (s r q : ByteArray) (f : Bool) (hq : q.size = 1) (hs : s.size ≤ 100) (hr : r.size ≤ 100) : distI (s ++ q) (r ++ q) f = distI s r f := by
  have z1 : (s ++ q).size ≤ 200 := by rw [ByteArray.size_append]; omega
  have z2 : (r ++ q).size ≤ 200 := by rw [ByteArray.size_append]; omega
  rw [distI_ed z1 z2, distI_ed (by omega) (by omega), fl_append, fl_append]
  have hl : (fl f q).length = 1 := by rw [fl_len, hq]
  match h : fl f q, hl with
  | [x], _ => rw [ed_same_last]
theorem dist_head (s r q : ByteArray) (f : Bool) (hq : q.size = 1) (hs : s.size ≤ 100) (hr : r.size ≤ 100) : distI (q ++ s) (q ++ r) f = distI s r f := by
  have z1 : (q ++ s).size ≤ 200 := by rw [ByteArray.size_append]; omega
  have z2 : (q ++ r).size ≤ 200 := by rw [ByteArray.size_append]; omega
  rw [distI_ed z1 z2, distI_ed (by omega) (by omega), fl_append, fl_append]
  have hl : (fl f q).length = 1 := by rw [fl_len, hq]
  match h : fl f q, hl with
  | [x], _ => rw [List.singleton_append, List.singleton_append, ed_same_head]
end Go.Proofs.Ytpniiaemgobaiaa

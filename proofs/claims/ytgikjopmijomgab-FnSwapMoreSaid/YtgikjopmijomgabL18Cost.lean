/-
  Chapter 18: CostOf, in the program (rows in arrays) and in its model (by wip/tools/mk_cost.py).
-/
import Derived.Test.YtgikjopmijomgabRowA
import Derived.Test.YtgikjopmijomgabL18P
import Derived.Test.YtgikjopmijomgabL3Ok
import Derived.Test.YtgikjopmijomgabOwnMore
import Derived.Test.YtgikjopmijomgabL1Mask
import Derived.Laws.CopyOwn
namespace Go.Proofs.Ytgikjopmijomgab
open Go.RowKit
set_option linter.unusedVariables false
set_option maxRecDepth 100000
def zeros201 : Array Value := Array.replicate 201 (.int .i64 0)
theorem zeros_rowN (F : Nat → Int) : rowN F 0 = zeros201 := by
  apply Array.ext_getElem?
  intro i
  by_cases hi : i < 201
  · rw [rowN_at F 0 i hi, if_neg (by omega)]; simp [zeros201, hi]
  · rw [Array.getElem?_eq_none (by rw [rowN_size]; omega), Array.getElem?_eq_none (by simp [zeros201]; omega)]
theorem row_head {F : Nat → Int} {n : Int} (h : F 0 = n) : zeros201.setIfInBounds 0 (.int .i64 n) = rowN F 1 := by
  rw [← zeros_rowN F, ← h]; exact rowN_set F 0 (by omega)
theorem row_first {F : Nat → Int} (h : F 0 = 0) : rowN F 1 = zeros201 := by
  apply Array.ext_getElem?
  intro i
  by_cases hi : i < 201
  · rw [rowN_at F 1 i hi]
    have e : (if i < 1 then F i else 0) = 0 := by
      by_cases h0 : i < 1
      · obtain rfl : i = 0 := by omega
        rw [if_pos h0, h]
      · rw [if_neg h0]
    rw [e]; simp [zeros201, hi]
  · rw [Array.getElem?_eq_none (by rw [rowN_size]; omega), Array.getElem?_eq_none (by simp [zeros201]; omega)]
theorem row_zero (w : World) : (zeroValue 76).run Try.prog w = .ok (.agg zeros201) w := by kernel_rfl
theorem row_info : (Try.prog.info? 76).map (·.size) = some 201 := by kernel_rfl
theorem row_infoN (F : Nat → Int) (j : Nat) : (Try.prog.info? 76).map (·.size) = some (rowN F j).size := by rw [rowN_size]; exact row_info
theorem row_built (n : Int) : Try.prog.built 76 [(0, Value.int .i64 n)] = some (zeros201.setIfInBounds 0 (.int .i64 n)) := by kernel_rfl
theorem wpList_row1 {ops : Array Oper} {rest : List Oper} {o : Oper} {a : Act} {w : World} {Q : Exit → Act → World → Prop} (hg : o.guard = none) (x : Operand) (n : Int) (F : Nat → Int) (hF : F 0 = n) (ho : o.op = .build 76 #[(0, x)]) (hx : a.eval x = .int .i64 n)
    (h : wpList Try.prog ops Q rest (a.put o.dst (.agg (rowN F 1))) w) : wpList Try.prog ops Q (o :: rest) a w := by
  have hl : ((#[(0, x)] : Array (Nat × Operand)).map fun (i, x) => (i, a.eval x)).toList = [(0, Value.int .i64 n)] := by simp [hx]
  refine wpList_build hg 76 #[(0, x)] ho (by rw [hl, row_built]; rfl) ?_
  rw [hl, row_built, Option.getD_some, row_head hF]
  exact h
set_option maxHeartbeats 2000000 in
theorem impl_firstRow (n : Nat) (d : Int) (F : Nat → Int) (w : World) (hn : n ≤ 200) (h0 : F 0 = 0) (hs : ∀ i, F (i + 1) = F i + d) (hb : ∀ i, i ≤ 200 → 0 ≤ F i ∧ F i ≤ 1000000) :
    Calls Try.prog 53 #[.int .i64 n, .int .i64 d] w fun e w' => e = .returned (.agg (rowN F (n + 1))) ∧ Below w.heap.size w w' := by
  have hz := row_zero
  have HS := Lib.hid hs; have HB := Lib.hid hb; have HR := Lib.hid (row_first h0)
  clear hs hb
  go_enter Try.func53, Try.ntmps53
  go_wp2
  go_loopw [8] (fun i wr => ∃ k : Nat, k ≤ n ∧ i = .int .i64 k ∧ wr.heap[w.heap.size]? = some (.cells zeros201 76 (0, 0)) ∧ wr.heap[w.heap.size + 1]? = some (.cells (rowN F (k + 1)) 76 (0, 0)) ∧ Below w.heap.size w wr)
    (fun i _ => n - (intOf i).toNat)
  case atStart =>
    refine ⟨0, by omega, rfl, heap_alloc2_old _ _ _, ?_, ((Below.refl _ _).alloc (Nat.le_refl _) _).alloc (by simp) _⟩
    rw [HR.out]; exact heap_alloc2_new _ _ _
  case round =>
    obtain ⟨k, hk, rfl, g0, g1, hb⟩ := hrel
    by_cases hlt : k < n
    · have c0 : wr.cell? ⟨w.heap.size + 1, k, none⟩ = some (.int .i64 (F k)) := by rw [cell_of_row wr _ k _ _ _ g1, rowN_below F _ k (by omega) (by omega)]
      have c1 : wr.cell? ⟨w.heap.size + 1, k + 1, none⟩ = some (.int .i64 0) := by rw [cell_of_row wr _ (k + 1) _ _ _ g1, rowN_at F _ (k + 1) (by omega), if_neg (by omega)]
      have hf := frozen_of_row wr _ (k + 1) _ _ g1
      have hst := HS.out k
      have b0 := HB.out k (by omega)
      have b1 := HB.out (k + 1) (by omega)
      have HT : Hid ((rowN F (k + 1)).setIfInBounds (k + 1) (.int .i64 (F (k + 1))) = rowN F (k + 1 + 1)) := rowN_set F (k + 1) (by omega)
      have hw : IntKind.i64.wrap (F k + d) = F (k + 1) := by rw [hst, IntKind.wrap_i64]; omega
      have kw : IntKind.i64.wrap ((k : Int) + 1) = (k : Int) + 1 := by rw [IntKind.wrap_i64]; omega
      have k0 : (0 : Int) ≤ (k : Int) + 1 := by omega
      have k1 : (k : Int) + 1 < 201 := by omega
      have k2 : (k : Int) < 201 := by omega
      have kt : ((k : Int) + 1).toNat = k + 1 := by omega
      have HST := Lib.hid hst
      clear hst
      generalize F k = x at *
      generalize F (k + 1) = y at *
      go_wp2
      go_roundw
      case rel => exact ⟨k + 1, by omega, by go_num, by rw [heap_setCell_other _ _ _ _ (by simp)]; exact g0, by rw [heap_setCell_same _ _ _ _ _ _ g1, HT.out], hb.setCell (by simp) _⟩
      case measure => simp [intOf]; omega
    · obtain rfl : k = n := by omega
      clear hz
      have hs : (Try.prog.info? 76).map (·.size) = some (rowN F (k + 1)).size := row_infoN F (k + 1)
      go_wp2_with (first
        | (refine wpList_load_row rfl 76 _ rfl (w.heap.size + 1) rfl 76 (rowN F (k + 1)) (0, 0) _ g1 Try.underlying76 rfl hs ?_)
        | (refine wpList_store_row rfl 76 _ _ rfl w.heap.size (rowN F (k + 1)) rfl rfl 76 zeros201 g0 hs (by rw [rowN_size]; rfl) (rowN_one _ _) ?_))
      refine bodyPost_ret (results_cell_row rfl _ _ w.heap.size 76 (rowN F (k + 1)) (0, 0) _ rfl (setRow_heap _ _ _ _ _ _ g0) Try.underlying76 rfl hs) rfl ⟨rfl, below_setRow hb (Nat.le_refl _) _⟩
def costArgB (s r : ByteArray) (p d t : Int) : Bool := decide (s.size ≤ 200) && decide (r.size ≤ 200) && inB p 0 1000 && inB d 0 1000 && inB t 0 1000
def costI (s r : ByteArray) (p d t : Int) : Int := if costArgB s r p d t = true then cstAt s r p d t r.size s.size else -1
theorem costI_yes {s r : ByteArray} {p d t : Int} (h : costArgB s r p d t = true) : costI s r p d t = cstAt s r p d t r.size s.size := if_pos h
theorem costI_no {s r : ByteArray} {p d t : Int} (h : costArgB s r p d t = false) : costI s r p d t = -1 := if_neg (by rw [h]; exact Bool.false_ne_true)
theorem inB_iff {n lo hi : Int} : inB n lo hi = true ↔ lo ≤ n ∧ n ≤ hi := by simp [inB]
end Go.Proofs.Ytgikjopmijomgab

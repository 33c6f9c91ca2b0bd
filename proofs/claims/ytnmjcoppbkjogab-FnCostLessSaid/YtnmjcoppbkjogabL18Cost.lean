/-
  Chapter 18: CostOf, in the program (rows in arrays) and in its model (by wip/tools/mk_cost.py).
-/
import Derived.Test.YtnmjcoppbkjogabRowA
import Derived.Test.YtnmjcoppbkjogabL18P
import Derived.Test.YtnmjcoppbkjogabL3Ok
import Derived.Test.YtnmjcoppbkjogabOwnMore
import Derived.Test.YtnmjcoppbkjogabL1Mask
import Derived.Laws.CopyOwn
namespace Go.Proofs.Ytnmjcoppbkjogab
open Go.RowKit
set_option linter.unusedVariables false
set_option maxRecDepth 100000
def zeros201 : Array Value := Array.replicate 201 (.int .i64 0)
theorem zeros_rowN (F : Nat → Int) : rowN F 0 = zeros201 := by
  apply Array.ext_getElem?
  intro i
  by_cases hi : i < 201
  · rw [rowN_at F 0 i hi, if_neg (by omega)]; simp [zeros201, hi]
  · rw [Array.getElem?_eq_none (by rw [rowN_size]; omega), Array.getElem?_eq_none (by simp [zeros201]; omega)]
theorem row_head {F : Nat → Int} {n : Int} (h : F 0 = n) : zeros201.setIfInBounds 0 (.int .i64 n) = rowN F 1 := by
  rw [← zeros_rowN F, ← h]; exact rowN_set F 0 (by omega)
theorem row_first {F : Nat → Int} (h : F 0 = 0) : rowN F 1 = zeros201 := by
  apply Array.ext_getElem?
  intro i
  by_cases hi : i < 201
  · rw [rowN_at F 1 i hi]
    have e : (if i < 1 then F i else 0) = 0 := by
      by_cases h0 : i < 1
      · obtain rfl : i = 0 := by omega
        rw [if_pos h0, h]
      · rw [if_neg h0]
    rw [e]; simp [zeros201, hi]
  · rw [Array.getElem?_eq_none (by rw [rowN_size]; omega), Array.getElem?_eq_none (by simp [zeros201]; omega)]
theorem row_zero (w : World) : (zeroValue 97).run Try.prog w = .ok (.agg zeros201) w := by kernel_rfl
theorem row_info : (Try.prog.info? 97).map (·.size) = some 201 := by kernel_rfl
theorem row_infoN (F : Nat → Int) (j : Nat) : (Try.prog.info? 97).map (·.size) = some (rowN F j).size := by rw [rowN_size]; exact row_info
theorem row_built (n : Int) : Try.prog.built 97 [(0, Value.int .i64 n)] = some (zeros201.setIfInBounds 0 (.int .i64 n)) := by kernel_rfl
theorem wpList_row1 {ops : Array Oper} {rest : List Oper} {o : Oper} {a : Act} {w : World} {Q : Exit → Act → World → Prop} (hg : o.guard = none) (x : Operand) (n : Int) (F : Nat → Int) (hF : F 0 = n) (ho : o.op = .build 97 #[(0, x)]) (hx : a.eval x = .int .i64 n)
    (h : wpList Try.prog ops Q rest (a.put o.dst (.agg (rowN F 1))) w) : wpList Try.prog ops Q (o :: rest) a w := by
  have hl : ((#[(0, x)] : Array (Nat × Operand)).map fun (i, x) => (i, a.eval x)).toList = [(0, Value.int .i64 n)] := by simp [hx]
  refine wpList_build hg 97 #[(0, x)] ho (by rw [hl, row_built]; rfl) ?_
  rw [hl, row_built, Option.getD_some, row_head hF]
  exact h
set_option maxHeartbeats 2000000 in
theorem impl_firstRow (n : Nat) (d : Int) (F : Nat → Int) (w : World) (hn : n ≤ 200) (h0 : F 0 = 0) (hs : ∀ i, F (i + 1) = F i + d) (hb : ∀ i, i ≤ 200 → 0 ≤ F i ∧ F i ≤ 1000000) :
    Calls Try.prog 80 #[.int .i64 n, .int .i64 d] w fun e w' => e = .returned (.agg (rowN F (n + 1))) ∧ Below w.heap.size w w' := by
  have hz := row_zero
  have HS := Lib.hid hs; have HB := Lib.hid hb; have HR := Lib.hid (row_first h0)
  clear hs hb
  go_enter Try.func80, Try.ntmps80
  go_wp2
  go_loopw [8] (fun i wr => ∃ k : Nat, k ≤ n ∧ i = .int .i64 k ∧ wr.heap[w.heap.size]? = some (.cells zeros201 97 (0, 0)) ∧ wr.heap[w.heap.size + 1]? = some (.cells (rowN F (k + 1)) 97 (0, 0)) ∧ Below w.heap.size w wr)
    (fun i _ => n - (intOf i).toNat)
  case atStart =>
    refine ⟨0, by omega, rfl, heap_alloc2_old _ _ _, ?_, ((Below.refl _ _).alloc (Nat.le_refl _) _).alloc (by simp) _⟩
    rw [HR.out]; exact heap_alloc2_new _ _ _
  case round =>
    obtain ⟨k, hk, rfl, g0, g1, hb⟩ := hrel
    by_cases hlt : k < n
    · have c0 : wr.cell? ⟨w.heap.size + 1, k, none⟩ = some (.int .i64 (F k)) := by rw [cell_of_row wr _ k _ _ _ g1, rowN_below F _ k (by omega) (by omega)]
      have c1 : wr.cell? ⟨w.heap.size + 1, k + 1, none⟩ = some (.int .i64 0) := by rw [cell_of_row wr _ (k + 1) _ _ _ g1, rowN_at F _ (k + 1) (by omega), if_neg (by omega)]
      have hf := frozen_of_row wr _ (k + 1) _ _ g1
      have hst := HS.out k
      have b0 := HB.out k (by omega)
      have b1 := HB.out (k + 1) (by omega)
      have HT : Hid ((rowN F (k + 1)).setIfInBounds (k + 1) (.int .i64 (F (k + 1))) = rowN F (k + 1 + 1)) := rowN_set F (k + 1) (by omega)
      have hw : IntKind.i64.wrap (F k + d) = F (k + 1) := by rw [hst, IntKind.wrap_i64]; omega
      have kw : IntKind.i64.wrap ((k : Int) + 1) = (k : Int) + 1 := by rw [IntKind.wrap_i64]; omega
      have k0 : (0 : Int) ≤ (k : Int) + 1 := by omega
      have k1 : (k : Int) + 1 < 201 := by omega
      have k2 : (k : Int) < 201 := by omega
      have kt : ((k : Int) + 1).toNat = k + 1 := by omega
      have HST := Lib.hid hst
      clear hst
      generalize F k = x at *
      generalize F (k + 1) = y at *
      go_wp2
      go_roundw
      case rel => exact ⟨k + 1, by omega, by go_num, by rw [heap_setCell_other _ _ _ _ (by simp)]; exact g0, by rw [heap_setCell_same _ _ _ _ _ _ g1, HT.out], hb.setCell (by simp) _⟩
      case measure => simp [intOf]; omega
    · obtain rfl : k = n := by omega
      clear hz
      have hs : (Try.prog.info? 97).map (·.size) = some (rowN F (k + 1)).size := row_infoN F (k + 1)
      go_wp2_with (first
        | (refine wpList_load_row rfl 97 _ rfl (w.heap.size + 1) rfl 97 (rowN F (k + 1)) (0, 0) _ g1 Try.underlying97 rfl hs ?_)
        | (refine wpList_store_row rfl 97 _ _ rfl w.heap.size (rowN F (k + 1)) rfl rfl 97 zeros201 g0 hs (by rw [rowN_size]; rfl) (rowN_one _ _) ?_))
      refine bodyPost_ret (results_cell_row rfl _ _ w.heap.size 97 (rowN F (k + 1)) (0, 0) _ rfl (setRow_heap _ _ _ _ _ _ g0) Try.underlying97 rfl hs) rfl ⟨rfl, below_setRow hb (Nat.le_refl _) _⟩
theorem impl_costOk (n : Int) (w : World) :
    Calls Try.prog 79 #[.int .i64 n] w fun e w' => e = .returned (.bool (inB n 0 1000)) ∧ w = w' := by
  by_cases h1 : 0 ≤ n
  · by_cases h2 : n ≤ 1000
    · have H := Lib.hid (inB_yes ⟨h1, h2⟩)
      go_enter Try.func79, Try.ntmps79
      go_wp2
      go_ret
      exact ⟨by rw [H.out]; rfl, rfl⟩
    · have H := Lib.hid (inB_no (n := n) (lo := 0) (hi := 1000) (by omega))
      go_enter Try.func79, Try.ntmps79
      go_wp2
      go_ret
      exact ⟨by rw [H.out]; rfl, rfl⟩
  · have H := Lib.hid (inB_no (n := n) (lo := 0) (hi := 1000) (by omega))
    go_enter Try.func79, Try.ntmps79
    go_wp2
    go_ret
    exact ⟨by rw [H.out]; rfl, rfl⟩
def costArgB (s r : ByteArray) (p d t : Int) : Bool := decide (s.size ≤ 200) && decide (r.size ≤ 200) && inB p 0 1000 && inB d 0 1000 && inB t 0 1000
def costI (s r : ByteArray) (p d t : Int) : Int := if costArgB s r p d t = true then cstAt s r p d t r.size s.size else -1
theorem costI_yes {s r : ByteArray} {p d t : Int} (h : costArgB s r p d t = true) : costI s r p d t = cstAt s r p d t r.size s.size := if_pos h
theorem costI_no {s r : ByteArray} {p d t : Int} (h : costArgB s r p d t = false) : costI s r p d t = -1 := if_neg (by rw [h]; exact Bool.false_ne_true)
theorem inB_iff {n lo hi : Int} : inB n lo hi = true ↔ lo ≤ n ∧ n ≤ hi := by simp [inB]
set_option maxHeartbeats 8000000 in
theorem impl_costOf_yes (s r : ByteArray) (p d t : Int) (w : World) (h1 : s.size ≤ 200) (h2 : r.size ≤ 200) (hp : inB p 0 1000 = true) (hd : inB d 0 1000 = true) (ht : inB t 0 1000 = true) :
    Calls Try.prog 42 #[.string s, .string r, .int .i64 p, .int .i64 d, .int .i64 t] w fun e w' => e = .returned (.int .i64 (cstAt s r p d t r.size s.size)) ∧ Below w.heap.size w w' := by
  obtain ⟨p0, p1⟩ := inB_iff.1 hp
  obtain ⟨d0, d1⟩ := inB_iff.1 hd
  obtain ⟨t0, t1⟩ := inB_iff.1 ht
  have HP := Lib.hid hp; have HD := Lib.hid hd; have HT := Lib.hid ht
  have hd1 : decide (200 < (s.size : Int)) = false := by simp; omega
  have hd2 : decide (200 < (r.size : Int)) = false := by simp; omega
  have hz := row_zero
  have HBD : Hid (∀ k i, k ≤ 200 → i ≤ 200 → 0 ≤ cstAt s r p d t k i ∧ cstAt s r p d t k i ≤ 400000) := fun k i hk hi => by
    have := cst_bnd s r p0 d0 t0 p1 d1 k i; omega
  have HF0 : Hid (∀ i, cstAt s r p d t 0 (i + 1) = cstAt s r p d t 0 i + d) := fun i => by rw [cstAt]
  have HFk : Hid (∀ k, cstAt s r p d t (k + 1) 0 = cstAt s r p d t k 0 + p) := fun k => by rw [cstAt]
  have HFs : Hid (∀ k i, cstAt s r p d t (k + 1) (i + 1) = min3 (cstAt s r p d t k i + tuI t (byteAt s i) (byteAt r k)) (cstAt s r p d t k (i + 1) + p) (cstAt s r p d t (k + 1) i + d)) := fun k i => by rw [cstAt]
  have hF00 : cstAt s r p d t 0 0 = 0 := by rw [cstAt]
  clear hp hd ht
  generalize cstAt s r p d t = C at *
  go_enter Try.func42, Try.ntmps42
  go_wp2_with (first | (go_at_call 79; refine (impl_costOk _ _).mono ?_; rintro e w1 ⟨rfl, rfl⟩; first | rw [HP.out] | rw [HD.out] | rw [HT.out]) | (go_at_call 80; refine (impl_firstRow s.size d (C 0) _ h1 hF00 HF0.out (fun i hi => by have := HBD.out 0 i (by omega) hi; omega)).mono ?_; rintro e w1 ⟨rfl, hb1⟩) | ((with_reducible show wpList _ _ _ (⟨_, Op.store 97 _ _, _, _, _, _⟩ :: _) _ _); refine wpList_store_new_row rfl 97 _ _ rfl (rowN (C 0) (s.size + 1)) rfl rfl 97 zeros201 (row_infoN _ _) (by rw [rowN_size]; rfl) (rowN_one _ _) ?_))
  go_loopw [45] (fun i wr => ∃ k : Nat, k ≤ r.size ∧ i = .int .i64 k ∧ wr.heap[w1.heap.size]? = some (.cells (rowN (C k) (s.size + 1)) 97 (0, 0)) ∧ Below w.heap.size w wr)
    (fun i _ => r.size - (intOf i).toNat)
  case atStart => exact ⟨0, by omega, rfl, heap_alloc_new _ _, hb1.alloc hb1.size _⟩
  case round =>
    obtain ⟨k, hk, rfl, hrow, hb⟩ := hrel
    have hbl := lt_of_block hrow
    have hw1 := hb1.size
    by_cases hlt : k < r.size
    · generalize wr = wo at *
      have hk0 := HFk.out k
      have b0 := HBD.out k 0 (by omega) (by omega)
      have b1 := HBD.out (k + 1) 0 (by omega) (by omega)
      have c00 : wo.cell? ⟨w1.heap.size, 0, none⟩ = some (.int .i64 (C k 0)) := by rw [cell_of_row wo _ 0 _ _ _ hrow, rowN_below (C k) _ 0 (by omega) (by omega)]
      have hw0 : IntKind.i64.wrap (C k 0 + p) = C (k + 1) 0 := by rw [hk0, IntKind.wrap_i64]; omega
      obtain ⟨H, hH⟩ : ∃ H, C (k + 1) 0 = H := ⟨_, rfl⟩
      rw [hH] at hw0
      have HH := Lib.hid hH
      have HROW := Lib.hid hrow
      clear hk0 hH b0 b1
      generalize C k 0 = x0 at c00 hw0
      go_wp2_with (first | (refine wpList_row1 rfl _ H (C (k + 1)) HH.out rfl rfl ?_) | ((with_reducible show wpList _ _ _ (⟨_, Op.store 97 _ _, _, _, _, _⟩ :: _) _ _); refine wpList_store_new_row rfl 97 _ _ rfl (rowN (C (k + 1)) 1) rfl rfl 97 zeros201 (row_infoN _ _) (by rw [rowN_size]; rfl) (rowN_one _ _) ?_))
      clear c00 hw0 hrow
      go_loopw [55] (fun i wq => ∃ j : Nat, j ≤ s.size ∧ i = .int .i64 j ∧ wq.heap[w1.heap.size]? = some (.cells (rowN (C k) (s.size + 1)) 97 (0, 0)) ∧ wq.heap[wo.heap.size]? = some (.cells (rowN (C (k + 1)) (j + 1)) 97 (0, 0)) ∧ Below w.heap.size w wq)
        (fun i _ => s.size - (intOf i).toNat)
      case atStart => exact ⟨0, by omega, rfl, (Below.heap_alloc _ _ _ hbl).trans HROW.out, heap_alloc_new _ _, hb.alloc hb.size _⟩
      case round =>
        have hwr := hb.size
        clear hb hz
        obtain ⟨j, hj, rfl, g0, g1, hb⟩ := hrel
        by_cases hjt : j < s.size
        · have c0 : wr.cell? ⟨w1.heap.size, j, none⟩ = some (.int .i64 (C k j)) := by rw [cell_of_row _ _ j _ _ _ g0, rowN_below (C k) _ j (by omega) (by omega)]
          have c1 : wr.cell? ⟨w1.heap.size, j + 1, none⟩ = some (.int .i64 (C k (j + 1))) := by rw [cell_of_row _ _ (j + 1) _ _ _ g0, rowN_below (C k) _ (j + 1) (by omega) (by omega)]
          have e0 : wr.cell? ⟨wo.heap.size, j, none⟩ = some (.int .i64 (C (k + 1) j)) := by rw [cell_of_row _ _ j _ _ _ g1, rowN_below (C (k + 1)) _ j (by omega) (by omega)]
          have e1 : wr.cell? ⟨wo.heap.size, j + 1, none⟩ = some (.int .i64 0) := by rw [cell_of_row _ _ (j + 1) _ _ _ g1, rowN_at _ _ (j + 1) (by omega), if_neg (by omega)]
          have hf := frozen_of_row _ _ (j + 1) _ _ g1
          have ne1 : ¬ w1.heap.size = wo.heap.size := by omega
          have ne2 : ¬ wo.heap.size = w1.heap.size := by omega
          have bx := HBD.out k j (by omega) (by omega)
          have by' := HBD.out k (j + 1) (by omega) (by omega)
          have bq := HBD.out (k + 1) j (by omega) (by omega)
          have HSET : Hid ((rowN (C (k + 1)) (j + 1)).setIfInBounds (j + 1) (.int .i64 (C (k + 1) (j + 1))) = rowN (C (k + 1)) (j + 1 + 1)) := rowN_set (C (k + 1)) (j + 1) (by omega)
          have HS := HFs.out k j
          have ebs := byteAt_eq s j hjt
          have ebr := byteAt_eq r k hlt
          have hca := s[j].toNat_lt
          have hcb := r[k].toNat_lt
          have G0 := Lib.hid g0; have G1 := Lib.hid g1
          clear g0 g1
          have kw : IntKind.i64.wrap ((j : Int) + 1) = (j : Int) + 1 := by rw [IntKind.wrap_i64]; omega
          have k0 : (0 : Int) ≤ (j : Int) + 1 := by omega
          have k1 : (j : Int) + 1 < 201 := by omega
          have k2 : (j : Int) < 201 := by omega
          have kt : ((j : Int) + 1).toNat = j + 1 := by omega
          rw [ebs, ebr] at HS
          generalize C k j = x at *
          generalize C k (j + 1) = y at *
          generalize C (k + 1) j = q at *
          generalize C (k + 1) (j + 1) = z at *
          obtain ⟨Y, hY⟩ : ∃ Y, y + p = Y := ⟨_, rfl⟩
          obtain ⟨Q, hQ⟩ : ∃ Q, q + d = Q := ⟨_, rfl⟩
          have hwY : IntKind.i64.wrap (y + p) = Y := by rw [IntKind.wrap_i64]; omega
          have hwQ : IntKind.i64.wrap (q + d) = Q := by rw [IntKind.wrap_i64]; omega
          rw [hY, hQ] at HS
          clear hY hQ
          by_cases he : s[j] = r[k]
          · have hne : ((s[j].toNat : Int) != (r[k].toNat : Int)) = false := by rw [he]; simp
            rw [he, tuI_self, Int.add_zero] at HS
            have HS := Lib.hid HS
            clear he ebs ebr
            go_wp2_with fail
            go_quiet (fail)
            go_wp2_with fail
            go_region
            all_goals
              clear kw kt
              go_wp2
              go_roundw
              case rel =>
                refine ⟨j + 1, by omega, by go_num, (by rw [show (World.heap _)[w1.heap.size]? = _ from heap_setCell_other _ _ _ _ ne1]; exact G0.out), (by
                  have e := HSET.out
                  rw [HS.out] at e
                  rw [← e]
                  exact heap_setCell_same _ _ _ _ _ _ G1.out), (below_drewN hb _).setCell (p := ⟨wo.heap.size, j + 1, none⟩) hwr _⟩
              case measure => simp [intOf]; omega
          · have hne : ((s[j].toNat : Int) != (r[k].toNat : Int)) = true := by
              simp only [bne_iff_ne, ne_eq]; intro e; exact he (UInt8.toNat_inj.1 (by omega))
            rw [show tuI t s[j] r[k] = t from if_neg he] at HS
            obtain ⟨X, hX⟩ : ∃ X, x + t = X := ⟨_, rfl⟩
            have hwX : IntKind.i64.wrap (x + t) = X := by rw [IntKind.wrap_i64]; omega
            rw [hX] at HS
            have HS := Lib.hid HS
            clear he hX ebs ebr
            go_wp2_with fail
            go_quiet (fail)
            go_wp2_with fail
            go_region
            all_goals
              clear kw kt
              go_wp2
              go_roundw
              case rel =>
                refine ⟨j + 1, by omega, by go_num, (by rw [show (World.heap _)[w1.heap.size]? = _ from heap_setCell_other _ _ _ _ ne1]; exact G0.out), (by
                  have e := HSET.out
                  rw [HS.out] at e
                  rw [← e]
                  exact heap_setCell_same _ _ _ _ _ _ G1.out), (below_drewN hb _).setCell (p := ⟨wo.heap.size, j + 1, none⟩) hwr _⟩
              case measure => simp [intOf]; omega
        · obtain rfl : j = s.size := by omega
          go_wp2_with (first
            | (refine wpList_load_row rfl 97 _ rfl wo.heap.size rfl 97 (rowN (C (k + 1)) (s.size + 1)) (0, 0) _ g1 Try.underlying97 rfl (row_infoN _ _) ?_)
            | (refine wpList_store_row rfl 97 _ _ rfl w1.heap.size (rowN (C (k + 1)) (s.size + 1)) rfl rfl 97 (rowN (C k) (s.size + 1)) g0 (row_infoN _ _) (by rw [rowN_size, rowN_size]) (rowN_one _ _) ?_))
          go_roundw
          case rel => exact ⟨k + 1, by omega, by go_num, setRow_heap _ _ _ _ _ _ g0, below_setRow hb (by omega) _⟩
          case measure => simp [intOf]; omega
    · obtain rfl : k = r.size := by omega
      have c0 : wr.cell? ⟨w1.heap.size, s.size, none⟩ = some (.int .i64 (C r.size s.size)) := by rw [cell_of_row wr _ _ _ _ _ hrow, rowN_below (C r.size) _ _ (by omega) (by omega)]
      have hl : (s.size : Int) < 201 := by omega
      go_wp2
      go_ret
      exact ⟨rfl, hb⟩
set_option maxHeartbeats 2000000 in
theorem impl_costOf (s r : ByteArray) (p d t : Int) (w : World) (hs : s.size ≤ 1048576) (hr : r.size ≤ 1048576) :
    Calls Try.prog 42 #[.string s, .string r, .int .i64 p, .int .i64 d, .int .i64 t] w fun e w' => e = .returned (.int .i64 (costI s r p d t)) ∧ Below w.heap.size w w' := by
  by_cases h1 : s.size ≤ 200
  · have e1 : decide (200 < (s.size : Int)) = false := by simp; omega
    by_cases h2 : r.size ≤ 200
    · have e2 : decide (200 < (r.size : Int)) = false := by simp; omega
      cases hp : inB p 0 1000
      · have HR := Lib.hid (costI_no (s := s) (r := r) (p := p) (d := d) (t := t) (by unfold costArgB; rw [hp]; simp))
        have HP := Lib.hid hp; clear hp
        go_enter Try.func42, Try.ntmps42
        go_wp2_with (go_at_call 79; refine (impl_costOk _ _).mono ?_; rintro e w1 ⟨rfl, rfl⟩; first | rw [HP.out])
        go_ret
        exact ⟨by rw [HR.out]; rfl, Below.refl _ _⟩
      · cases hd : inB d 0 1000
        · have HR := Lib.hid (costI_no (s := s) (r := r) (p := p) (d := d) (t := t) (by unfold costArgB; rw [hd]; simp))
          have HP := Lib.hid hp; have HD := Lib.hid hd; clear hp hd
          go_enter Try.func42, Try.ntmps42
          go_wp2_with (go_at_call 79; refine (impl_costOk _ _).mono ?_; rintro e w1 ⟨rfl, rfl⟩; first | rw [HP.out] | rw [HD.out])
          go_ret
          exact ⟨by rw [HR.out]; rfl, Below.refl _ _⟩
        · cases ht : inB t 0 1000
          · have HR := Lib.hid (costI_no (s := s) (r := r) (p := p) (d := d) (t := t) (by unfold costArgB; rw [ht]; simp))
            have HP := Lib.hid hp; have HD := Lib.hid hd; have HT := Lib.hid ht; clear hp hd ht
            go_enter Try.func42, Try.ntmps42
            go_wp2_with (go_at_call 79; refine (impl_costOk _ _).mono ?_; rintro e w1 ⟨rfl, rfl⟩; first | rw [HP.out] | rw [HD.out] | rw [HT.out])
            go_ret
            exact ⟨by rw [HR.out]; rfl, Below.refl _ _⟩
          · rw [costI_yes (by unfold costArgB; rw [hp, hd, ht, decide_eq_true h1, decide_eq_true h2]; rfl)]
            exact impl_costOf_yes s r p d t w h1 h2 hp hd ht
    · have e2 : decide (200 < (r.size : Int)) = true := by simp; omega
      have HR := Lib.hid (costI_no (s := s) (r := r) (p := p) (d := d) (t := t) (by unfold costArgB; rw [decide_eq_false h2]; simp))
      go_enter Try.func42, Try.ntmps42
      go_wp2
      go_ret
      exact ⟨by rw [HR.out]; rfl, Below.refl _ _⟩
  · have e1 : decide (200 < (s.size : Int)) = true := by simp; omega
    have HR := Lib.hid (costI_no (s := s) (r := r) (p := p) (d := d) (t := t) (by unfold costArgB; rw [decide_eq_false h1]; simp))
    go_enter Try.func42, Try.ntmps42
    go_wp2
    go_ret
    exact ⟨by rw [HR.out]; rfl, Below.refl _ _⟩
set_option maxHeartbeats 8000000 in
theorem spec_costOf_yes (s r : ByteArray) (p d t : Int) (w : World) (h1 : s.size ≤ 200) (h2 : r.size ≤ 200) (hp : inB p 0 1000 = true) (hd : inB d 0 1000 = true) (ht : inB t 0 1000 = true) :
    Calls Try.prog 43 #[.string s, .string r, .int .i64 p, .int .i64 d, .int .i64 t] w fun e w' => e = .returned (.int .i64 (cstAt s r p d t r.size s.size)) ∧ Below w.heap.size w w' := by
  obtain ⟨i0, hi, ht0, ht1, ht2⟩ := info_parts int_info
  obtain ⟨p0, p1⟩ := inB_iff.1 hp
  obtain ⟨d0, d1⟩ := inB_iff.1 hd
  obtain ⟨t0, t1⟩ := inB_iff.1 ht
  have HP := Lib.hid hp; have HD := Lib.hid hd; have HT := Lib.hid ht
  have hd1 : decide (200 < (s.size : Int)) = false := by simp; omega
  have hd2 : decide (200 < (r.size : Int)) = false := by simp; omega
  have HBD : Hid (∀ k i, k ≤ 200 → i ≤ 200 → 0 ≤ cstAt s r p d t k i ∧ cstAt s r p d t k i ≤ 400000) := fun k i hk hi => by
    have := cst_bnd s r p0 d0 t0 p1 d1 k i; omega
  have HM0 : Hid (∀ i : Nat, d * (i : Int) = cstAt s r p d t 0 i) := fun i => (cst_first s r p d t i).symm
  have HMk : Hid (∀ k : Nat, p * ((k : Int) + 1) = cstAt s r p d t (k + 1) 0) := fun k => (cst_head s r p d t (k + 1)).symm
  have HFs : Hid (∀ k i, cstAt s r p d t (k + 1) (i + 1) = min3 (cstAt s r p d t k i + tuI t (byteAt s i) (byteAt r k)) (cstAt s r p d t k (i + 1) + p) (cstAt s r p d t (k + 1) i + d)) := fun k i => by rw [cstAt]
  clear hp hd ht
  generalize cstAt s r p d t = C at *
  go_enter Try.func43, Try.ntmps43
  go_wp2_with (go_at_call 81; refine (spec_l1In _ _ _ _).mono ?_; rintro e w1 ⟨rfl, rfl⟩; first | rw [HP.out] | rw [HD.out] | rw [HT.out])
  go_loopw [11, 12] (fun v i wr => ∃ k : Nat, k ≤ s.size + 1 ∧ i = .int .i64 k ∧ wr.ownsRow w.heap.size 2 1 v k ((tab (C 0) k).map (Value.int .i64)) ∧ Below w.heap.size w wr)
    (fun _ i _ => s.size + 1 - (intOf i).toNat)
  case atStart => exact ⟨0, by omega, rfl, World.ownsRow_made w #[] 0 (Nat.le_refl _) (by decide) rfl, (Below.refl _ _).alloc (Nat.le_refl _) _⟩
  case round =>
    obtain ⟨k, hk, rfl, hown, hb⟩ := hrel
    by_cases hlt : k < s.size + 1
    · have hm0 := HM0.out k
      have b0 := HBD.out 0 k (by omega) (by omega)
      have hwm : IntKind.i64.wrap (d * (k : Int)) = C 0 k := by rw [hm0, IntKind.wrap_i64]; omega
      have hkl : (k : Int) ≤ (s.size : Int) := by omega
      obtain ⟨v0, hv0⟩ : ∃ v, C 0 k = v := ⟨_, rfl⟩
      rw [hv0] at hwm
      have HV := Lib.hid hv0
      clear hm0 b0 hv0
      go_wp2_with (at_builtin; refine wpList_append_own _ rfl _ _ 92 rfl w.heap.size 2 i0 (.int .i64 0) 1 8 Try.underlying92 hi ht0 ht1 ht2 rfl (by decide) _ _ _ rfl (hown.alloc _) ⟨wr.heap.size, 0, none⟩ 1 1 [.int .i64 v0] rfl rfl (one_new _ _ _) (int_one _) (by unfold maxLen; omega) (by omega) (by have := hb.size; simp; omega) ?_; intro v' w1 hown' hg _)
      rw [← HV.out] at hown'
      have hown2 := own_snoc (f := C 0) hown'
      have hb' := (hb.alloc hb.size (.cells #[.int .i64 v0] 2)).grown hg (by have := hb.size; simp; omega) (fun j hj => (hown.lt j hj).1)
      clear hown hb hg hown'
      go_roundw
      case rel => exact ⟨k + 1, by omega, by go_num, hown2, hb'⟩
      case measure => simp [intOf]; omega
    · obtain rfl : k = s.size + 1 := by omega
      obtain ⟨a1, cap1, rfl, hO⟩ := OwnN.shape hown
      have hI1 := hO.ints
      clear hO hown
      have hn1 : ¬ (s.size : Int) + 1 ≤ (s.size : Int) := by omega
      generalize wr = w2 at *
      go_wp2_with fail
      go_loopw [11, 13] (fun v i wr => ∃ (k : Nat) (a : Option Addr) (cap : Nat), k ≤ r.size ∧ i = .int .i64 k ∧ v = .slice a (s.size + 1) cap ∧ Ints wr a (tab (C k) (s.size + 1)) ∧ Below w.heap.size w wr)
        (fun _ i _ => r.size - (intOf i).toNat)
      case atStart => exact ⟨0, a1, cap1, by omega, rfl, rfl, hI1, hb⟩
      case round =>
        clear hb hI1
        obtain ⟨k, a, cap, hk, rfl, rfl, hI, hb⟩ := hrel
        by_cases hlt : k < r.size
        · generalize wr = wo at *
          have hmk := HMk.out k
          have b0 := HBD.out (k + 1) 0 (by omega) (by omega)
          have kw : IntKind.i64.wrap ((k : Int) + 1) = (k : Int) + 1 := by rw [IntKind.wrap_i64]; omega
          have hwm : IntKind.i64.wrap (p * ((k : Int) + 1)) = C (k + 1) 0 := by rw [hmk, IntKind.wrap_i64]; omega
          obtain ⟨v0, hv0⟩ : ∃ v, C (k + 1) 0 = v := ⟨_, rfl⟩
          rw [hv0] at hwm
          have HV := Lib.hid hv0
          have HI := Lib.hid hI
          clear hmk b0 hv0 hI
          go_wp2_with fail
          clear kw hwm
          go_loopw [14, 15] (fun v i wr => ∃ (j g c : Nat), j ≤ s.size ∧ i = .int .i64 ((j : Int) + 1) ∧ v = .slice (some ⟨g, 0, none⟩) (j + 1) c ∧ OwnN wr wo.heap.size (some ⟨g, 0, none⟩) (j + 1) c (tab (C (k + 1)) (j + 1)) ∧ Below wo.heap.size wo wr)
            (fun _ i _ => s.size + 1 - (intOf i).toNat)
          case atStart =>
            refine ⟨0, wo.heap.size, 1, by omega, by go_num, rfl, ⟨by simp [tab], ?_⟩, (Below.refl _ _).alloc (Nat.le_refl _) _⟩
            have := World.ownsRow_lit (base := wo.heap.size) (e := 2) (size := 1) wo #[.int .i64 v0] 1 (Nat.le_refl _) (by decide) rfl
            simpa [tab, HV.out] using this
          case round =>
            have hbo := Lib.hid hb
            clear hb
            obtain ⟨j, g, c, hj, rfl, rfl, hO, hb⟩ := hrel
            have hI := HI.out.kept hb
            by_cases hjt : j < s.size
            · obtain ⟨b0, off, rfl, hp⟩ := hI.at j (by rw [tab_length]; omega)
              have c0 := hp j (by rw [tab_length]; omega)
              have c1 := hp (j + 1) (by rw [tab_length]; omega)
              rw [intAt_tab _ _ _ (by omega)] at c0 c1
              have e0 := hO.cell j (by omega)
              rw [intAt_tab _ _ _ (by omega)] at e0
              have bx := HBD.out k j (by omega) (by omega)
              have by' := HBD.out k (j + 1) (by omega) (by omega)
              have bq := HBD.out (k + 1) j (by omega) (by omega)
              have HS := HFs.out k j
              have ebs := byteAt_eq s j hjt
              have ebr := byteAt_eq r k hlt
              have hca := s[j].toNat_lt
              have hcb := r[k].toNat_lt
              have HO := Lib.hid hO
              have HI := Lib.hid hI
              have kw : IntKind.i64.wrap ((j : Int) + 1) = (j : Int) + 1 := by rw [IntKind.wrap_i64]; omega
              have k0 : (0 : Int) ≤ (j : Int) + 1 := by omega
              have k1 : (j : Int) + 1 < (s.size : Int) + 1 := by omega
              have k2 : (j : Int) < (s.size : Int) + 1 := by omega
              have kt : ((j : Int) + 1).toNat = j + 1 := by omega
              have km : (j : Int) + 1 ≤ (s.size : Int) := by omega
              have kj : (j : Int) < (j : Int) + 1 := by omega
              have kl : (j : Int) < (s.size : Int) := by omega
              have kw2 : IntKind.i64.wrap (j : Int) = (j : Int) := by rw [IntKind.wrap_i64]; omega
              rw [ebs, ebr] at HS
              clear hO hI hp
              generalize C k j = x at *
              generalize C k (j + 1) = y at *
              obtain ⟨q, hqq⟩ : ∃ q, C (k + 1) j = q := ⟨_, rfl⟩
              rw [hqq] at e0 bq HS
              have HQQ := Lib.hid hqq; clear hqq
              obtain ⟨z, hzz⟩ : ∃ z, C (k + 1) (j + 1) = z := ⟨_, rfl⟩
              rw [hzz] at HS
              have HZZ := Lib.hid hzz; clear hzz
              obtain ⟨Y, hY⟩ : ∃ Y, y + p = Y := ⟨_, rfl⟩
              obtain ⟨Q, hQ⟩ : ∃ Q, q + d = Q := ⟨_, rfl⟩
              have hwY : IntKind.i64.wrap (y + p) = Y := by rw [IntKind.wrap_i64]; omega
              have hwQ : IntKind.i64.wrap (q + d) = Q := by rw [IntKind.wrap_i64]; omega
              rw [hY, hQ] at HS
              clear hY hQ
              have hmx : j + 1 + 1 ≤ maxLen := by unfold maxLen; omega
              have hby : (j + 1 + 1) * 8 ≤ 140737488355328 := by omega
              have FF : Hid (∀ W, Below wr.heap.size wr W → W.cell? ⟨b0, off + j, none⟩ = some (.int .i64 x) ∧ W.cell? ⟨b0, off + (j + 1), none⟩ = some (.int .i64 y) ∧ W.cell? ⟨g, j, none⟩ = some (.int .i64 q) ∧ OwnN W wo.heap.size (some ⟨g, 0, none⟩) (j + 1) c (tab (C (k + 1)) (j + 1)) ∧ Below wo.heap.size wo W) := fun W hW => ⟨(hW.cell (p := ⟨b0, _, none⟩) (block_lt_of_cell c0)).trans c0, (hW.cell (p := ⟨b0, _, none⟩) (block_lt_of_cell c1)).trans c1, (hW.cell (p := ⟨g, _, none⟩) (block_lt_of_cell e0)).trans e0, HO.out.kept hW, hb.trans (hW.mono hb.size)⟩
              by_cases he : s[j] = r[k]
              · have hne : ((s[j].toNat : Int) != (r[k].toNat : Int)) = false := by rw [he]; simp
                rw [he, tuI_self, Int.add_zero] at HS
                have HS := Lib.hid HS
                clear he ebs ebr
                go_wp2_with fail
                go_quiet (fail)
                go_wp2_with fail
                clear c0 c1 e0 hb HO
                obtain ⟨c0, c1, e0, HO, hb⟩ := FF.out (wr.drewN nq) (below_drewN (Below.refl _ _) nq)
                clear FF
                generalize wr.drewN nq = W at *
                have HO := Lib.hid HO
                have hba : ∀ o, wo.heap.size ≤ (W.alloc o).drew.heap.size := fun o => by have := hb.size; simp; omega
                go_region_law ((refine step_append_lies _ rfl (.tmp 86) (.tmp 102) 92 rfl wo.heap.size 2 i0 (.int .i64 0) 1 8 Try.underlying92 hi ht0 ht1 ht2 rfl (by decide) (.slice (some ⟨g, 0, none⟩) (j + 1) c) _ _ (by simp [Act.eval]) (HO.out.2.alloc _).drew ⟨W.heap.size, 0, none⟩ 1 1 [.int .i64 (if Q < if Y < x then Y else x then Q else if Y < x then Y else x)] (by simp [Act.eval]) rfl (fun j u h => cells_new W _ _ j u h) (one_all rfl) (by decide) hmx hby (hba _) _ rfl ?_; intro g1 cap1 w1 hown' hg _ _))
                all_goals
                  rw [show (if Q < if Y < x then Y else x then Q else if Y < x then Y else x) = C (k + 1) (j + 1) from (HS.out.symm.trans HZZ.out.symm)] at hown'
                  have hO1 := Lib.hid (OwnN.snoc hown')
                  clear kw kt kw2 hwY hwQ
                  have hbe := (hb.alloc hb.size (.cells #[.int .i64 (if Q < if Y < x then Y else x then Q else if Y < x then Y else x)] 2)).drew.grown hg (by have := hb.size; simp; omega) (fun j hj => (HO.out.2.lt j hj).1)
                  clear hown' hg
                  go_wp2
                  go_roundw
                  case rel => exact ⟨j + 1, g1, cap1, by omega, by go_num, rfl, hO1.out, hbe⟩
                  case measure => simp [intOf]; omega
              · have hne : ((s[j].toNat : Int) != (r[k].toNat : Int)) = true := by
                  simp only [bne_iff_ne, ne_eq]; intro e; exact he (UInt8.toNat_inj.1 (by omega))
                rw [show tuI t s[j] r[k] = t from if_neg he] at HS
                obtain ⟨X, hX⟩ : ∃ X, x + t = X := ⟨_, rfl⟩
                have hwX : IntKind.i64.wrap (x + t) = X := by rw [IntKind.wrap_i64]; omega
                rw [hX] at HS
                have HS := Lib.hid HS
                clear he hX ebs ebr
                go_wp2_with fail
                go_quiet (fail)
                go_wp2_with fail
                clear c0 c1 e0 hb HO
                obtain ⟨c0, c1, e0, HO, hb⟩ := FF.out (wr.drewN nq) (below_drewN (Below.refl _ _) nq)
                clear FF
                generalize wr.drewN nq = W at *
                have HO := Lib.hid HO
                have hba : ∀ o, wo.heap.size ≤ (W.alloc o).drew.heap.size := fun o => by have := hb.size; simp; omega
                go_region_law ((refine step_append_lies _ rfl (.tmp 86) (.tmp 102) 92 rfl wo.heap.size 2 i0 (.int .i64 0) 1 8 Try.underlying92 hi ht0 ht1 ht2 rfl (by decide) (.slice (some ⟨g, 0, none⟩) (j + 1) c) _ _ (by simp [Act.eval]) (HO.out.2.alloc _).drew ⟨W.heap.size, 0, none⟩ 1 1 [.int .i64 (if Q < if Y < X then Y else X then Q else if Y < X then Y else X)] (by simp [Act.eval]) rfl (fun j u h => cells_new W _ _ j u h) (one_all rfl) (by decide) hmx hby (hba _) _ rfl ?_; intro g1 cap1 w1 hown' hg _ _))
                all_goals
                  rw [show (if Q < if Y < X then Y else X then Q else if Y < X then Y else X) = C (k + 1) (j + 1) from (HS.out.symm.trans HZZ.out.symm)] at hown'
                  have hO1 := Lib.hid (OwnN.snoc hown')
                  clear kw kt kw2 hwY hwQ
                  have hbe := (hb.alloc hb.size (.cells #[.int .i64 (if Q < if Y < X then Y else X then Q else if Y < X then Y else X)] 2)).drew.grown hg (by have := hb.size; simp; omega) (fun j hj => (HO.out.2.lt j hj).1)
                  clear hown' hg
                  go_wp2
                  go_roundw
                  case rel => exact ⟨j + 1, g1, cap1, by omega, by go_num, rfl, hO1.out, hbe⟩
                  case measure => simp [intOf]; omega
            · obtain rfl : j = s.size := by omega
              have hn2 : ¬ (s.size : Int) + 1 ≤ (s.size : Int) := by omega
              have hI3 := hO.ints
              have hbf := hbo.out.trans (hb.mono hbo.out.size)
              clear hO hI
              go_wp2_with fail
              go_roundw
              case rel => exact ⟨k + 1, _, c, by omega, by go_num, rfl, hI3, hbf⟩
              case measure => simp [intOf]; omega
        · obtain rfl : k = r.size := by omega
          obtain ⟨b, off, rfl, hp⟩ := hI.at s.size (by rw [tab_length]; omega)
          have c0 := hp s.size (by rw [tab_length]; omega)
          rw [intAt_tab _ _ _ (by omega)] at c0
          have hl : (s.size : Int) < (s.size : Int) + 1 := by omega
          clear hp hI
          go_wp2
          go_ret
          exact ⟨rfl, hb⟩
set_option maxHeartbeats 2000000 in
theorem spec_costOf (s r : ByteArray) (p d t : Int) (w : World) (hs : s.size ≤ 1048576) (hr : r.size ≤ 1048576) :
    Calls Try.prog 43 #[.string s, .string r, .int .i64 p, .int .i64 d, .int .i64 t] w fun e w' => e = .returned (.int .i64 (costI s r p d t)) ∧ Below w.heap.size w w' := by
  by_cases h1 : s.size ≤ 200
  · have e1 : decide (200 < (s.size : Int)) = false := by simp; omega
    by_cases h2 : r.size ≤ 200
    · have e2 : decide (200 < (r.size : Int)) = false := by simp; omega
      cases hp : inB p 0 1000
      · have HR := Lib.hid (costI_no (s := s) (r := r) (p := p) (d := d) (t := t) (by unfold costArgB; rw [hp]; simp))
        have HP := Lib.hid hp; clear hp
        go_enter Try.func43, Try.ntmps43
        go_wp2_with (go_at_call 81; refine (spec_l1In _ _ _ _).mono ?_; rintro e w1 ⟨rfl, rfl⟩; first | rw [HP.out])
        go_ret
        exact ⟨by rw [HR.out]; rfl, Below.refl _ _⟩
      · cases hd : inB d 0 1000
        · have HR := Lib.hid (costI_no (s := s) (r := r) (p := p) (d := d) (t := t) (by unfold costArgB; rw [hd]; simp))
          have HP := Lib.hid hp; have HD := Lib.hid hd; clear hp hd
          go_enter Try.func43, Try.ntmps43
          go_wp2_with (go_at_call 81; refine (spec_l1In _ _ _ _).mono ?_; rintro e w1 ⟨rfl, rfl⟩; first | rw [HP.out] | rw [HD.out])
          go_ret
          exact ⟨by rw [HR.out]; rfl, Below.refl _ _⟩
        · cases ht : inB t 0 1000
          · have HR := Lib.hid (costI_no (s := s) (r := r) (p := p) (d := d) (t := t) (by unfold costArgB; rw [ht]; simp))
            have HP := Lib.hid hp; have HD := Lib.hid hd; have HT := Lib.hid ht; clear hp hd ht
            go_enter Try.func43, Try.ntmps43
            go_wp2_with (go_at_call 81; refine (spec_l1In _ _ _ _).mono ?_; rintro e w1 ⟨rfl, rfl⟩; first | rw [HP.out] | rw [HD.out] | rw [HT.out])
            go_ret
            exact ⟨by rw [HR.out]; rfl, Below.refl _ _⟩
          · rw [costI_yes (by unfold costArgB; rw [hp, hd, ht, decide_eq_true h1, decide_eq_true h2]; rfl)]
            exact spec_costOf_yes s r p d t w h1 h2 hp hd ht
    · have e2 : decide (200 < (r.size : Int)) = true := by simp; omega
      have HR := Lib.hid (costI_no (s := s) (r := r) (p := p) (d := d) (t := t) (by unfold costArgB; rw [decide_eq_false h2]; simp))
      go_enter Try.func43, Try.ntmps43
      go_wp2
      go_ret
      exact ⟨by rw [HR.out]; rfl, Below.refl _ _⟩
  · have e1 : decide (200 < (s.size : Int)) = true := by simp; omega
    have HR := Lib.hid (costI_no (s := s) (r := r) (p := p) (d := d) (t := t) (by unfold costArgB; rw [decide_eq_false h1]; simp))
    go_enter Try.func43, Try.ntmps43
    go_wp2
    go_ret
    exact ⟨by rw [HR.out]; rfl, Below.refl _ _⟩
end Go.Proofs.Ytnmjcoppbkjogab

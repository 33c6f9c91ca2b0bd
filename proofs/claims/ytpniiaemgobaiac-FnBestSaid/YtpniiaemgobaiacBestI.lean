/-
  Chapter 17: BestOf in the program: the weights and choices of all places, in a struct of two arrays.
-/
import Derived.Test.YtpniiaemgobaiacBestP
import Derived.Test.YtpniiaemgobaiacFoundIn
import Derived.Test.YtpniiaemgobaiacCmp
import Derived.BigRegion
namespace Go.Proofs.Ytpniiaemgobaiac
open Go.RowKit
set_option linter.unusedVariables false
set_option maxRecDepth 100000
/-- two arrays of 201 numbers, one behind the other -/
def arr2 (M : Nat → Int) (C : Nat → Int) : Array Value := Array.ofFn (n := 402) fun i => .int .i64 (if i.val < 201 then M i.val else C (i.val - 201))
theorem arr2_size (M C : Nat → Int) : (arr2 M C).size = 402 := by simp [arr2]
theorem arr2_most (M C : Nat → Int) (i : Nat) (h : i < 201) : (arr2 M C)[i]? = some (.int .i64 (M i)) := by
  simp [arr2, show i < 402 by omega, h]
theorem arr2_chosen (M C : Nat → Int) (i : Nat) (h : i < 201) : (arr2 M C)[201 + i]? = some (.int .i64 (C i)) := by
  simp [arr2, show 201 + i < 402 by omega, show ¬ 201 + i < 201 by omega]
theorem arr2_set1 (M C : Nat → Int) (i : Nat) (x : Int) (h : i < 201) : (arr2 M C).setIfInBounds i (.int .i64 x) = arr2 (updB M i x) C := by
  apply Array.ext_getElem?
  intro j
  rw [Array.getElem?_setIfInBounds, arr2_size]
  by_cases e : i = j
  · subst e; rw [if_pos rfl, if_pos (by omega), arr2_most _ _ _ h]; simp [updB]
  · rw [if_neg e]
    by_cases hj : j < 402
    · simp only [arr2, Array.getElem?_ofFn, hj]
      by_cases h2 : j < 201
      · simp [h2, updB, show ¬ j = i from fun h => e h.symm]
      · simp [h2]
    · rw [Array.getElem?_eq_none (by rw [arr2_size]; omega), Array.getElem?_eq_none (by rw [arr2_size]; omega)]
theorem arr2_set2 (M C : Nat → Int) (i : Nat) (x : Int) (h : i < 201) : (arr2 M C).setIfInBounds (201 + i) (.int .i64 x) = arr2 M (updB C i x) := by
  apply Array.ext_getElem?
  intro j
  rw [Array.getElem?_setIfInBounds, arr2_size]
  by_cases e : 201 + i = j
  · subst e; rw [if_pos rfl, if_pos (by omega), arr2_chosen _ _ _ h]; simp [updB]
  · rw [if_neg e]
    by_cases hj : j < 402
    · simp only [arr2, Array.getElem?_ofFn, hj]
      by_cases h2 : j < 201
      · simp [h2]
      · simp [h2, updB, show ¬ j - 201 = i by omega]
    · rw [Array.getElem?_eq_none (by rw [arr2_size]; omega), Array.getElem?_eq_none (by rw [arr2_size]; omega)]
theorem arr2_zero : Try.zeroCells71 = arr2 (fun _ => 0) (fun _ => 0) := by kernel_rfl
theorem updB_twice {β : Type} (f : Nat → β) (i : Nat) (x y : β) : updB (updB f i x) i y = updB f i y := by
  funext j; unfold updB; split <;> rfl
theorem updB_self {β : Type} (f : Nat → β) (i : Nat) (x : β) : updB f i x i = x := if_pos rfl
theorem updB_other {β : Type} (f : Nat → β) {i j : Nat} (x : β) (h : ¬ j = i) : updB f i x j = f j := if_neg h
theorem updB_nat (f : Nat → Nat) (i x : Nat) : (fun j => ((updB f i x j : Nat) : Int)) = updB (fun j => (f j : Int)) i (x : Int) := by
  funext j; unfold updB; split <;> rfl
theorem dpB_none (l : List Fd) : ∀ k, k ≤ 200 → ∀ a, a + k < 200 → (dpB l k).2 a = 0
  | 0, _, _, _ => rfl
  | k + 1, hk, a, h => by
    rw [dpB]
    simp only [updB, if_neg (show ¬ a = 199 - k by omega)]
    exact dpB_none l k (by omega) a (by omega)
theorem updB_same {β : Type} {f : Nat → β} {i : Nat} {x : β} (h : f i = x) : updB f i x = f := by
  funext j; unfold updB; split
  · rename_i e; rw [e, h]
  · rfl
theorem heap_set_at (w : World) (g i : Nat) (v : Value) (A : Array Value) (T : TypeId) (fr : Nat × Nat) (h : w.heap[g]? = some (.cells A T fr)) : (w.setCell ⟨g, i, none⟩ v).heap[g]? = some (.cells (A.setIfInBounds i v) T fr) := by
  simp [World.setCell, Array.getElem?_modify, h]
set_option maxHeartbeats 4000000 in
theorem impl_weighed (l : List Fd) (n : Nat) (a : Option Addr) (cap : Nat) (w : World) (hl : l.length = n) (h : Ints w a (fdI l)) (hn20 : n ≤ 20) (hf : FineF l) :
    Calls Try.prog 53 #[.slice a n cap] w fun e w' => ∃ B, e = .returned (.pointer (some ⟨B, 0, none⟩)) ∧ w.heap.size ≤ B ∧ w'.heap[B]? = some (.cells (arr2 (wB l) (fun i => (cB l i : Int))) 71 (0, 0)) ∧ Below w.heap.size w w' := by
  have HL := Lib.hid hl; have HF := Lib.hid hf; have HH := Lib.hid h
  have HFL := Lib.hid (show (fdI l).length = n * 3 by rw [fdI_length, hl])
  have hz : w.heap.size < (w.alloc (.cells Try.zeroCells71 71)).heap.size := by simp
  have HR0 := Lib.hid (show (w.alloc (.cells Try.zeroCells71 71)).heap[w.heap.size]? = some (.cells (arr2 (dpB l (200 - 200)).1 (fun i => ((dpB l (200 - 200)).2 i : Int))) 71 (0, 0)) by rw [heap_alloc_new, arr2_zero]; rfl)
  have HB0 := Lib.hid (show Below w.heap.size w (w.alloc (.cells Try.zeroCells71 71)) from (Below.refl _ _).alloc (Nat.le_refl _) _)
  clear hl hf h hz
  go_enter Try.func53, Try.ntmps53
  go_wp2_with fail
  go_loopw [4, 5, 6, 7, 28] (fun x _ _ _ _ wr => ∃ m : Nat, m ≤ 200 ∧ x = .int .i64 ((m : Int) - 1) ∧ wr.heap[w.heap.size]? = some (.cells (arr2 (dpB l (200 - m)).1 (fun i => ((dpB l (200 - m)).2 i : Int))) 71 (0, 0)) ∧ Below w.heap.size w wr)
    (fun x _ _ _ _ _ => (intOf x + 1).toNat)
  case atStart => exact ⟨200, by omega, rfl, HR0.out, HB0.out⟩
  case round =>
    obtain ⟨m, hm, rfl, hR, hb⟩ := hrel
    by_cases hm0 : m = 0
    · subst hm0
      have HR := Lib.hid hR
      clear hR
      go_wp2_with fail
      go_ret
      exact ⟨_, rfl, Nat.le_refl _, HR.out, hb⟩
    · obtain ⟨q, rfl⟩ : ∃ q, m = q + 1 := ⟨m - 1, by omega⟩
      rw [show (((q + 1 : Nat) : Int) - 1) = (q : Int) by omega]
      rw [show 200 - (q + 1) = 199 - q by omega] at hR
      have hq : q < 200 := by omega
      obtain ⟨k, hk⟩ : ∃ k, 199 - q = k := ⟨_, rfl⟩
      have hk1 : 200 - q = k + 1 := by omega
      have hk2 : 199 - k = q := by omega
      rw [hk] at hR
      have hk200 : k ≤ 199 := by omega
      have hbnd := dpB_bnd HF.out k
      have hnone := dpB_none l k (by omega) q (by omega)
      have hnx : dpB l (k + 1) = (updB (dpB l k).1 q (stepTo l (dpB l k).1 q n).1, updB (dpB l k).2 q (stepTo l (dpB l k).1 q n).2) := by rw [dpB, hk2, HL.out]
      have hstep := fun j hj => stepTo_bnd HF.out hbnd q j (by rw [HL.out]; exact hj)
      generalize (dpB l k).1 = M at *
      generalize (dpB l k).2 = C at *
      have HNX := Lib.hid hnx; have HK1 := Lib.hid hk1; have HSB := Lib.hid (hstep : ∀ j, j ≤ n → _)
      have hM1 := hbnd (q + 1)
      have HBN := Lib.hid hbnd
      have c1 : wr.cell? ⟨w.heap.size, q + 1, none⟩ = some (.int .i64 (M (q + 1))) := by rw [cell_of_row _ _ _ _ _ _ hR, arr2_most _ _ _ (by omega)]
      have c0 : wr.cell? ⟨w.heap.size, q, none⟩ = some (.int .i64 (M q)) := by rw [cell_of_row _ _ _ _ _ _ hR, arr2_most _ _ _ (by omega)]
      have f0 := frozen_of_row wr _ q _ _ hR
      have HR1 := Lib.hid (show (wr.drew.setCell ⟨w.heap.size, q, none⟩ (.int .i64 (M (q + 1)))).heap[w.heap.size]? = some (.cells (arr2 (updB M q (stepTo l M q 0).1) (updB (fun i => (C i : Int)) q ((stepTo l M q 0).2 : Int))) 71 (0, 0)) by
        rw [heap_set_at _ _ _ _ _ _ _ (show wr.drew.heap[w.heap.size]? = _ from hR), arr2_set1 _ _ _ _ (by omega)]
        rw [show updB (fun i => (C i : Int)) q ((stepTo l M q 0).2 : Int) = fun i => (C i : Int) from updB_same (by show ((C q : Nat) : Int) = _; rw [hnone]; rfl)]
        rfl)
      have HB1 := Lib.hid (show Below w.heap.size w (wr.drew.setCell ⟨w.heap.size, q, none⟩ (.int .i64 (M (q + 1)))) from hb.drew.setCell (p := ⟨w.heap.size, q, none⟩) (Nat.le_refl _) _)
      generalize M (q + 1) = m1 at *
      have kw : IntKind.i64.wrap ((q : Int) + 1) = (q : Int) + 1 := by rw [IntKind.wrap_i64]; omega
      have k0 : (0 : Int) ≤ (q : Int) + 1 := by omega
      have k1 : (q : Int) + 1 < 201 := by omega
      have k2 : (q : Int) < 201 := by omega
      have kt : ((q : Int) + 1).toNat = q + 1 := by omega
      clear hR hb hnx hk hk1 hk2 hm hm0 hbnd hnone hstep
      go_wp2_with fail
      go_region
      all_goals
        have HRX := HR1; have HBX := HB1
        clear HR1 HB1 c0 c1 f0 kw k0 k1 kt
        go_wp2_with fail
        go_loopw [5, 6, 7, 28] (fun _ _ _ x wi => ∃ j : Nat, j ≤ n ∧ x = .int .i64 (j : Int) ∧ wi.heap[w.heap.size]? = some (.cells (arr2 (updB M q (stepTo l M q j).1) (updB (fun i => (C i : Int)) q ((stepTo l M q j).2 : Int))) 71 (0, 0)) ∧ Below w.heap.size w wi)
          (fun _ _ _ x _ => n - (intOf x).toNat)
        case atStart => exact ⟨0, by omega, rfl, HRX.out, HBX.out⟩
        case round =>
          obtain ⟨j, hj, rfl, hRj, hbj⟩ := hrel
          by_cases hjn : j < n
          · obtain ⟨b, off, rfl, hp⟩ := (HH.out.kept hbj).at (j * 3) (by rw [HFL.out]; omega)
            have c0 := hp (j * 3) (by rw [HFL.out]; omega)
            have c1 := hp (j * 3 + 1) (by rw [HFL.out]; omega)
            have c2 := hp (j * 3 + 2) (by rw [HFL.out]; omega)
            rw [← Nat.add_assoc] at c1 c2
            obtain ⟨q0, q1, q2⟩ := fdI_at l j (by rw [HL.out]; exact hjn)
            rw [q0] at c0; rw [q1] at c1; rw [q2] at c2
            obtain ⟨x0, x1, x2, x3, x4⟩ := HF.out _ (fdAt_mem (l := l) (i := j) (by rw [HL.out]; exact hjn))
            have hst : stepTo l M q (j + 1) = if (fdAt l j).f = (q : Int) ∧ (stepTo l M q j).1 < (fdAt l j).w + M (fdAt l j).t.toNat then ((fdAt l j).w + M (fdAt l j).t.toNat, j + 1) else stepTo l M q j := rfl
            obtain ⟨sb0, sb1⟩ := HSB.out j (by omega)
            have hRA := (Below.heap_alloc wr (.cells #[.int .i64 (fdAt l j).f, .int .i64 (fdAt l j).t, .int .i64 (fdAt l j).w] 30) w.heap.size (lt_of_block hRj)).trans hRj
            have hbA := hbj.alloc hbj.size (.cells #[.int .i64 (fdAt l j).f, .int .i64 (fdAt l j).t, .int .i64 (fdAt l j).w] 30)
            have hRN := HSB
            generalize (fdAt l j).f = f at *
            generalize (fdAt l j).t = t at *
            generalize (fdAt l j).w = v at *
            clear hp q0 q1 q2 hRN
            by_cases hfq : f = (q : Int)
            · obtain ⟨tn, rfl⟩ : ∃ tn : Nat, t = (tn : Int) := ⟨t.toNat, by omega⟩
              rw [Int.toNat_natCast] at hst
              have htq : ¬ tn = q := by omega
              have htn : tn < 201 := by omega
              have hMt := HBN.out tn
              have g1 : (wr.alloc (.cells #[.int .i64 f, .int .i64 (tn : Int), .int .i64 v] 30)).cell? ⟨w.heap.size, tn, none⟩ = some (.int .i64 (M tn)) := by rw [cell_of_row _ _ _ _ _ _ hRA, arr2_most _ _ _ htn, updB_other _ _ htq]
              have g0 : (wr.alloc (.cells #[.int .i64 f, .int .i64 (tn : Int), .int .i64 v] 30)).cell? ⟨w.heap.size, q, none⟩ = some (.int .i64 (stepTo l M q j).1) := by rw [cell_of_row _ _ _ _ _ _ hRA, arr2_most _ _ _ (by omega), updB_self]
              have g2 : (wr.alloc (.cells #[.int .i64 f, .int .i64 (tn : Int), .int .i64 v] 30)).cell? ⟨w.heap.size, 201 + q, none⟩ = some (.int .i64 ((stepTo l M q j).2 : Int)) := by rw [cell_of_row _ _ _ _ _ _ hRA, arr2_chosen _ _ _ (by omega), updB_self]
              have g3 := frozen_of_row _ _ q _ _ hRA
              have g4 := frozen_of_row _ _ (201 + q) _ _ hRA
              obtain ⟨mt, hmt⟩ : ∃ mt, M tn = mt := ⟨_, rfl⟩
              rw [hmt] at g1 hst hMt
              obtain ⟨cu, hcu⟩ : ∃ cu, (stepTo l M q j).1 = cu := ⟨_, rfl⟩
              obtain ⟨cw, hcw⟩ : ∃ cw : Int, ((stepTo l M q j).2 : Int) = cw := ⟨_, rfl⟩
              rw [hcu] at g0 hst hRA sb0 sb1
              rw [hcw] at g2 hRA
              subst hfq
              have e0 : ((q : Int) != (q : Int)) = false := by simp
              have kw : IntKind.i64.wrap (v + mt) = v + mt := by rw [IntKind.wrap_i64]; omega
              have kj : IntKind.i64.wrap ((j : Int) + 1) = (j : Int) + 1 := by rw [IntKind.wrap_i64]; omega
              have t0 : (0 : Int) ≤ (tn : Int) := by omega
              have t1 : (tn : Int) < 201 := by omega
              have hbz : ¬ w.heap.size = wr.heap.size := by have := lt_of_block hRj; omega
              have hbz2 : ¬ wr.heap.size = w.heap.size := fun h => hbz h.symm
              by_cases hlt : cu < v + mt
              · have HS := Lib.hid (show stepTo l M q (j + 1) = (v + mt, j + 1) by rw [hst, if_pos ⟨rfl, hlt⟩])
                have e1 : decide (cu < v + mt) = true := decide_eq_true hlt
                have HRA := Lib.hid hRA; have HBA := Lib.hid hbA
                have HR2 := Lib.hid (fun (W : World) (hW : W.heap = (wr.alloc (.cells #[.int .i64 (q : Int), .int .i64 (tn : Int), .int .i64 v] 30)).heap) => show ((W.setCell ⟨w.heap.size, q, none⟩ (.int .i64 (v + mt))).setCell ⟨w.heap.size, 201 + q, none⟩ (.int .i64 ((j : Int) + 1))).heap[w.heap.size]? = some (.cells (arr2 (updB M q (v + mt)) (updB (fun i => (C i : Int)) q ((j : Int) + 1))) 71 (0, 0)) by
                  rw [heap_set_at _ _ _ _ _ _ _ (heap_set_at _ _ _ _ _ _ _ (by rw [hW]; exact hRA)), arr2_set1 _ _ _ _ (by omega), arr2_set2 _ _ _ _ (by omega), updB_twice, updB_twice])
                have HR3 := Lib.hid (fun (W : World) (hW : W.heap = (wr.alloc (.cells #[.int .i64 (q : Int), .int .i64 (tn : Int), .int .i64 v] 30)).heap) => show ((W.setCell ⟨w.heap.size, 201 + q, none⟩ (.int .i64 ((j : Int) + 1))).setCell ⟨w.heap.size, q, none⟩ (.int .i64 (v + mt))).heap[w.heap.size]? = some (.cells (arr2 (updB M q (v + mt)) (updB (fun i => (C i : Int)) q ((j : Int) + 1))) 71 (0, 0)) by
                  rw [heap_set_at _ _ _ _ _ _ _ (heap_set_at _ _ _ _ _ _ _ (by rw [hW]; exact hRA)), arr2_set2 _ _ _ _ (by omega), arr2_set1 _ _ _ _ (by omega), updB_twice, updB_twice])
                clear hst hRA hbA hRj hbj hmt hcu hcw hMt x0 x1 x2 x3 x4 sb0 sb1
                go_wp2_with fail
                go_quiet (fail)
                go_wp2_with fail
                go_region
                all_goals
                  go_wp2_with fail
                  go_roundw
                  case rel =>
                    refine ⟨j + 1, by omega, by go_num, ?_, ?_⟩
                    · rw [HS.out]
                      first | exact HR2.out _ rfl | exact HR3.out _ rfl
                    · first
                      | exact (((below_drewN HBA.out _).drew).setCell (p := ⟨w.heap.size, q, none⟩) (Nat.le_refl _) _).setCell (p := ⟨w.heap.size, 201 + q, none⟩) (Nat.le_refl _) _
                      | exact (((below_drewN HBA.out _).drew).setCell (p := ⟨w.heap.size, 201 + q, none⟩) (Nat.le_refl _) _).setCell (p := ⟨w.heap.size, q, none⟩) (Nat.le_refl _) _
                  case measure => simp [intOf]; omega
              · have HS := Lib.hid (show stepTo l M q (j + 1) = stepTo l M q j by rw [hst, if_neg (fun x => hlt x.2)])
                have e1 : decide (cu < v + mt) = false := decide_eq_false hlt
                have HRA := Lib.hid hRA; have HBA := Lib.hid hbA
                have HCU := Lib.hid hcu; have HCW := Lib.hid hcw
                clear hst hRA hbA hRj hbj hmt hcu hcw hMt x0 x1 x2 x3 x4 sb0 sb1
                go_wp2_with fail
                go_quiet (fail)
                go_wp2_with fail
                go_roundw
                case rel => exact ⟨j + 1, by omega, by go_num, by rw [HS.out, HCU.out, HCW.out]; exact HRA.out, below_drewN HBA.out _⟩
                case measure => simp [intOf]; omega
            · have HS := Lib.hid (show stepTo l M q (j + 1) = stepTo l M q j by rw [hst, if_neg (fun x => hfq x.1)])
              have e0 : (f != (q : Int)) = true := by simp [hfq]
              have HRA := Lib.hid hRA; have HBA := Lib.hid hbA
              clear hst hRA hbA hRj hbj hfq x0 x1 x2 x3 x4 sb0 sb1
              go_wp2_with fail
              go_roundw
              case rel => exact ⟨j + 1, by omega, by go_num, by rw [HS.out]; exact HRA.out, HBA.out⟩
              case measure => simp [intOf]; omega
          · obtain rfl : j = n := by omega
            have HRJ := Lib.hid hRj; have HBJ := Lib.hid hbj
            clear hRj hbj
            go_wp2_with fail
            go_roundw
            case rel => exact ⟨q, by omega, rfl, by rw [HK1.out, HNX.out]; simp only [updB_nat]; exact HRJ.out, HBJ.out⟩
            case measure => simp [intOf]
set_option maxHeartbeats 8000000 in
theorem impl_bestOf (l : List Fd) (n : Nat) (a : Option Addr) (cap : Nat) (w : World) (hl : l.length = n) (h : Ints w a (fdI l)) (hlen : n ≤ 1048576) :
    Calls Try.prog 19 #[.slice a n cap] w fun e w' => ∃ a' cap', e = .returned (.tuple #[.slice a' (bestV l).length cap', .int .i64 (bestW l)]) ∧ OwnM 30 3 w' w.heap.size a' (bestV l).length cap' (fdI (bestV l)) ∧ Below w.heap.size w w' := by
  obtain ⟨i0, hi, ht0, ht1, ht2⟩ := info_parts found_info
  have HF := Lib.hid (show (fdI l).length = n * 3 by rw [fdI_length, hl])
  have HL := Lib.hid hl
  have hV : bestV l = if foundOkB (fdI l) l.length = true then bestF l else [] := rfl
  have hW : bestW l = if foundOkB (fdI l) l.length = true then wB l 0 else -1 := rfl
  have hfine := found_fine l
  rw [hl] at hV hW hfine
  obtain ⟨ok, hok⟩ : ∃ ok, foundOkB (fdI l) n = ok := ⟨_, rfl⟩
  rw [hok] at hV hW hfine
  have HOK := Lib.hid hok
  have HH := Lib.hid h
  clear hl hok h
  cases ok
  · have HV := Lib.hid (show bestV l = [] from hV)
    have HW := Lib.hid (show bestW l = -1 from hW)
    clear hV hW hfine
    go_enter Try.func19, Try.ntmps19
    go_wp2_with fail
    refine (impl_foundOk (fdI l) n a cap _ HF.out HH.out (by omega)).mono ?_
    rintro e w1 ⟨rfl, hb1⟩
    rw [HOK.out]
    go_wp2_with fail
    go_ret2
    rw [HV.out, HW.out]
    exact ⟨none, 0, rfl, OwnM.nil _ _, hb1⟩
  · have HV := Lib.hid (show bestV l = tailB l 0 from hV)
    have HW := Lib.hid (show bestW l = wB l 0 from hW)
    obtain ⟨hf, hn20⟩ := hfine.1 rfl
    have HFI := Lib.hid hf
    clear hV hW hfine hf
    go_enter Try.func19, Try.ntmps19
    go_wp2_with fail
    refine (impl_foundOk (fdI l) n a cap _ HF.out HH.out (by omega)).mono ?_
    rintro e w1 ⟨rfl, hb1⟩
    rw [HOK.out]
    have hz1 := hb1.size
    go_wp2_with fail
    refine (impl_weighed l n a cap _ HL.out (HH.out.kept hb1) hn20 HFI.out).mono ?_
    rintro e w2 ⟨B, rfl, hB1, hR2, hb2⟩
    have HB2 := Lib.hid (below_step hb1 hb2)
    have HR2 := Lib.hid hR2
    have hBw := lt_of_block hR2
    have hz2 : w.heap.size ≤ w2.heap.size := by have := hb2.size; omega
    clear hb1 hb2 hR2
    go_wp2_with fail
    go_loopw [5, 6, 7] (fun c x _ wr => ∃ (q m cp : Nat) (a' : Option Addr) (out : List Fd), q ≤ 200 ∧ x = .int .i64 (q : Int) ∧ c = .slice a' m cp ∧ out.length = m ∧ m ≤ q ∧ OwnM 30 3 wr w2.heap.size a' m cp (fdI out) ∧ bestV l = out ++ tailB l q ∧ Below w2.heap.size w2 wr)
      (fun _ x _ _ => 200 - (intOf x).toNat)
    case atStart => exact ⟨0, 0, 0, none, [], by omega, rfl, rfl, rfl, by omega, OwnM.nil _ _, HV.out, Below.refl _ _⟩
    case round =>
      obtain ⟨q, m, cp, a', out, hq, rfl, rfl, hm, hmq, hO, hp, hb⟩ := hrel
      have HM := Lib.hid hm; have HO := Lib.hid hO; have HB := Lib.hid hb; have HP := Lib.hid hp
      have hR := (hb.block B hBw).trans HR2.out
      have hzw := hb.size
      clear hm hO hp
      by_cases hq2 : q < 200
      · have c0 : wr.cell? ⟨B, 201 + q, none⟩ = some (.int .i64 (cB l q : Int)) := by rw [cell_of_row _ _ _ _ _ _ hR, arr2_chosen _ _ _ (by omega)]
        have hnx := tailB_none HFI.out hq2
        have hsm := fun i => tailB_some (i := i) HFI.out hq2
        obtain ⟨ci, hci⟩ : ∃ ci, cB l q = ci := ⟨_, rfl⟩
        rw [hci] at c0 hnx
        cases ci with
        | zero =>
          have HP2 := Lib.hid (show bestV l = out ++ tailB l (q + 1) by rw [HP.out, hnx rfl])
          have e0 : (((0 : Nat) : Int) == 0) = true := rfl
          clear hnx hsm hci hb hR HP
          go_wp2_with fail
          go_roundw
          case rel => exact ⟨q + 1, m, cp, a', out, by omega, by go_num, rfl, HM.out, by omega, HO.out, HP2.out, HB.out⟩
          case measure => simp [intOf]; omega
        | succ i =>
          obtain ⟨hil, hfq, htl⟩ := hsm i hci
          have hin : i < n := by rw [HL.out] at hil; exact hil
          obtain ⟨b, off, rfl, hq3⟩ := (HH.out.kept (HB2.out.trans (hb.mono HB2.out.size))).at (i * 3) (by rw [HF.out]; omega)
          have d0 := hq3 (i * 3) (by rw [HF.out]; omega)
          have d1 := hq3 (i * 3 + 1) (by rw [HF.out]; omega)
          have d2 := hq3 (i * 3 + 2) (by rw [HF.out]; omega)
          rw [← Nat.add_assoc] at d1 d2
          obtain ⟨q0, q1, q2⟩ := fdI_at l i hil
          rw [q0] at d0; rw [q1] at d1; rw [q2] at d2
          have hx := HFI.out _ (fdAt_mem hil)
          obtain ⟨x, hxe⟩ : ∃ x, fdAt l i = x := ⟨_, rfl⟩
          rw [hxe] at hx htl d0 d1 d2 hfq
          obtain ⟨f, t, v⟩ := x
          simp only at d0 d1 d2 hx htl hfq
          obtain ⟨x0, x1, x2, x3, x4⟩ := hx
          obtain ⟨tn, rfl⟩ : ∃ tn : Nat, t = (tn : Int) := ⟨t.toNat, by omega⟩
          have HP2 := Lib.hid (show bestV l = (out ++ [⟨f, (tn : Int), v⟩]) ++ tailB l tn by rw [HP.out, htl, Int.toNat_natCast]; simp)
          have hHF := hfq
          have hbq := block_lt_of_cell d0
          have e0 : (((i + 1 : Nat) : Int) == 0) = false := by simp; omega
          have kw : IntKind.i64.wrap (((i + 1 : Nat) : Int) - 1) = (i : Int) := by rw [IntKind.wrap_i64]; omega
          have kw2 : ((i + 1 : Nat) : Int) - 1 = (i : Int) := by omega
          have hbz : Below wr.heap.size wr (wr.alloc (.cells #[.int .i64 f, .int .i64 (tn : Int), .int .i64 v] 30)) := (Below.refl _ _).alloc (Nat.le_refl _) _
          have HBZ := Lib.hid (HB.out.trans (hbz.mono HB.out.size))
          have HK := Lib.hid (HO.out.kept hbz)
          have HCC := Lib.hid (cells_new wr #[Value.int .i64 f, .int .i64 (tn : Int), .int .i64 v] 30)
          have HRL := Lib.hid (show (fdI (out ++ [⟨f, (tn : Int), v⟩])).length = (m + 1) * 3 by rw [fdI_length, List.length_append, HM.out]; rfl)
          have HR := Lib.hid (show fdI (out ++ [⟨f, (tn : Int), v⟩]) = fdI out ++ [f, (tn : Int), v] from fdI_append _ _)
          have HQ1 := Lib.hid (show intAt (fdI l) (i * 3 + 1) = (tn : Int) by rw [q1, hxe])
          have htq : q < tn := by omega
          clear hq3 q0 q1 q2 hxe hbz hb hsm hnx hci htl hfq hHF hR hil HP x0 x1 x3 x4
          go_wp2_with (at_builtin; go_must (refine wpList_append_own _ rfl _ _ 24 rfl w2.heap.size 30 i0 (.agg #[.int .i64 0, .int .i64 0, .int .i64 0]) 3 24 Try.underlying24 hi ht0 ht1 ht2 rfl (by decide) _ _ _ rfl HK.out.2 ⟨wr.heap.size, 0, none⟩ 1 1 [.int .i64 f, .int .i64 (tn : Int), .int .i64 v] rfl rfl HCC.out (by simp [Value.oneCell']) (by unfold maxLen; omega) (by omega) (by simp; omega) ?_; intro v' w4 hown' hg _; replace hg : World.grownBy _ w4 (Value.slice a' m cp).ownBlock := hg; obtain ⟨a4, cap4, rfl, hO'⟩ := OwnM.shape HRL.out (by rw [HR.out, List.map_append]; exact hown'); have hB4 := HBZ.out.trans (HK.out.turn (by simp; omega) hg); obtain ⟨b5, off5, hbe, hq5⟩ := (HH.out.kept (HB2.out.trans (hB4.mono HB2.out.size))).at (i * 3 + 1) (by rw [HF.out]; omega); cases hbe; have c5 := hq5 (i * 3 + 1) (by rw [HF.out]; omega); rw [← Nat.add_assoc, HQ1.out] at c5; have HO4 := Lib.hid hO'; have HB4 := Lib.hid hB4; clear hown' hg hO' hB4 hq5))
          go_roundw
          case rel => exact ⟨tn, m + 1, cap4, a4, out ++ [⟨f, (tn : Int), v⟩], by omega, rfl, rfl, by rw [List.length_append, HM.out]; rfl, by omega, HO4.out, HP2.out, HB4.out⟩
          case measure => simp [intOf]; omega
      · obtain rfl : q = 200 := by omega
        have HP2 := Lib.hid (show bestV l = out by rw [HP.out, tailB_end l (Nat.le_refl _)]; simp)
        have HBF := Lib.hid (HB2.out.trans (hb.mono HB2.out.size))
        have c0 : wr.cell? ⟨B, 0, none⟩ = some (.int .i64 (wB l 0)) := by rw [cell_of_row _ _ _ _ _ _ hR, arr2_most _ _ _ (by omega)]
        clear hb hR HP hq hmq hq2
        go_wp2_with fail
        go_quiet (fail)
        go_wp2_with fail
        go_ret2
        rw [HP2.out, HW.out, HM.out]
        exact ⟨_, _, rfl, (HO.out.mono hz2).kept (below_drewN (Below.refl _ _) _), below_drewN HBF.out _⟩
end Go.Proofs.Ytpniiaemgobaiac

/-
  Chapter 18: the next row, where two bytes side by side may be changed for each other, in the program (by wip/tools/mk_swap.py).
-/
import Derived.Test.YtgikjopmijomgabL18Cost
import Derived.Test.YtgikjopmijomgabL18W
namespace Go.Proofs.Ytgikjopmijomgab
open Go.RowKit
set_option linter.unusedVariables false
set_option maxRecDepth 100000
theorem swapB_is (s X : ByteArray) (k i : Nat) (hi : i + 1 < s.size) (hk : k + 1 < X.size) : swapB s X (k + 1) (i + 1) = ((s[i + 1] == X[k]) && (s[i] == X[k + 1])) := by
  unfold swapB
  rw [byteAt_eq s (i + 1) hi, Nat.add_sub_cancel, Nat.add_sub_cancel, byteAt_eq X k (by omega), byteAt_eq s i (by omega), byteAt_eq X (k + 1) hk]
  simp
theorem byte_eq_int (x y : UInt8) : (((x.toNat : Int) == (y.toNat : Int)) : Bool) = (x == y) := by
  rw [Bool.eq_iff_iff]; simp only [beq_iff_eq]
  exact ⟨fun e => UInt8.toNat_inj.1 (by omega), fun e => by rw [e]⟩
theorem rowN_set2 (F : Nat → Int) (j : Nat) (v : Value) (h : j < 201) : ((rowN F j).setIfInBounds j v).setIfInBounds j (.int .i64 (F j)) = rowN F (j + 1) := by
  rw [← rowN_set F j h]
  apply Array.ext_getElem?
  intro i
  simp only [Array.getElem?_setIfInBounds, Array.size_setIfInBounds]
  by_cases e : j = i
  · simp [e]
  · simp [e]
set_option maxHeartbeats 16000000 in
theorem impl_nextSwaps (s X : ByteArray) (k mo : Nat) (O L G : Nat → Int) (head : Int) (w : World) (hs : s.size ≤ 200) (hX : X.size = k + 1) (hXs : X.size ≤ 200) (hmo : 0 < k → mo = s.size + 1)
    (hL : ∀ i, i ≤ 200 → 0 ≤ L i ∧ L i ≤ 1000) (hO : ∀ i, i ≤ 200 → 0 ≤ O i ∧ O i ≤ 1000) (hG : ∀ i, i ≤ 200 → 0 ≤ G i ∧ G i ≤ 1000) (hG0 : G 0 = head)
    (hGs : ∀ i, i < s.size → G (i + 1) = swapMin (swapB s X k i) (min3 (L i + (df (byteAt s i) (byteAt X k) : Nat)) (L (i + 1) + 1) (G i + 1)) (O (i - 1))) :
    Calls Try.prog 54 #[.string s, .string X, .agg (rowN O mo), .agg (rowN L (s.size + 1)), .int .i64 head] w fun e w' => e = .returned (.agg (rowN G (s.size + 1))) ∧ Below w.heap.size w w' := by
  have hz := row_zero
  have hat : IntKind.i64.wrap ((X.size : Int) - 1) = (k : Int) := by rw [IntKind.wrap_i64]; omega
  have HXS := Lib.hid hX
  have HMO := Lib.hid hmo; have HL := Lib.hid hL; have HO := Lib.hid hO; have HG := Lib.hid hG; have HGS := Lib.hid hGs
  clear hmo hL hO hG hGs hX
  go_enter Try.func54, Try.ntmps54
  have hh3 : ((((w.alloc (.cells (rowN O mo) 76)).alloc (.cells (rowN L (s.size + 1)) 76)).alloc (.cells zeros201 76)).alloc (.cells zeros201 76)).heap[w.heap.size + 1 + 1 + 1]? = some (.cells zeros201 76 (0, 0)) := by
    have := heap_alloc_new (((w.alloc (.cells (rowN O mo) 76)).alloc (.cells (rowN L (s.size + 1)) 76)).alloc (.cells zeros201 76)) (.cells zeros201 76)
    rwa [World.size_alloc, World.size_alloc, World.size_alloc] at this
  have hh2 : ((((w.alloc (.cells (rowN O mo) 76)).alloc (.cells (rowN L (s.size + 1)) 76)).alloc (.cells zeros201 76)).alloc (.cells zeros201 76)).heap[w.heap.size + 1 + 1]? = some (.cells zeros201 76 (0, 0)) := by
    have := heap_alloc_new ((w.alloc (.cells (rowN O mo) 76)).alloc (.cells (rowN L (s.size + 1)) 76)) (.cells zeros201 76)
    rw [World.size_alloc, World.size_alloc] at this
    exact (Below.heap_alloc _ _ _ (by simp)).trans this
  have hh1 : ((((w.alloc (.cells (rowN O mo) 76)).alloc (.cells (rowN L (s.size + 1)) 76)).alloc (.cells zeros201 76)).alloc (.cells zeros201 76)).heap[w.heap.size + 1]? = some (.cells (rowN L (s.size + 1)) 76 (0, 0)) := by
    have := heap_alloc_new (w.alloc (.cells (rowN O mo) 76)) (.cells (rowN L (s.size + 1)) 76)
    rw [World.size_alloc] at this
    exact (Below.heap_alloc _ _ _ (by simp)).trans ((Below.heap_alloc _ _ _ (by simp)).trans this)
  have hh0 : ((((w.alloc (.cells (rowN O mo) 76)).alloc (.cells (rowN L (s.size + 1)) 76)).alloc (.cells zeros201 76)).alloc (.cells zeros201 76)).heap[w.heap.size]? = some (.cells (rowN O mo) 76 (0, 0)) :=
    (Below.heap_alloc _ _ _ (by simp; omega)).trans ((Below.heap_alloc _ _ _ (by simp; omega)).trans ((Below.heap_alloc _ _ _ (by simp)).trans (heap_alloc_new _ _)))
  have hbb : Below w.heap.size w ((((w.alloc (.cells (rowN O mo) 76)).alloc (.cells (rowN L (s.size + 1)) 76)).alloc (.cells zeros201 76)).alloc (.cells zeros201 76)) :=
    ((((Below.refl _ _).alloc (Nat.le_refl _) _).alloc (by simp) _).alloc (by simp; omega) _).alloc (by simp; omega) _
  have HH0 := Lib.hid hh0; have HH1 := Lib.hid hh1; have HH2 := Lib.hid hh2; have HH3 := Lib.hid hh3; have HBB := Lib.hid hbb
  clear hh0 hh1 hh2 hh3 hbb
  go_wp2_with (first | ((with_reducible show wpList _ _ _ (⟨_, Op.build _ _, _, _, _, _⟩ :: _) _ _); refine wpList_row1 rfl _ head G hG0 rfl rfl ?_) | ((with_reducible show wpList _ _ _ (⟨_, Op.store 76 _ _, _, _, _, _⟩ :: _) _ _); refine wpList_store_row rfl 76 _ _ rfl (w.heap.size + 1 + 1 + 1) (rowN G 1) rfl rfl 76 zeros201 HH3.out (row_infoN _ _) (by rw [rowN_size]; rfl) (rowN_one _ _) ?_))
  go_loopw [22] (fun i wr => ∃ j : Nat, j ≤ s.size ∧ i = .int .i64 j ∧ wr.heap[w.heap.size]? = some (.cells (rowN O mo) 76 (0, 0)) ∧ wr.heap[w.heap.size + 1]? = some (.cells (rowN L (s.size + 1)) 76 (0, 0)) ∧ wr.heap[w.heap.size + 2]? = some (.cells zeros201 76 (0, 0)) ∧ wr.heap[w.heap.size + 3]? = some (.cells (rowN G (j + 1)) 76 (0, 0)) ∧ Below w.heap.size w wr)
    (fun i _ => s.size - (intOf i).toNat)
  case atStart => exact ⟨0, by omega, rfl, (setRow_other _ _ _ _ (by omega)).trans HH0.out, (setRow_other _ _ _ _ (by omega)).trans HH1.out, (setRow_other _ _ _ _ (by omega)).trans HH2.out, setRow_heap _ _ _ _ _ _ HH3.out, below_setRow HBB.out (by omega) _⟩
  case round =>
    obtain ⟨j, hj, rfl, g0, g1, g2, g3, hb⟩ := hrel
    by_cases hjt : j < s.size
    · have hkx : k < X.size := by have := HXS.out; omega
      have ca : wr.cell? ⟨w.heap.size + 1, j, none⟩ = some (.int .i64 (L j)) := by rw [cell_of_row _ _ j _ _ _ g1, rowN_below L _ j (by omega) (by omega)]
      have cb : wr.cell? ⟨w.heap.size + 1, j + 1, none⟩ = some (.int .i64 (L (j + 1))) := by rw [cell_of_row _ _ (j + 1) _ _ _ g1, rowN_below L _ (j + 1) (by omega) (by omega)]
      have cc : wr.cell? ⟨w.heap.size + 3, j, none⟩ = some (.int .i64 (G j)) := by rw [cell_of_row _ _ j _ _ _ g3, rowN_below G _ j (by omega) (by omega)]
      have cd : wr.cell? ⟨w.heap.size + 3, j + 1, none⟩ = some (.int .i64 0) := by rw [cell_of_row _ _ (j + 1) _ _ _ g3, rowN_at _ _ (j + 1) (by omega), if_neg (by omega)]
      have HCO : Hid (0 < k → 0 < j → wr.cell? ⟨w.heap.size, j - 1, none⟩ = some (.int .i64 (O (j - 1)))) := fun hk0 hj0 => by rw [cell_of_row _ _ (j - 1) _ _ _ g0, rowN_below O _ (j - 1) (by omega) (by have := HMO.out hk0; omega)]
      have hf := frozen_of_row _ _ (j + 1) _ _ g3
      have ba := HL.out j (by omega)
      have bb := HL.out (j + 1) (by omega)
      have bc := HG.out j (by omega)
      have bo := HO.out (j - 1) (by omega)
      have HSET : Hid ((rowN G (j + 1)).setIfInBounds (j + 1) (.int .i64 (G (j + 1))) = rowN G (j + 1 + 1)) := rowN_set G (j + 1) (by omega)
      have HSET2 : Hid (∀ v, ((rowN G (j + 1)).setIfInBounds (j + 1) v).setIfInBounds (j + 1) (.int .i64 (G (j + 1))) = rowN G (j + 1 + 1)) := fun v => rowN_set2 G (j + 1) v (by omega)
      have HS := HGS.out j hjt
      have G0 := Lib.hid g0; have G1 := Lib.hid g1; have G2 := Lib.hid g2; have G3 := Lib.hid g3
      clear g0 g1 g2 g3
      have kw : IntKind.i64.wrap ((j : Int) + 1) = (j : Int) + 1 := by rw [IntKind.wrap_i64]; omega
      have k0 : (0 : Int) ≤ (j : Int) + 1 := by omega
      have k1 : (j : Int) + 1 < 201 := by omega
      have k2 : (j : Int) < 201 := by omega
      have kt : ((j : Int) + 1).toNat = j + 1 := by omega
      rw [byteAt_eq s j hjt, byteAt_eq X k hkx] at HS
      have hlen : (j : Int) < (s.size : Int) := by omega
      generalize L j = x at *
      generalize L (j + 1) = y at *
      generalize G j = q at *
      generalize G (j + 1) = z at *
      generalize O (j - 1) = u at *
      obtain ⟨Y, hY⟩ : ∃ Y, y + 1 = Y := ⟨_, rfl⟩
      obtain ⟨Q, hQ⟩ : ∃ Q, q + 1 = Q := ⟨_, rfl⟩
      obtain ⟨U, hU⟩ : ∃ U, u + 1 = U := ⟨_, rfl⟩
      have hwY : IntKind.i64.wrap (y + 1) = Y := by rw [IntKind.wrap_i64]; omega
      have hwQ : IntKind.i64.wrap (q + 1) = Q := by rw [IntKind.wrap_i64]; omega
      have hwU : IntKind.i64.wrap (u + 1) = U := by rw [IntKind.wrap_i64]; omega
      rw [hY, hQ] at HS
      unfold swapMin at HS
      rw [hU] at HS
      clear hY hQ hU
      by_cases he : s[j] = X[k]
      · have hne : ((s[j].toNat : Int) != (X[k].toNat : Int)) = false := by rw [he]; simp
        rw [he, df_self] at HS
        rw [show x + ((0 : Nat) : Int) = x by omega] at HS
        clear he
        by_cases hj0 : j = 0
        · have hsw : swapB s X k j = false := by unfold swapB; simp [hj0]
          rw [if_neg (by rw [hsw]; exact Bool.false_ne_true)] at HS
          have HS := Lib.hid HS
          have q1 : decide ((0 : Int) < (j : Int)) = false := by simp; omega
          have q2 : decide (0 < j) = false := by simp; omega
          clear hsw hj0
          go_wp2_with fail
          go_quiet (fail)
          go_wp2_with fail
          go_region
          all_goals
            have HM : Hid ((if Q < if Y < x then Y else x then Q else if Y < x then Y else x) = min3 x Y Q) := rfl
            generalize (if Q < if Y < x then Y else x then Q else if Y < x then Y else x) = M at *
            go_wp2_with fail
            go_quiet (fail)
            clear kw kt
            go_wp2
            go_roundw
            case rel =>
              refine ⟨j + 1, by omega, by go_num, (by first | exact (heap_setCell_other _ _ _ _ (by first | (simp; done) | (simp; omega))).trans G0.out | exact (heap_setCell_other _ _ _ _ (by first | (simp; done) | (simp; omega))).trans ((heap_setCell_other _ _ _ _ (by first | (simp; done) | (simp; omega))).trans G0.out)), (by first | exact (heap_setCell_other _ _ _ _ (by first | (simp; done) | (simp; omega))).trans G1.out | exact (heap_setCell_other _ _ _ _ (by first | (simp; done) | (simp; omega))).trans ((heap_setCell_other _ _ _ _ (by first | (simp; done) | (simp; omega))).trans G1.out)), (by first | exact (heap_setCell_other _ _ _ _ (by first | (simp; done) | (simp; omega))).trans G2.out | exact (heap_setCell_other _ _ _ _ (by first | (simp; done) | (simp; omega))).trans ((heap_setCell_other _ _ _ _ (by first | (simp; done) | (simp; omega))).trans G2.out)), ?_, (by repeat (first | exact hb | refine below_drewN ?_ _ | refine Below.drew ?_ | refine Below.setCell ?_ (by show w.heap.size ≤ w.heap.size + 3; omega) _))⟩
              have e := HSET.out
              rw [HS.out, ← HM.out] at e
              rw [← e]
              exact heap_setCell_same _ _ _ _ _ _ G3.out
            case measure => simp [intOf]; omega
        · have q1 : decide ((0 : Int) < (j : Int)) = true := by simp; omega
          have q2 : decide (0 < j) = true := by simp; omega
          by_cases hk0 : k = 0
          · have hsw : swapB s X k j = false := by unfold swapB; simp [hk0]
            rw [if_neg (by rw [hsw]; exact Bool.false_ne_true)] at HS
            have HS := Lib.hid HS
            have q3 : decide ((0 : Int) < (k : Int)) = false := by simp; omega
            have q4 : decide (0 < k) = false := by simp; omega
            clear hsw hk0
            go_wp2_with fail
            go_quiet (fail)
            go_wp2_with fail
            go_region
            all_goals
              have HM : Hid ((if Q < if Y < x then Y else x then Q else if Y < x then Y else x) = min3 x Y Q) := rfl
              generalize (if Q < if Y < x then Y else x then Q else if Y < x then Y else x) = M at *
              go_wp2_with fail
              go_quiet (fail)
              clear kw kt
              go_wp2
              go_roundw
              case rel =>
                refine ⟨j + 1, by omega, by go_num, (by first | exact (heap_setCell_other _ _ _ _ (by first | (simp; done) | (simp; omega))).trans G0.out | exact (heap_setCell_other _ _ _ _ (by first | (simp; done) | (simp; omega))).trans ((heap_setCell_other _ _ _ _ (by first | (simp; done) | (simp; omega))).trans G0.out)), (by first | exact (heap_setCell_other _ _ _ _ (by first | (simp; done) | (simp; omega))).trans G1.out | exact (heap_setCell_other _ _ _ _ (by first | (simp; done) | (simp; omega))).trans ((heap_setCell_other _ _ _ _ (by first | (simp; done) | (simp; omega))).trans G1.out)), (by first | exact (heap_setCell_other _ _ _ _ (by first | (simp; done) | (simp; omega))).trans G2.out | exact (heap_setCell_other _ _ _ _ (by first | (simp; done) | (simp; omega))).trans ((heap_setCell_other _ _ _ _ (by first | (simp; done) | (simp; omega))).trans G2.out)), ?_, (by repeat (first | exact hb | refine below_drewN ?_ _ | refine Below.drew ?_ | refine Below.setCell ?_ (by show w.heap.size ≤ w.heap.size + 3; omega) _))⟩
                have e := HSET.out
                rw [HS.out, ← HM.out] at e
                rw [← e]
                exact heap_setCell_same _ _ _ _ _ _ G3.out
              case measure => simp [intOf]; omega
          · have q3 : decide ((0 : Int) < (k : Int)) = true := by simp; omega
            have q4 : decide (0 < k) = true := by simp; omega
            have co := HCO.out (by omega) (by omega)
            have jw : IntKind.i64.wrap ((j : Int) - 1) = ((j - 1 : Nat) : Int) := by rw [IntKind.wrap_i64]; omega
            have kkw : IntKind.i64.wrap ((k : Int) - 1) = ((k - 1 : Nat) : Int) := by rw [IntKind.wrap_i64]; omega
            have j1 : j - 1 < s.size := by omega
            have kk1 : k - 1 < X.size := by omega
            have j2 : ((j - 1 : Nat) : Int) < 201 := by omega
            have hsw : swapB s X k j = ((s[j] == X[k - 1]) && (s[j - 1] == X[k])) := by
              obtain ⟨jj, rfl⟩ : ∃ jj, j = jj + 1 := ⟨j - 1, by omega⟩
              obtain ⟨kk, rfl⟩ : ∃ kk, k = kk + 1 := ⟨k - 1, by omega⟩
              exact swapB_is s X kk jj hjt hkx
            have b1 := byte_eq_int s[j] X[k - 1]
            have b2 := byte_eq_int s[j - 1] X[k]
            cases hb1 : s[j] == X[k - 1]
            · rw [hb1] at b1
              rw [if_neg (by rw [hsw, hb1]; exact Bool.false_ne_true)] at HS
              have HS := Lib.hid HS
              clear hsw hb1 b2
              go_wp2_with fail
              go_quiet (fail)
              go_wp2_with fail
              go_region
              all_goals
                have HM : Hid ((if Q < if Y < x then Y else x then Q else if Y < x then Y else x) = min3 x Y Q) := rfl
                generalize (if Q < if Y < x then Y else x then Q else if Y < x then Y else x) = M at *
                go_wp2_with fail
                go_quiet (fail)
                clear kw kt
                go_wp2
                go_roundw
                case rel =>
                  refine ⟨j + 1, by omega, by go_num, (by first | exact (heap_setCell_other _ _ _ _ (by first | (simp; done) | (simp; omega))).trans G0.out | exact (heap_setCell_other _ _ _ _ (by first | (simp; done) | (simp; omega))).trans ((heap_setCell_other _ _ _ _ (by first | (simp; done) | (simp; omega))).trans G0.out)), (by first | exact (heap_setCell_other _ _ _ _ (by first | (simp; done) | (simp; omega))).trans G1.out | exact (heap_setCell_other _ _ _ _ (by first | (simp; done) | (simp; omega))).trans ((heap_setCell_other _ _ _ _ (by first | (simp; done) | (simp; omega))).trans G1.out)), (by first | exact (heap_setCell_other _ _ _ _ (by first | (simp; done) | (simp; omega))).trans G2.out | exact (heap_setCell_other _ _ _ _ (by first | (simp; done) | (simp; omega))).trans ((heap_setCell_other _ _ _ _ (by first | (simp; done) | (simp; omega))).trans G2.out)), ?_, (by repeat (first | exact hb | refine below_drewN ?_ _ | refine Below.drew ?_ | refine Below.setCell ?_ (by show w.heap.size ≤ w.heap.size + 3; omega) _))⟩
                  have e := HSET.out
                  rw [HS.out, ← HM.out] at e
                  rw [← e]
                  exact heap_setCell_same _ _ _ _ _ _ G3.out
                case measure => simp [intOf]; omega
            · rw [hb1] at b1
              cases hb2 : s[j - 1] == X[k]
              · rw [hb2] at b2
                rw [if_neg (by rw [hsw, hb1, hb2]; exact Bool.false_ne_true)] at HS
                have HS := Lib.hid HS
                clear hsw hb1 hb2
                go_wp2_with fail
                go_quiet (fail)
                go_wp2_with fail
                go_region
                all_goals
                  have HM : Hid ((if Q < if Y < x then Y else x then Q else if Y < x then Y else x) = min3 x Y Q) := rfl
                  generalize (if Q < if Y < x then Y else x then Q else if Y < x then Y else x) = M at *
                  go_wp2_with fail
                  go_quiet (fail)
                  clear kw kt
                  go_wp2
                  go_roundw
                  case rel =>
                    refine ⟨j + 1, by omega, by go_num, (by first | exact (heap_setCell_other _ _ _ _ (by first | (simp; done) | (simp; omega))).trans G0.out | exact (heap_setCell_other _ _ _ _ (by first | (simp; done) | (simp; omega))).trans ((heap_setCell_other _ _ _ _ (by first | (simp; done) | (simp; omega))).trans G0.out)), (by first | exact (heap_setCell_other _ _ _ _ (by first | (simp; done) | (simp; omega))).trans G1.out | exact (heap_setCell_other _ _ _ _ (by first | (simp; done) | (simp; omega))).trans ((heap_setCell_other _ _ _ _ (by first | (simp; done) | (simp; omega))).trans G1.out)), (by first | exact (heap_setCell_other _ _ _ _ (by first | (simp; done) | (simp; omega))).trans G2.out | exact (heap_setCell_other _ _ _ _ (by first | (simp; done) | (simp; omega))).trans ((heap_setCell_other _ _ _ _ (by first | (simp; done) | (simp; omega))).trans G2.out)), ?_, (by repeat (first | exact hb | refine below_drewN ?_ _ | refine Below.drew ?_ | refine Below.setCell ?_ (by show w.heap.size ≤ w.heap.size + 3; omega) _))⟩
                    have e := HSET.out
                    rw [HS.out, ← HM.out] at e
                    rw [← e]
                    exact heap_setCell_same _ _ _ _ _ _ G3.out
                  case measure => simp [intOf]; omega
              · rw [hb2] at b2
                rw [if_pos (by rw [hsw, hb1, hb2]; rfl)] at HS
                have HS := Lib.hid HS
                clear hsw hb1 hb2
                go_wp2_with fail
                go_quiet (fail)
                go_wp2_with fail
                go_region
                all_goals
                  have HM : Hid ((if Q < if Y < x then Y else x then Q else if Y < x then Y else x) = min3 x Y Q) := rfl
                  generalize (if Q < if Y < x then Y else x then Q else if Y < x then Y else x) = M at *
                  go_wp2_with fail
                  go_quiet (fail)
                  go_wp2_with fail
                  go_region
                  all_goals
                    clear kw kt
                    go_wp2
                    go_roundw
                    case rel =>
                      refine ⟨j + 1, by omega, by go_num, (by first | exact (heap_setCell_other _ _ _ _ (by first | (simp; done) | (simp; omega))).trans G0.out | exact (heap_setCell_other _ _ _ _ (by first | (simp; done) | (simp; omega))).trans ((heap_setCell_other _ _ _ _ (by first | (simp; done) | (simp; omega))).trans G0.out)), (by first | exact (heap_setCell_other _ _ _ _ (by first | (simp; done) | (simp; omega))).trans G1.out | exact (heap_setCell_other _ _ _ _ (by first | (simp; done) | (simp; omega))).trans ((heap_setCell_other _ _ _ _ (by first | (simp; done) | (simp; omega))).trans G1.out)), (by first | exact (heap_setCell_other _ _ _ _ (by first | (simp; done) | (simp; omega))).trans G2.out | exact (heap_setCell_other _ _ _ _ (by first | (simp; done) | (simp; omega))).trans ((heap_setCell_other _ _ _ _ (by first | (simp; done) | (simp; omega))).trans G2.out)), ?_, (by repeat (first | exact hb | refine below_drewN ?_ _ | refine Below.drew ?_ | refine Below.setCell ?_ (by show w.heap.size ≤ w.heap.size + 3; omega) _))⟩
                      have e := HSET2.out (.int .i64 M)
                      rw [HS.out, ← HM.out] at e
                      rw [← e]
                      exact heap_setCell_same _ _ _ _ _ _ (heap_setCell_same _ _ _ _ _ _ G3.out)
                    case measure => simp [intOf]; omega
      · have hne : ((s[j].toNat : Int) != (X[k].toNat : Int)) = true := by
          simp only [bne_iff_ne, ne_eq]; intro e; exact he (UInt8.toNat_inj.1 (by omega))
        rw [df_ne he] at HS
        obtain ⟨T, hT⟩ : ∃ T, x + 1 = T := ⟨_, rfl⟩
        have hwT : IntKind.i64.wrap (x + 1) = T := by rw [IntKind.wrap_i64]; omega
        rw [show x + ((1 : Nat) : Int) = T by omega] at HS
        clear he hT
        by_cases hj0 : j = 0
        · have hsw : swapB s X k j = false := by unfold swapB; simp [hj0]
          rw [if_neg (by rw [hsw]; exact Bool.false_ne_true)] at HS
          have HS := Lib.hid HS
          have q1 : decide ((0 : Int) < (j : Int)) = false := by simp; omega
          have q2 : decide (0 < j) = false := by simp; omega
          clear hsw hj0
          go_wp2_with fail
          go_quiet (fail)
          go_wp2_with fail
          go_region
          all_goals
            have HM : Hid ((if Q < if Y < T then Y else T then Q else if Y < T then Y else T) = min3 T Y Q) := rfl
            generalize (if Q < if Y < T then Y else T then Q else if Y < T then Y else T) = M at *
            go_wp2_with fail
            go_quiet (fail)
            clear kw kt
            go_wp2
            go_roundw
            case rel =>
              refine ⟨j + 1, by omega, by go_num, (by first | exact (heap_setCell_other _ _ _ _ (by first | (simp; done) | (simp; omega))).trans G0.out | exact (heap_setCell_other _ _ _ _ (by first | (simp; done) | (simp; omega))).trans ((heap_setCell_other _ _ _ _ (by first | (simp; done) | (simp; omega))).trans G0.out)), (by first | exact (heap_setCell_other _ _ _ _ (by first | (simp; done) | (simp; omega))).trans G1.out | exact (heap_setCell_other _ _ _ _ (by first | (simp; done) | (simp; omega))).trans ((heap_setCell_other _ _ _ _ (by first | (simp; done) | (simp; omega))).trans G1.out)), (by first | exact (heap_setCell_other _ _ _ _ (by first | (simp; done) | (simp; omega))).trans G2.out | exact (heap_setCell_other _ _ _ _ (by first | (simp; done) | (simp; omega))).trans ((heap_setCell_other _ _ _ _ (by first | (simp; done) | (simp; omega))).trans G2.out)), ?_, (by repeat (first | exact hb | refine below_drewN ?_ _ | refine Below.drew ?_ | refine Below.setCell ?_ (by show w.heap.size ≤ w.heap.size + 3; omega) _))⟩
              have e := HSET.out
              rw [HS.out, ← HM.out] at e
              rw [← e]
              exact heap_setCell_same _ _ _ _ _ _ G3.out
            case measure => simp [intOf]; omega
        · have q1 : decide ((0 : Int) < (j : Int)) = true := by simp; omega
          have q2 : decide (0 < j) = true := by simp; omega
          by_cases hk0 : k = 0
          · have hsw : swapB s X k j = false := by unfold swapB; simp [hk0]
            rw [if_neg (by rw [hsw]; exact Bool.false_ne_true)] at HS
            have HS := Lib.hid HS
            have q3 : decide ((0 : Int) < (k : Int)) = false := by simp; omega
            have q4 : decide (0 < k) = false := by simp; omega
            clear hsw hk0
            go_wp2_with fail
            go_quiet (fail)
            go_wp2_with fail
            go_region
            all_goals
              have HM : Hid ((if Q < if Y < T then Y else T then Q else if Y < T then Y else T) = min3 T Y Q) := rfl
              generalize (if Q < if Y < T then Y else T then Q else if Y < T then Y else T) = M at *
              go_wp2_with fail
              go_quiet (fail)
              clear kw kt
              go_wp2
              go_roundw
              case rel =>
                refine ⟨j + 1, by omega, by go_num, (by first | exact (heap_setCell_other _ _ _ _ (by first | (simp; done) | (simp; omega))).trans G0.out | exact (heap_setCell_other _ _ _ _ (by first | (simp; done) | (simp; omega))).trans ((heap_setCell_other _ _ _ _ (by first | (simp; done) | (simp; omega))).trans G0.out)), (by first | exact (heap_setCell_other _ _ _ _ (by first | (simp; done) | (simp; omega))).trans G1.out | exact (heap_setCell_other _ _ _ _ (by first | (simp; done) | (simp; omega))).trans ((heap_setCell_other _ _ _ _ (by first | (simp; done) | (simp; omega))).trans G1.out)), (by first | exact (heap_setCell_other _ _ _ _ (by first | (simp; done) | (simp; omega))).trans G2.out | exact (heap_setCell_other _ _ _ _ (by first | (simp; done) | (simp; omega))).trans ((heap_setCell_other _ _ _ _ (by first | (simp; done) | (simp; omega))).trans G2.out)), ?_, (by repeat (first | exact hb | refine below_drewN ?_ _ | refine Below.drew ?_ | refine Below.setCell ?_ (by show w.heap.size ≤ w.heap.size + 3; omega) _))⟩
                have e := HSET.out
                rw [HS.out, ← HM.out] at e
                rw [← e]
                exact heap_setCell_same _ _ _ _ _ _ G3.out
              case measure => simp [intOf]; omega
          · have q3 : decide ((0 : Int) < (k : Int)) = true := by simp; omega
            have q4 : decide (0 < k) = true := by simp; omega
            have co := HCO.out (by omega) (by omega)
            have jw : IntKind.i64.wrap ((j : Int) - 1) = ((j - 1 : Nat) : Int) := by rw [IntKind.wrap_i64]; omega
            have kkw : IntKind.i64.wrap ((k : Int) - 1) = ((k - 1 : Nat) : Int) := by rw [IntKind.wrap_i64]; omega
            have j1 : j - 1 < s.size := by omega
            have kk1 : k - 1 < X.size := by omega
            have j2 : ((j - 1 : Nat) : Int) < 201 := by omega
            have hsw : swapB s X k j = ((s[j] == X[k - 1]) && (s[j - 1] == X[k])) := by
              obtain ⟨jj, rfl⟩ : ∃ jj, j = jj + 1 := ⟨j - 1, by omega⟩
              obtain ⟨kk, rfl⟩ : ∃ kk, k = kk + 1 := ⟨k - 1, by omega⟩
              exact swapB_is s X kk jj hjt hkx
            have b1 := byte_eq_int s[j] X[k - 1]
            have b2 := byte_eq_int s[j - 1] X[k]
            cases hb1 : s[j] == X[k - 1]
            · rw [hb1] at b1
              rw [if_neg (by rw [hsw, hb1]; exact Bool.false_ne_true)] at HS
              have HS := Lib.hid HS
              clear hsw hb1 b2
              go_wp2_with fail
              go_quiet (fail)
              go_wp2_with fail
              go_region
              all_goals
                have HM : Hid ((if Q < if Y < T then Y else T then Q else if Y < T then Y else T) = min3 T Y Q) := rfl
                generalize (if Q < if Y < T then Y else T then Q else if Y < T then Y else T) = M at *
                go_wp2_with fail
                go_quiet (fail)
                clear kw kt
                go_wp2
                go_roundw
                case rel =>
                  refine ⟨j + 1, by omega, by go_num, (by first | exact (heap_setCell_other _ _ _ _ (by first | (simp; done) | (simp; omega))).trans G0.out | exact (heap_setCell_other _ _ _ _ (by first | (simp; done) | (simp; omega))).trans ((heap_setCell_other _ _ _ _ (by first | (simp; done) | (simp; omega))).trans G0.out)), (by first | exact (heap_setCell_other _ _ _ _ (by first | (simp; done) | (simp; omega))).trans G1.out | exact (heap_setCell_other _ _ _ _ (by first | (simp; done) | (simp; omega))).trans ((heap_setCell_other _ _ _ _ (by first | (simp; done) | (simp; omega))).trans G1.out)), (by first | exact (heap_setCell_other _ _ _ _ (by first | (simp; done) | (simp; omega))).trans G2.out | exact (heap_setCell_other _ _ _ _ (by first | (simp; done) | (simp; omega))).trans ((heap_setCell_other _ _ _ _ (by first | (simp; done) | (simp; omega))).trans G2.out)), ?_, (by repeat (first | exact hb | refine below_drewN ?_ _ | refine Below.drew ?_ | refine Below.setCell ?_ (by show w.heap.size ≤ w.heap.size + 3; omega) _))⟩
                  have e := HSET.out
                  rw [HS.out, ← HM.out] at e
                  rw [← e]
                  exact heap_setCell_same _ _ _ _ _ _ G3.out
                case measure => simp [intOf]; omega
            · rw [hb1] at b1
              cases hb2 : s[j - 1] == X[k]
              · rw [hb2] at b2
                rw [if_neg (by rw [hsw, hb1, hb2]; exact Bool.false_ne_true)] at HS
                have HS := Lib.hid HS
                clear hsw hb1 hb2
                go_wp2_with fail
                go_quiet (fail)
                go_wp2_with fail
                go_region
                all_goals
                  have HM : Hid ((if Q < if Y < T then Y else T then Q else if Y < T then Y else T) = min3 T Y Q) := rfl
                  generalize (if Q < if Y < T then Y else T then Q else if Y < T then Y else T) = M at *
                  go_wp2_with fail
                  go_quiet (fail)
                  clear kw kt
                  go_wp2
                  go_roundw
                  case rel =>
                    refine ⟨j + 1, by omega, by go_num, (by first | exact (heap_setCell_other _ _ _ _ (by first | (simp; done) | (simp; omega))).trans G0.out | exact (heap_setCell_other _ _ _ _ (by first | (simp; done) | (simp; omega))).trans ((heap_setCell_other _ _ _ _ (by first | (simp; done) | (simp; omega))).trans G0.out)), (by first | exact (heap_setCell_other _ _ _ _ (by first | (simp; done) | (simp; omega))).trans G1.out | exact (heap_setCell_other _ _ _ _ (by first | (simp; done) | (simp; omega))).trans ((heap_setCell_other _ _ _ _ (by first | (simp; done) | (simp; omega))).trans G1.out)), (by first | exact (heap_setCell_other _ _ _ _ (by first | (simp; done) | (simp; omega))).trans G2.out | exact (heap_setCell_other _ _ _ _ (by first | (simp; done) | (simp; omega))).trans ((heap_setCell_other _ _ _ _ (by first | (simp; done) | (simp; omega))).trans G2.out)), ?_, (by repeat (first | exact hb | refine below_drewN ?_ _ | refine Below.drew ?_ | refine Below.setCell ?_ (by show w.heap.size ≤ w.heap.size + 3; omega) _))⟩
                    have e := HSET.out
                    rw [HS.out, ← HM.out] at e
                    rw [← e]
                    exact heap_setCell_same _ _ _ _ _ _ G3.out
                  case measure => simp [intOf]; omega
              · rw [hb2] at b2
                rw [if_pos (by rw [hsw, hb1, hb2]; rfl)] at HS
                have HS := Lib.hid HS
                clear hsw hb1 hb2
                go_wp2_with fail
                go_quiet (fail)
                go_wp2_with fail
                go_region
                all_goals
                  have HM : Hid ((if Q < if Y < T then Y else T then Q else if Y < T then Y else T) = min3 T Y Q) := rfl
                  generalize (if Q < if Y < T then Y else T then Q else if Y < T then Y else T) = M at *
                  go_wp2_with fail
                  go_quiet (fail)
                  go_wp2_with fail
                  go_region
                  all_goals
                    clear kw kt
                    go_wp2
                    go_roundw
                    case rel =>
                      refine ⟨j + 1, by omega, by go_num, (by first | exact (heap_setCell_other _ _ _ _ (by first | (simp; done) | (simp; omega))).trans G0.out | exact (heap_setCell_other _ _ _ _ (by first | (simp; done) | (simp; omega))).trans ((heap_setCell_other _ _ _ _ (by first | (simp; done) | (simp; omega))).trans G0.out)), (by first | exact (heap_setCell_other _ _ _ _ (by first | (simp; done) | (simp; omega))).trans G1.out | exact (heap_setCell_other _ _ _ _ (by first | (simp; done) | (simp; omega))).trans ((heap_setCell_other _ _ _ _ (by first | (simp; done) | (simp; omega))).trans G1.out)), (by first | exact (heap_setCell_other _ _ _ _ (by first | (simp; done) | (simp; omega))).trans G2.out | exact (heap_setCell_other _ _ _ _ (by first | (simp; done) | (simp; omega))).trans ((heap_setCell_other _ _ _ _ (by first | (simp; done) | (simp; omega))).trans G2.out)), ?_, (by repeat (first | exact hb | refine below_drewN ?_ _ | refine Below.drew ?_ | refine Below.setCell ?_ (by show w.heap.size ≤ w.heap.size + 3; omega) _))⟩
                      have e := HSET2.out (.int .i64 M)
                      rw [HS.out, ← HM.out] at e
                      rw [← e]
                      exact heap_setCell_same _ _ _ _ _ _ (heap_setCell_same _ _ _ _ _ _ G3.out)
                    case measure => simp [intOf]; omega
    · obtain rfl : j = s.size := by omega
      clear hz
      go_wp2_with (first
        | (refine wpList_load_row rfl 76 _ rfl (w.heap.size + 3) rfl 76 (rowN G (s.size + 1)) (0, 0) _ g3 Try.underlying76 rfl (row_infoN _ _) ?_)
        | (refine wpList_store_row rfl 76 _ _ rfl (w.heap.size + 2) (rowN G (s.size + 1)) rfl rfl 76 zeros201 g2 (row_infoN _ _) (by rw [rowN_size]; rfl) (rowN_one _ _) ?_))
      refine bodyPost_ret (results_cell_row rfl _ _ (w.heap.size + 2) 76 (rowN G (s.size + 1)) (0, 0) _ rfl (setRow_heap _ _ _ _ _ _ g2) Try.underlying76 rfl (row_infoN _ _)) rfl ⟨rfl, below_setRow hb (by omega) _⟩
end Go.Proofs.Ytgikjopmijomgab

/-
  Chapter 19's model: where the words of a text stand.
-/
import Derived.Test.YtgikjopmijomgabL19W
import Derived.Test.YtgikjopmijomgabL1Alike
namespace Go.Proofs.Ytgikjopmijomgab
open Go.RowKit
set_option linter.unusedVariables false
set_option maxRecDepth 100000
theorem spec_l19Letter (b : Int) (w : World) (h0 : 0 ≤ b) (h1 : b ≤ 255) :
    Calls Try.prog 51 #[.int .u8 b] w fun e w' => e = .returned (.bool (letB b)) ∧ w = w' := by
  by_cases a1 : 65 ≤ b <;> by_cases a2 : b ≤ 90 <;> by_cases a3 : 97 ≤ b <;> by_cases a4 : b ≤ 122 <;> by_cases a5 : 48 ≤ b <;> by_cases a6 : b ≤ 57 <;> first
    | (exfalso; omega)
    | (have H : Hid (letB b = true) := decide_eq_true (by omega)
       go_enter Try.func51, Try.ntmps51
       go_wp2
       go_ret
       exact ⟨by rw [H.out]; rfl, rfl⟩)
    | (have H : Hid (letB b = false) := decide_eq_false (by omega)
       go_enter Try.func51, Try.ntmps51
       go_wp2
       go_ret
       exact ⟨by rw [H.out]; rfl, rfl⟩)
theorem spL_set_last (L : List (Nat × Nat)) (x y z : Nat) : (spL (L ++ [(x, y)])).set (L.length * 2 + 1) (z : Int) = spL (L ++ [(x, z)]) := by
  rw [spL_append, spL_append, List.set_append_right _ _ (by rw [spL_length]; omega), spL_length, Nat.add_sub_cancel_left]; rfl
set_option maxHeartbeats 4000000 in
theorem spec_l19Words (r : ByteArray) (w : World) (hr : r.size ≤ 200) :
    Calls Try.prog 34 #[.string r] w fun e w' => ∃ a cap, e = .returned (.slice a (wordsL r).length cap) ∧ OwnM 30 2 w' w.heap.size a (wordsL r).length cap (spL (wordsL r)) ∧ Below w.heap.size w w' := by
  obtain ⟨i0, hi, ht0, ht1, ht2⟩ := info_parts span_info
  go_enter Try.func34, Try.ntmps34
  go_wp2
  go_loopw [3, 4] (fun o i wr => ∃ (k n cap : Nat) (a : Option Addr), k ≤ r.size ∧ i = .int .i64 k ∧ o = .slice a n cap ∧ (wTo r k).length = n ∧ OwnM 30 2 wr w.heap.size a n cap (spL (wTo r k)) ∧ Below w.heap.size w wr)
    (fun _ i _ => r.size - (intOf i).toNat)
  case atStart =>
    exact ⟨0, 0, 0, some ⟨w.heap.size, 0, none⟩, by omega, rfl, rfl, by simp [wTo, wDone, wFrom], ⟨by simp [wTo, wDone, wFrom, spL], World.ownsRow_made w #[] 0 (Nat.le_refl _) (by decide) rfl⟩, (Below.refl _ _).alloc (Nat.le_refl _) _⟩
  case round =>
    obtain ⟨k, n, cap, a, hk, rfl, rfl, hn, hO, hb⟩ := hrel
    by_cases hlt : k < r.size
    · have hLB := letAt_in r k hlt
      have hca := r[k].toNat_lt
      have hnl := wTo_len r k
      rw [hn] at hnl
      have hn2 : n ≤ 101 := by omega
      have hlast := wTo_lt r k
      by_cases hlet : letAt r k = true
      · rw [hlet] at hLB
        have HLB := Lib.hid hLB.symm
        have kw : IntKind.i64.wrap ((k : Int) + 1) = (k : Int) + 1 := by rw [IntKind.wrap_i64]; omega
        clear hLB hnl
        have APP : (∀ x ∈ (wTo r k).getLast?, x.2 ≠ k) → Hid (spL (wTo r (k + 1)) = spL (wTo r k) ++ [(k : Int), (k : Int) + 1]) ∧ (wTo r (k + 1)).length = n + 1 := fun h => by
          have e := wTo_new hlet h
          refine ⟨?_, by rw [e, List.length_append, hn]; rfl⟩
          show _ = _
          rw [e, spL_append]
          simp [spL]
        by_cases hn0 : n = 0
        · subst hn0
          have hnil : wTo r k = [] := List.eq_nil_of_length_eq_zero hn
          obtain ⟨HA, HL⟩ := APP (by rw [hnil]; intro x hx; cases hx)
          have HLL := Lib.hid HL
          have HO := Lib.hid hO
          have HLEN := Lib.hid (show (spL (wTo r (k + 1))).length = (0 + 1) * 2 by rw [spL_length, HL])
          clear APP hlet hlast hn hnil HL hO
          go_wp2_with (first
            | (go_at_call 51; refine (spec_l19Letter _ _ (by omega) (by omega)).mono ?_; rintro e w1 ⟨rfl, rfl⟩; rw [HLB.out])
            | (at_builtin; refine wpList_append_own _ rfl _ _ 25 rfl w.heap.size 30 i0 (.agg #[.int .i64 0, .int .i64 0]) 2 16 Try.underlying25 hi ht0 ht1 ht2 rfl (by decide) _ _ _ rfl (HO.out.kept ((Below.refl wr.heap.size wr).alloc (Nat.le_refl _) (.cells #[.int .i64 (k : Int), .int .i64 ((k : Int) + 1)] 30))).2 ⟨wr.heap.size, 0, none⟩ 1 1 [.int .i64 (k : Int), .int .i64 ((k : Int) + 1)] rfl rfl (fun j u h => cells_new wr _ _ j u h) (by simp [Value.oneCell']) (by unfold maxLen; omega) (by omega) (by have := hb.size; simp; omega) ?_; intro v' w3 hown' hg _; obtain ⟨a', cap', rfl, hO'⟩ := OwnM.shape HLEN.out (by rw [HA.out, List.map_append]; exact hown')))
          have hB3 := (hb.alloc hb.size (.cells #[.int .i64 (k : Int), .int .i64 ((k : Int) + 1)] 30)).grown hg (by have := hb.size; simp; omega) (fun j hj => (HO.out.2.lt j hj).1)
          clear hown' hg
          go_roundw
          case rel => exact ⟨k + 1, 0 + 1, cap', a', by omega, by go_num, rfl, HLL.out, hO', hB3⟩
          case measure => simp [intOf]; omega
        · obtain ⟨m, rfl⟩ : ∃ m, n = m + 1 := ⟨n - 1, by omega⟩
          obtain ⟨L, x, hLx⟩ : ∃ L x, wTo r k = L ++ [x] := by
            rcases List.eq_nil_or_concat (wTo r k) with h | ⟨L, x, h⟩
            · rw [h] at hn; cases hn
            · exact ⟨L, x, by rw [h, List.concat_eq_append]⟩
          have hLm : L.length = m := by rw [hLx, List.length_append] at hn; simpa using hn
          obtain ⟨g, rfl, hg1, hg2⟩ := hO.head m (by omega)
          have hc := hO.cell (m * 2 + 1) (by omega)
          have hv : intAt (spL (wTo r k)) (m * 2 + 1) = (x.2 : Int) := by
            rw [(spL_at (wTo r k) m (by rw [hn]; omega)).2, hLx, ← hLm, List.getD_eq_getElem?_getD]; simp
          rw [hv] at hc
          have hf := hO.frozen (m * 2 + 1)
          have mw : IntKind.i64.wrap (m : Int) = (m : Int) := by rw [IntKind.wrap_i64]; omega
          have mw2 : IntKind.i64.wrap ((m : Int) + 1 - 1) = (m : Int) := by rw [IntKind.wrap_i64]; omega
          have m0 : (0 : Int) ≤ (m : Int) := by omega
          have m1 : (m : Int) < (m : Int) + 1 := by omega
          have hxk := (hlast x (by rw [hLx]; simp)).2
          by_cases hxe : x.2 = k
          · have hmore := wTo_more hlet hLx hxe
            have hO2 := hO.set (m * 2 + 1) ((k : Int) + 1)
            have hset : (spL (wTo r k)).set (m * 2 + 1) ((k : Int) + 1) = spL (wTo r (k + 1)) := by
              rw [hLx, hmore, ← hLm]
              have := spL_set_last L x.1 x.2 (k + 1)
              rw [Int.natCast_add] at this
              exact this
            rw [hset] at hO2
            have HO2 := Lib.hid hO2
            have HL := Lib.hid (show (wTo r (k + 1)).length = m + 1 by rw [hmore, List.length_append, hLm]; rfl)
            rw [hxe] at hc
            have heq : ((k : Int) == (k : Int)) = true := by simp
            clear APP hlet hlast hn hLx hLm hmore hset hO hO2 hv hxk hxe
            go_wp2_with (go_at_call 51; refine (spec_l19Letter _ _ (by omega) (by omega)).mono ?_; rintro e w1 ⟨rfl, rfl⟩; rw [HLB.out])
            go_roundw
            case rel => exact ⟨k + 1, m + 1, cap, some ⟨g, 0, none⟩, by omega, by go_num, rfl, HL.out, HO2.out, hb.setCell (p := ⟨g, m * 2 + 1, none⟩) hg1 _⟩
            case measure => simp [intOf]; omega
          · obtain ⟨HA, HL⟩ := APP (by rw [hLx]; intro y hy; simp at hy; rw [← hy]; exact hxe)
            have HLL := Lib.hid HL
            have HO := Lib.hid hO
            have HLEN := Lib.hid (show (spL (wTo r (k + 1))).length = (m + 1 + 1) * 2 by rw [spL_length, HL])
            have heq : (((x.2 : Nat) : Int) == (k : Int)) = false := by simp only [beq_eq_false_iff_ne, ne_eq]; omega
            clear APP hlet hlast hn hLx hLm HL hO hv hxk hxe
            generalize x.2 = x2 at *
            go_wp2_with (first
              | (go_at_call 51; refine (spec_l19Letter _ _ (by omega) (by omega)).mono ?_; rintro e w1 ⟨rfl, rfl⟩; rw [HLB.out])
              | (at_builtin; refine wpList_append_own _ rfl _ _ 25 rfl w.heap.size 30 i0 (.agg #[.int .i64 0, .int .i64 0]) 2 16 Try.underlying25 hi ht0 ht1 ht2 rfl (by decide) _ _ _ rfl (HO.out.kept ((Below.refl wr.heap.size wr).alloc (Nat.le_refl _) (.cells #[.int .i64 (k : Int), .int .i64 ((k : Int) + 1)] 30))).2 ⟨wr.heap.size, 0, none⟩ 1 1 [.int .i64 (k : Int), .int .i64 ((k : Int) + 1)] rfl rfl (fun j u h => cells_new wr _ _ j u h) (by simp [Value.oneCell']) (by unfold maxLen; omega) (by omega) (by have := hb.size; simp; omega) ?_; intro v' w3 hown' hg _; obtain ⟨a', cap', rfl, hO'⟩ := OwnM.shape HLEN.out (by rw [HA.out, List.map_append]; exact hown')))
            have hB3 := (hb.alloc hb.size (.cells #[.int .i64 (k : Int), .int .i64 ((k : Int) + 1)] 30)).grown hg (by have := hb.size; simp; omega) (fun j hj => (HO.out.2.lt j hj).1)
            clear hown' hg
            go_roundw
            case rel => exact ⟨k + 1, m + 1 + 1, cap', a', by omega, by go_num, rfl, HLL.out, hO', hB3⟩
            case measure => simp [intOf]; omega
      · have hlet : letAt r k = false := by simpa using hlet
        rw [hlet] at hLB
        have HLB := Lib.hid hLB.symm
        have hsame := wTo_not hlet
        have nw : IntKind.i64.wrap ((n : Int) - 1) = (n : Int) - 1 := by rw [IntKind.wrap_i64]; omega
        have HN := Lib.hid hn
        have HO := Lib.hid hO
        have HS := Lib.hid hsame
        clear hLB hlet hsame hlast hn hO hnl
        go_wp2_with (go_at_call 51; refine (spec_l19Letter _ _ (by omega) (by omega)).mono ?_; rintro e w1 ⟨rfl, rfl⟩; rw [HLB.out])
        go_roundw
        case rel => exact ⟨k + 1, n, cap, a, by omega, by go_num, rfl, by rw [HS.out]; exact HN.out, by rw [HS.out]; exact HO.out, hb⟩
        case measure => simp [intOf]; omega
    · obtain rfl : k = r.size := by omega
      have hw : wTo r r.size = wordsL r := rfl
      rw [hw] at hn hO
      subst hn
      go_wp2_with fail
      go_ret
      exact ⟨a, cap, rfl, hO, hb⟩
theorem spec_wordsOf (r : ByteArray) (w : World) (hr : r.size ≤ 1048576) :
    Calls Try.prog 13 #[.string r] w fun e w' => ∃ a cap, e = .returned (.slice a (wordsV r).length cap) ∧ OwnM 30 2 w' w.heap.size a (wordsV r).length cap (spL (wordsV r)) ∧ Below w.heap.size w w' := by
  by_cases h1 : r.size ≤ 200
  · have hd : decide (200 < (r.size : Int)) = false := by simp; omega
    rw [show wordsV r = wordsL r from if_pos h1]
    go_enter Try.func13, Try.ntmps13
    go_wp2_with fail
    refine (spec_l19Words r _ h1).mono ?_
    rintro e w2 ⟨a, cap, rfl, hO, hb2⟩
    go_wp2_with fail
    go_ret
    exact ⟨a, cap, rfl, hO, hb2⟩
  · have hd : decide (200 < (r.size : Int)) = true := by simp; omega
    rw [show wordsV r = [] from if_neg h1]
    go_enter Try.func13, Try.ntmps13
    go_wp2
    go_ret
    exact ⟨some ⟨w.heap.size, 0, none⟩, 0, rfl, ⟨rfl, World.ownsRow_made w #[] 0 (Nat.le_refl _) (by decide) rfl⟩, (Below.refl _ _).alloc (Nat.le_refl _) _⟩
end Go.Proofs.Ytgikjopmijomgab

/-
  The laws' own helpers on slices of nodes of a tree of words: equal, marked, held.
-/
import Derived.Test.YtgikjopmijomgaaBkP
import Derived.Test.YtgikjopmijomgaaMark
import Derived.Test.YtgikjopmijomgaaMNear
import Derived.Deep.RegionLaw
namespace Go.Proofs.Ytgikjopmijomgaa
open Go.RowKit
set_option linter.unusedVariables false
set_option maxRecDepth 100000
theorem bks_set0 (A C : List BkN) (b : BkN) (x : ByteArray) : (bks (A ++ b :: C)).set (A.length * 3) (.string x) = bks (A ++ ⟨x, b.d, b.u⟩ :: C) := by
  rw [bks_append, bks_append, List.set_append_right _ _ (by rw [bks_length]; omega), bks_length, Nat.sub_self]; rfl
theorem bks_set1 (A C : List BkN) (b : BkN) (x : Int) : (bks (A ++ b :: C)).set (A.length * 3 + 1) (.int .i64 x) = bks (A ++ ⟨b.t, x, b.u⟩ :: C) := by
  rw [bks_append, bks_append, List.set_append_right _ _ (by rw [bks_length]; omega), bks_length, Nat.add_sub_cancel_left]; rfl
theorem bks_set2 (A C : List BkN) (b : BkN) (x : Int) : (bks (A ++ b :: C)).set (A.length * 3 + 2) (.int .i64 x) = bks (A ++ ⟨b.t, b.d, x⟩ :: C) := by
  rw [bks_append, bks_append, List.set_append_right _ _ (by rw [bks_length]; omega), bks_length, Nat.add_sub_cancel_left]; rfl
/-- a node marked from k on -/
def bkMk (k : Int) (i : Nat) : BkN := ⟨markS (k + (i : Int) * 3), k + (i : Int) * 3 + 1, k + (i : Int) * 3 + 1 + 1⟩
def bkM (k : Int) : Nat → List BkN
  | 0 => []
  | n + 1 => bkM k n ++ [bkMk k n]
theorem bkM_length (k : Int) (n : Nat) : (bkM k n).length = n := by
  induction n with
  | zero => rfl
  | succ n ih => rw [bkM, List.length_append, ih]; rfl
theorem bkM_at (k : Int) (n i : Nat) (h : i < n) : bkAt (bkM k n) i = bkMk k i := by
  induction n with
  | zero => omega
  | succ n ih =>
    unfold bkAt at *
    rw [bkM, List.getD_eq_getElem?_getD]
    by_cases e : i = n
    · subst e
      rw [List.getElem?_append_right (by rw [bkM_length]; omega), bkM_length, Nat.sub_self]; rfl
    · rw [List.getElem?_append_left (by rw [bkM_length]; omega), ← List.getD_eq_getElem?_getD]
      exact ih (by omega)
theorem bkM_step (k : Int) (T : List BkN) (j : Nat) (h : j < T.length) : ∃ b C, bkM k j ++ T.drop j = bkM k j ++ b :: C ∧ bkM k (j + 1) ++ T.drop (j + 1) = bkM k j ++ bkMk k j :: C := by
  refine ⟨T[j], T.drop (j + 1), by rw [List.drop_eq_getElem_cons h], ?_⟩
  rw [bkM, List.append_assoc]; rfl
theorem laws_eqBk (x : ByteArray) (y z : Int) (w : World) :
    Calls Try.prog 60 #[.agg #[.string x, .int .i64 y, .int .i64 z], .agg #[.string x, .int .i64 y, .int .i64 z]] w fun e w' => e = .returned (.bool true) ∧ Below w.heap.size w w' := by
  have e1 : (y != y) = false := by simp
  have e2 : (z != z) = false := by simp
  go_enter Try.func60, Try.ntmps60
  go_wp2
  go_ret
  exact ⟨rfl, (by repeat (first | exact Below.refl _ _ | assumption | (refine Below.drew ?_) | (refine below_drewN ?_ _) | (refine Below.alloc ?_ (by first | omega | (simp; done) | (simp; omega)) _) | (refine Below.setCell ?_ (by first | omega | (simp; done) | (simp; omega)) _)))⟩
set_option maxHeartbeats 1000000 in
theorem laws_eqBkS (T : List BkN) (a1 a2 : Option Addr) (n cap1 cap2 : Nat) (w : World) (hn : T.length = n) (h1 : Vals w a1 (bks T)) (h2 : Vals w a2 (bks T)) (hlen : n ≤ 1048577) :
    Calls Try.prog 25 #[.slice a1 n cap1, .slice a2 n cap2] w fun e w' => e = .returned (.bool true) ∧ Below w.heap.size w w' := by
  have e0 : ((n : Int) != (n : Int)) = false := by simp
  have hl := bks_length T
  rw [hn] at hl
  have HL := Lib.hid hl
  have HN := Lib.hid hn
  clear hl hn
  go_enter Try.func25, Try.ntmps25
  go_wp2
  go_loopw [5] (fun i wr => ∃ k : Nat, k ≤ n ∧ i = .int .i64 k ∧ Below w.heap.size w wr)
    (fun i _ => n - (intOf i).toNat)
  case atStart => exact ⟨0, by omega, rfl, Below.refl _ _⟩
  case round =>
    obtain ⟨k, hk, rfl, hb⟩ := hrel
    by_cases hlt : k < n
    · obtain ⟨b1, off1, rfl, hp1⟩ := (h1.kept hb).at (k * 3) (by rw [HL.out]; omega)
      obtain ⟨b2, off2, rfl, hp2⟩ := (h2.kept hb).at (k * 3) (by rw [HL.out]; omega)
      have c0 := hp1 (k * 3) (by rw [HL.out]; omega)
      have d0 := hp2 (k * 3) (by rw [HL.out]; omega)
      have c1 := hp1 (k * 3 + 1) (by rw [HL.out]; omega)
      have d1 := hp2 (k * 3 + 1) (by rw [HL.out]; omega)
      have c2 := hp1 (k * 3 + 2) (by rw [HL.out]; omega)
      have d2 := hp2 (k * 3 + 2) (by rw [HL.out]; omega)
      rw [← Nat.add_assoc] at c1 d1 c2 d2
      obtain ⟨q1, q2, q3⟩ := bks_at T k (by rw [HN.out]; exact hlt)
      rw [q1] at c0 d0
      rw [q2] at c1 d1
      rw [q3] at c2 d2
      generalize (bkAt T k).t = x at c0 d0
      generalize (bkAt T k).d = y at c1 d1
      generalize (bkAt T k).u = z at c2 d2
      have hlb := block_lt_of_cell c0
      have hlb2 := block_lt_of_cell d0
      clear h1 h2 hp1 hp2 q1 q2 q3
      go_wp2_with fail
      go_region_law ((go_simp; (go_at_call 60; refine (laws_eqBk x y z _).mono ?_; rintro e w2 ⟨rfl, hb2⟩)))
      all_goals
        have hB := hb.trans ((below_undrew hb2).mono hb.size)
        go_wp2
        go_roundw
        case rel => exact ⟨k + 1, by omega, by go_num, hB⟩
        case measure => simp [intOf]; omega
    · obtain rfl : k = n := by omega
      go_wp2
      go_ret
      exact ⟨rfl, hb⟩
set_option maxHeartbeats 1000000 in
theorem laws_markBkS (T : List BkN) (a : Option Addr) (n cap B : Nat) (k : Int) (w : World) (hn : T.length = n) (h : OwnV 75 3 w B a n cap (bks T)) (hlen : n ≤ 1048577) (hk0 : 0 ≤ k) (hk1 : k ≤ 1073741824) :
    Calls Try.prog 26 #[.slice a n cap, .int .i64 k] w fun e w' => e = .returned (.int .i64 (k + n * 3)) ∧ OwnV 75 3 w' B a n cap (bks (bkM k n)) ∧ w.grownBy w' (Value.slice a n cap).ownBlock := by
  have HN := Lib.hid hn; clear hn
  go_enter Try.func26, Try.ntmps26
  go_wp2
  go_loopw [1, 5] (fun m i wr => ∃ (j : Nat), j ≤ n ∧ i = .int .i64 j ∧ m = .int .i64 (k + j * 3) ∧ OwnV 75 3 wr B a n cap (bks (bkM k j ++ T.drop j)) ∧ w.grownBy wr (Value.slice a n cap).ownBlock)
    (fun _ i _ => n - (intOf i).toNat)
  case atStart => exact ⟨0, by omega, rfl, by go_num, h, World.grownBy.refl _ _⟩
  case round =>
    obtain ⟨j, hj, rfl, rfl, hown, hb⟩ := hrel
    by_cases hlt : j < n
    · obtain ⟨b, C, hC1, hC2⟩ := bkM_step k T j (by rw [HN.out]; exact hlt)
      rw [hC1] at hown
      obtain ⟨g, rfl, hg1, hg2⟩ := hown.head j hlt
      have HLM := Lib.hid (bkM_length k j)
      have HC2 := Lib.hid hC2
      generalize bkM k j = A at *
      have HO := Lib.hid hown
      have HB := Lib.hid hb
      clear hown hb hC1 hC2
      go_wp2_with fail
      refine (laws_markText _ _ (by omega)).mono ?_
      rintro e w2 ⟨rfl, hb2⟩
      have hO2 := HO.out.kept hb2
      have hG2 := grown_trans HB.out (grown_of_below hb2 _)
      have hd0 := hO2.cell (j * 3) (by omega)
      have hd1 := hO2.cell (j * 3 + 1) (by omega)
      have hd2 := hO2.cell (j * 3 + 2) (by omega)
      have hf0 := hO2.frozen (j * 3)
      have hf1 := hO2.frozen (j * 3 + 1)
      have hf2 := hO2.frozen (j * 3 + 2)
      have hO3 := hO2.set (j * 3) (.string (markS (k + (j : Int) * 3)))
      have hO4 := hO3.set (j * 3 + 1) (.int .i64 (k + (j : Int) * 3 + 1))
      have hO5 := hO4.set (j * 3 + 2) (.int .i64 (k + (j : Int) * 3 + 1 + 1))
      have hG3 := Lib.hid (grown_trans (grown_trans (grown_trans hG2 (hO2.set_grown (j * 3) (.string (markS (k + (j : Int) * 3))))) (hO3.set_grown (j * 3 + 1) (.int .i64 (k + (j : Int) * 3 + 1)))) (hO4.set_grown (j * 3 + 2) (.int .i64 (k + (j : Int) * 3 + 1 + 1))))
      have hfin : (((bks (A ++ b :: C)).set (j * 3) (.string (markS (k + (j : Int) * 3)))).set (j * 3 + 1) (.int .i64 (k + (j : Int) * 3 + 1))).set (j * 3 + 2) (.int .i64 (k + (j : Int) * 3 + 1 + 1)) = bks (bkM k (j + 1) ++ T.drop (j + 1)) := by
        rw [HC2.out]
        obtain rfl : j = A.length := HLM.out.symm
        rw [bks_set0, bks_set1, bks_set2]; rfl
      rw [hfin] at hO5
      have HO5 := Lib.hid hO5
      clear hO2 hO3 hO4 hO5 hG2 hb2 hfin
      go_wp2
      go_roundw
      case rel => exact ⟨j + 1, by omega, by go_num, by go_num, HO5.out, hG3.out⟩
      case measure => simp [intOf]; omega
    · obtain rfl : j = n := by omega
      have he : bkM k j ++ T.drop j = bkM k j := by rw [List.drop_of_length_le (by rw [HN.out]; exact Nat.le_refl _), List.append_nil]
      rw [he] at hown
      go_wp2
      go_ret
      exact ⟨rfl, hown, hb⟩
end Go.Proofs.Ytgikjopmijomgaa

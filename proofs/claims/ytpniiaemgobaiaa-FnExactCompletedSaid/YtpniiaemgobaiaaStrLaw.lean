/-
  The law's own helpers on slices of texts: equal, marked, held.
-/
import Derived.Test.YtpniiaemgobaiaaStrs
import Derived.Test.YtpniiaemgobaiaaMark
import Derived.Deep.RegionLaw
namespace Go.Proofs.Ytpniiaemgobaiaa
open Go.RowKit
set_option linter.unusedVariables false
set_option maxRecDepth 100000
/-- the texts t 0 .. t (n - 1) -/
def strL (t : Nat → ByteArray) (n : Nat) : List Value := (List.range n).map fun i => Value.string (t i)
theorem strL_length (t : Nat → ByteArray) (n : Nat) : (strL t n).length = n := by simp [strL]
theorem strL_at (t : Nat → ByteArray) (n i : Nat) (h : i < n) : valAt (strL t n) i = .string (t i) := by simp [valAt, strL, List.getD_eq_getElem?_getD, h]
theorem strL_congr {t u : Nat → ByteArray} {n : Nat} (h : ∀ i, i < n → t i = u i) : strL t n = strL u n := by
  unfold strL
  exact List.map_congr_left fun i hi => by rw [h i (List.mem_range.1 hi)]
theorem strL_set (t : Nat → ByteArray) (n j : Nat) (s : ByteArray) (h : j < n) : (strL t n).set j (.string s) = strL (fun i => if i = j then s else t i) n := by
  apply List.ext_getElem
  · simp [strL]
  · intro i h1 h2
    simp only [strL, List.length_set, List.length_map, List.length_range] at h1
    by_cases e : j = i
    · subst e; simp [strL]
    · have e2 : ¬ i = j := fun h => e h.symm
      simp [strL, e, e2]
theorem strs_strL (L : List (List UInt8)) : strs L = strL (fun i => txt (L.getD i [])) L.length := by
  apply List.ext_getElem
  · simp [strs, strL]
  · intro i h1 h2
    simp only [strs, List.length_map] at h1
    simp [strs, strL, strV, List.getD_eq_getElem?_getD, h1]
def mkTx (k : Int) (t : Nat → ByteArray) (j i : Nat) : ByteArray := if i < j then markS (k + (i : Int)) else t i
theorem mkTx_set (k : Int) (t : Nat → ByteArray) (n j : Nat) (h : j < n) : (strL (mkTx k t j) n).set j (.string (markS (k + (j : Int)))) = strL (mkTx k t (j + 1)) n := by
  rw [strL_set _ _ _ _ h]
  refine strL_congr fun i _ => ?_
  unfold mkTx
  by_cases e : i = j
  · subst e; simp
  · by_cases e2 : i < j
    · rw [if_neg e, if_pos e2, if_pos (by omega)]
    · rw [if_neg e, if_neg e2, if_neg (by omega)]
set_option maxHeartbeats 1000000 in
theorem laws_eqStringS (t : Nat → ByteArray) (a1 a2 : Option Addr) (n cap1 cap2 : Nat) (w : World) (h1 : Vals w a1 (strL t n)) (h2 : Vals w a2 (strL t n)) (hlen : n ≤ 1048577) :
    Calls Try.prog 24 #[.slice a1 n cap1, .slice a2 n cap2] w fun e w' => e = .returned (.bool true) ∧ Below w.heap.size w w' := by
  have e0 : ((n : Int) != (n : Int)) = false := by simp
  have hn := strL_length t n
  have HN := Lib.hid hn; clear hn
  go_enter Try.func24, Try.ntmps24
  go_wp2
  go_loopw [5] (fun i wr => ∃ k : Nat, k ≤ n ∧ i = .int .i64 k ∧ Below w.heap.size w wr)
    (fun i _ => n - (intOf i).toNat)
  case atStart => exact ⟨0, by omega, rfl, Below.refl _ _⟩
  case round =>
    obtain ⟨k, hk, rfl, hb⟩ := hrel
    by_cases hlt : k < n
    · obtain ⟨b1, off1, rfl, hp1⟩ := (h1.kept hb).at k (by rw [HN.out]; omega)
      obtain ⟨b2, off2, rfl, hp2⟩ := (h2.kept hb).at k (by rw [HN.out]; omega)
      have c1 := hp1 k (by rw [HN.out]; omega)
      have c2 := hp2 k (by rw [HN.out]; omega)
      rw [strL_at t n k hlt] at c1 c2
      generalize t k = y at c1 c2
      have ey : (y.toList == y.toList) = true := by simp
      clear h1 h2 hp1 hp2
      go_wp2_with fail
      go_quiet (fail)
      go_wp2
      go_roundw
      case rel => exact ⟨k + 1, by omega, by go_num, below_drewN hb _⟩
      case measure => simp [intOf]; omega
    · obtain rfl : k = n := by omega
      go_wp2
      go_ret
      exact ⟨rfl, hb⟩
set_option maxHeartbeats 1000000 in
theorem laws_markStringS (t : Nat → ByteArray) (a : Option Addr) (n cap B : Nat) (k : Int) (w : World) (h : OwnV 9 1 w B a n cap (strL t n)) (hlen : n ≤ 1048577) (hk0 : 0 ≤ k) (hk1 : k ≤ 1073741824) :
    Calls Try.prog 25 #[.slice a n cap, .int .i64 k] w fun e w' => e = .returned (.int .i64 (k + n)) ∧ OwnV 9 1 w' B a n cap (strL (mkTx k t n) n) ∧ w.grownBy w' (Value.slice a n cap).ownBlock := by
  have h0 : strL (mkTx k t 0) n = strL t n := strL_congr fun i _ => if_neg (Nat.not_lt_zero i)
  rw [← h0] at h
  have H := Lib.hid h
  clear h h0
  go_enter Try.func25, Try.ntmps25
  go_wp2
  go_loopw [1, 5] (fun m i wr => ∃ (j : Nat), j ≤ n ∧ i = .int .i64 j ∧ m = .int .i64 (k + j) ∧ OwnV 9 1 wr B a n cap (strL (mkTx k t j) n) ∧ w.grownBy wr (Value.slice a n cap).ownBlock)
    (fun _ i _ => n - (intOf i).toNat)
  case atStart => exact ⟨0, by omega, rfl, by go_num, H.out, World.grownBy.refl _ _⟩
  case round =>
    obtain ⟨j, hj, rfl, rfl, hown, hb⟩ := hrel
    by_cases hlt : j < n
    · obtain ⟨g, rfl, hg1, hg2⟩ := hown.head j hlt
      have HO := Lib.hid hown; have HB := Lib.hid hb
      clear hown hb
      go_wp2_with fail
      refine (laws_markText _ _ (by omega)).mono ?_
      rintro e w2 ⟨rfl, hb2⟩
      have hO2 := HO.out.kept hb2
      have hg2 := grown_trans HB.out (grown_of_below hb2 _)
      have hd := hO2.cell j (by omega)
      have hf2 := hO2.frozen j
      have hO3 := hO2.set j (.string (markS (k + (j : Int))))
      rw [mkTx_set _ _ _ _ hlt] at hO3
      have HO3 := Lib.hid hO3
      have HG3 := Lib.hid (grown_trans hg2 (hO2.set_grown j (.string (markS (k + (j : Int))))))
      clear hO2 hO3 hg2 hb2
      go_wp2
      go_roundw
      case rel => exact ⟨j + 1, by omega, by go_num, by go_num, HO3.out, HG3.out⟩
      case measure => simp [intOf]; omega
    · obtain rfl : j = n := by omega
      go_wp2
      go_ret
      exact ⟨rfl, hown, hb⟩
set_option maxHeartbeats 1000000 in
theorem laws_heldStringS (t : Nat → ByteArray) (a : Option Addr) (n cap : Nat) (k : Int) (w : World) (h : Vals w a (strL (mkTx k t n) n)) (hlen : n ≤ 1048577) (hk0 : 0 ≤ k) (hk1 : k ≤ 1073741824) :
    Calls Try.prog 26 #[.slice a n cap, .int .i64 k] w fun e w' => e = .returned (.int .i64 (k + n)) ∧ Below w.heap.size w w' := by
  have hn := strL_length (mkTx k t n) n
  have HN := Lib.hid hn; clear hn
  go_enter Try.func26, Try.ntmps26
  go_wp2
  go_loopw [1, 5] (fun m i wr => ∃ (j : Nat), j ≤ n ∧ i = .int .i64 j ∧ m = .int .i64 (k + j) ∧ Below w.heap.size w wr)
    (fun _ i _ => n - (intOf i).toNat)
  case atStart => exact ⟨0, by omega, rfl, by go_num, Below.refl _ _⟩
  case round =>
    obtain ⟨j, hj, rfl, rfl, hb⟩ := hrel
    by_cases hlt : j < n
    · obtain ⟨b, off, rfl, hp⟩ := (h.kept hb).at j (by rw [HN.out]; omega)
      have c2 := hp j (by rw [HN.out]; omega)
      rw [strL_at _ _ _ hlt, show mkTx k t n j = markS (k + (j : Int)) by unfold mkTx; rw [if_pos hlt]] at c2
      have hlb := block_lt_of_cell c2
      obtain ⟨T, hT⟩ : ∃ T, markS (k + (j : Int)) = T := ⟨_, rfl⟩
      have HT := Lib.hid hT
      rw [hT] at c2
      have eT : (T.toList == T.toList) = true := by simp
      clear h hp hT
      go_wp2_with fail
      go_region_law ((go_simp; (go_at_call 50; refine (laws_markText _ _ (by omega)).mono ?_; rintro e w2 ⟨rfl, hb2⟩; rw [HT.out]; have hb2' := below_undrew hb2; have hd2 := (hb2'.cell (p := ⟨b, _, none⟩) hlb).trans c2)))
      all_goals
        have hB := hb.trans ((below_undrew hb2).mono hb.size)
        go_wp2
        go_roundw
        case rel => exact ⟨j + 1, by omega, by go_num, by go_num, hB⟩
        case measure => simp [intOf]; omega
    · obtain rfl : j = n := by omega
      go_wp2
      go_ret
      exact ⟨rfl, hb⟩
end Go.Proofs.Ytpniiaemgobaiaa

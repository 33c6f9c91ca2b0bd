/-
  Sessions: the laws' mark on one, and their look at the marks.
-/
import Derived.Test.YtodmohepgmhipaaSesMark
import Derived.Test.YtodmohepgmhipaaRecLaw
namespace Go.Proofs.Ytodmohepgmhipaa
open Go.RowKit
set_option linter.unusedVariables false
set_option maxRecDepth 100000
def markC (k : Int) (C : List (List Int)) : List (List Int) := (List.range C.length).map fun i : Nat => tab (fun t => k + (colSum C i : Int) + t) (rowAt C i).length
theorem markC_length (k : Int) (C : List (List Int)) : (markC k C).length = C.length := by simp [markC]
theorem markC_at (k : Int) (C : List (List Int)) (i : Nat) (h : i < C.length) : rowAt (markC k C) i = tab (fun t => k + (colSum C i : Int) + t) (rowAt C i).length := by simp [markC, rowAt, List.getD_eq_getElem?_getD, h]
theorem markC_len (k : Int) (C : List (List Int)) (i : Nat) (h : i < C.length) : (rowAt (markC k C) i).length = (rowAt C i).length := by rw [markC_at _ _ _ h, tab_length]
theorem colV_markC (k : Int) (C : List (List Int)) (cA : Nat → Option Addr) (cC : Nat → Nat) : colV cA cC (markC k C) = colV cA cC C := by
  unfold colV
  rw [markC_length]
  apply List.map_congr_left
  intro j hj
  rw [markC_len _ _ _ (by simpa using hj)]
set_option maxHeartbeats 2000000 in
theorem markCols_w (C : List (List Int)) (ac : Option Addr) (cap : Nat) (cA : Nat → Option Addr) (cC : Nat → Nat) (B E : Nat) (k : Int) (w : World) (h : ColsW w ac cA cC C) (hl : Lies B E (C.length + 1) (cSlot ac cA) (cLen C.length C)) (hlen : C.length ≤ 1048576) (hsum : colSum C C.length ≤ 1048576) (hk0 : 0 ≤ k) (hk1 : k ≤ 10737418) :
    Calls Try.prog 80 #[.slice ac C.length cap, .int .i64 k] w fun e w' => e = .returned (.int .i64 (k + colSum C C.length)) ∧ ColsW w' ac cA cC (markC k C) ∧ Trn (fun b => ∃ j, j < C.length ∧ blkO (cA j) (rowAt C j).length = some b) w w' := by
  go_enter Try.func80, Try.ntmps80
  go_wp2
  go_loopw [1, 5] (fun m i wr => ∃ (j : Nat), j ≤ C.length ∧ i = .int .i64 j ∧ m = .int .i64 (k + (colSum C j : Int)) ∧ Wr wr ac (colV cA cC C) ∧ (∀ i, i < C.length → WrI wr (cA i) (if i < j then tab (fun t => k + (colSum C i : Int) + t) (rowAt C i).length else rowAt C i)) ∧ Trn (fun b => ∃ j, j < C.length ∧ blkO (cA j) (rowAt C j).length = some b) w wr)
    (fun _ i _ => C.length - (intOf i).toNat)
  case atStart => exact ⟨0, by omega, rfl, by simp [colSum], h.top, fun i hi => by rw [if_neg (by omega)]; exact h.row i hi, Trn.refl _ _⟩
  case round =>
    obtain ⟨j, hj, rfl, rfl, htop, hrow, hb⟩ := hrel
    by_cases hlt : j < C.length
    · have hle := colSum_le C (show j + 1 ≤ C.length from hlt)
      have hsj : colSum C (j + 1) = colSum C j + (rowAt C j).length := rfl
      obtain ⟨g, off, rfl, hg, hv, hf⟩ := htop.at j (by rw [colV_length]; exact hlt)
      have c0 := hv j (by rw [colV_length]; exact hlt)
      rw [colV_at _ _ _ _ hlt] at c0
      have hr := hrow j hlt
      rw [if_neg (by omega)] at hr
      have HT := Lib.hid htop
      have HR := Lib.hid hrow
      have HB := Lib.hid hb
      have HL := Lib.hid hl
      have hr3 : (rowAt C j).length ≤ 3145729 := by omega
      have hcs : colSum C j ≤ 1048576 := by omega
      have HS := Lib.hid hsj
      clear htop hrow hb hl h hv hf hle hsj hsum
      go_wp2_with fail
      refine (markInts_w (rowAt C j) _ _ _ _ hr hr3 (by omega) (by omega)).mono ?_
      rintro e w1 ⟨rfl, hr1, ht1⟩
      have hbl : ∀ i, i < C.length → i ≠ j → ∀ g' o', cA i = some ⟨g', o', none⟩ → (rowAt C i).length ≠ 0 → ¬ blkO (cA j) (rowAt C j).length = some g' := fun i hi hne g' o' e1 n1 e2 => by
        have n2 : (rowAt C j).length ≠ 0 := fun e0 => by rw [e0] at e2; simp [blkO] at e2
        obtain ⟨g2, o2, e3, _, _⟩ := HL.out.inn (j + 1) (by omega) n2
        have e3' : cA j = some ⟨g2, o2, none⟩ := e3
        rw [e3', blkO_some n2] at e2
        cases e2
        exact HL.out.ne (i := i + 1) (j := j + 1) (by omega) (by omega) (by omega) n1 n2 e1 e3 rfl
      have hT1 := Wr.trn HT.out ht1 (fun hV g' o' e1 e2 => by
        have n2 : (rowAt C j).length ≠ 0 := fun e0 => by rw [e0] at e2; simp [blkO] at e2
        obtain ⟨g2, o2, e3, _, _⟩ := HL.out.inn (j + 1) (by omega) n2
        have e3' : cA j = some ⟨g2, o2, none⟩ := e3
        rw [e3', blkO_some n2] at e2
        cases e2
        exact HL.out.apart 0 (j + 1) (by omega) (by omega) (by show C.length ≠ 0; omega) n2 _ _ _ _ e1 e3 rfl)
      have HT1 := Lib.hid hT1
      have HR1 := Lib.hid (show ∀ i, i < C.length → WrI w1 (cA i) (if i < j + 1 then tab (fun t => k + (colSum C i : Int) + t) (rowAt C i).length else rowAt C i) from fun i hi => by
        by_cases e : i = j
        · subst e; rw [if_pos (by omega)]; exact hr1
        · have h1 := HR.out i hi
          have e2 : (if i < j + 1 then tab (fun t => k + (colSum C i : Int) + t) (rowAt C i).length else rowAt C i) = (if i < j then tab (fun t => k + (colSum C i : Int) + t) (rowAt C i).length else rowAt C i) := by
            by_cases h2 : i < j
            · rw [if_pos h2, if_pos (by omega)]
            · rw [if_neg h2, if_neg (by omega)]
          rw [e2]
          refine Wr.trn h1 ht1 fun hV g' o' e1 => hbl i hi e g' o' e1 ?_
          have := map_nil hV
          split at this
          · rwa [tab_length] at this
          · exact this)
      have HB1 := Lib.hid (HB.out.trans (ht1.mono fun b _ hb => ⟨j, hlt, hb⟩))
      have hnum := HS.out
      clear hT1 hr1 ht1 hbl hr
      go_wp2_with fail
      go_roundw
      case rel => exact ⟨j + 1, by omega, by go_num, by rw [hnum]; go_num, HT1.out, HR1.out, HB1.out⟩
      case measure => simp [intOf]; omega
    · obtain rfl : j = C.length := by omega
      go_wp2
      go_ret
      exact ⟨rfl, ⟨by rw [colV_markC]; exact htop, fun i hi => by
        rw [markC_length] at hi
        have := hrow i hi
        rw [if_pos hi] at this
        rw [markC_at _ _ _ hi]; exact this⟩, hb⟩
set_option maxHeartbeats 2000000 in
theorem heldPats_w (a : Option Addr) (n cap : Nat) (k : Int) (w : World) (h : Pats w a (markPts k n)) (hlen : n ≤ 1048577) (hk0 : 0 ≤ k) (hk1 : k ≤ 1073741824) :
    Calls Try.prog 13 #[.slice a n cap, .int .i64 k] w fun e w' => e = .returned (.int .i64 (k + n * 3)) ∧ Below w.heap.size w w' := by
  go_enter Try.func13, Try.ntmps13
  go_wp2
  go_loopw [1, 5] (fun m i wr => ∃ (j : Nat), j ≤ n ∧ i = .int .i64 j ∧ m = .int .i64 (k + j * 3) ∧ Below w.heap.size w wr)
    (fun _ i _ => n - (intOf i).toNat)
  case atStart => exact ⟨0, by omega, rfl, by go_num, Below.refl _ _⟩
  case round =>
    obtain ⟨j, hj, rfl, rfl, hb⟩ := hrel
    by_cases hlt : j < n
    · obtain ⟨b, off, rfl, hp⟩ := (h.kept hb).at j (by rw [markPts_length]; exact hlt)
      obtain ⟨c0, c1, c2⟩ := hp j (by rw [markPts_length]; exact hlt)
      rw [markPts_at _ _ _ hlt] at c0 c1 c2
      have hlb := block_lt_of_cell c0
      obtain ⟨T, hT⟩ : ∃ T, markS (k + (j : Int) * 3) = T := ⟨_, rfl⟩
      have HT := Lib.hid hT
      have c0' : wr.cell? ⟨b, off + j * 3, none⟩ = some (.string T) := by rw [← hT]; exact c0
      have c1' : wr.cell? ⟨b, off + j * 3 + 1, none⟩ = some (.int .i64 (k + (j : Int) * 3 + 1)) := c1
      have e1 : ((k + (j : Int) * 3 + 1) != (k + (j : Int) * 3 + 1)) = false := by simp
      have t3 : (k + (j : Int) * 3 + 1 + 1).tmod 3 = (k + (j : Int) * 3 + 2) % 3 := by rw [show k + (j : Int) * 3 + 1 + 1 = k + (j : Int) * 3 + 2 by omega]; exact Int.tmod_eq_emod_of_nonneg (by omega)
      obtain ⟨q, hq⟩ : ∃ q, (k + (j : Int) * 3 + 1 + 1).tmod 3 = q := ⟨_, rfl⟩
      have c2' : wr.cell? ⟨b, off + j * 3 + 2, none⟩ = some (.bool (q == 0)) := by
        have : decide ((k + (j : Int) * 3 + 2) % 3 = 0) = (q == 0) := by rw [← hq, t3]; rfl
        rw [← this]; exact c2
      have e2 : (!((q == 0) == (q == 0))) = false := by simp
      clear h hp c0 c1 c2 hT t3
      go_wp2_with fail
      go_region_law ((go_simp; (go_at_call 50; refine (laws_markText _ _ (by omega)).mono ?_; rintro e w2 ⟨rfl, hb2⟩; rw [HT.out]; have hb2' := below_undrew hb2; have hd2 := (hb2'.cell (p := ⟨b, _, none⟩) hlb).trans c0')))
      all_goals
        have hB := hb.trans ((below_undrew hb2).mono hb.size)
        have d1 := ((below_undrew hb2).cell (p := ⟨b, _, none⟩) hlb).trans c1'
        have d2 := ((below_undrew hb2).cell (p := ⟨b, _, none⟩) hlb).trans c2'
        clear c0' c1' c2'
        go_wp2
        go_roundw
        case rel => exact ⟨j + 1, by omega, by go_num, by go_num, hB⟩
        case measure => simp [intOf]; omega
    · obtain rfl : j = n := by omega
      go_wp2
      go_ret
      exact ⟨rfl, hb⟩
set_option maxHeartbeats 2000000 in
theorem heldCols_w (C : List (List Int)) (ac : Option Addr) (cap : Nat) (k : Int) (w : World) (h : Cols w ac (markC k C)) (hlen : C.length ≤ 1048576) (hsum : colSum C C.length ≤ 1048576) (hk0 : 0 ≤ k) (hk1 : k ≤ 10737418) :
    Calls Try.prog 81 #[.slice ac C.length cap, .int .i64 k] w fun e w' => e = .returned (.int .i64 (k + colSum C C.length)) ∧ Below w.heap.size w w' := by
  go_enter Try.func81, Try.ntmps81
  go_wp2
  go_loopw [1, 5] (fun m i wr => ∃ (j : Nat), j ≤ C.length ∧ i = .int .i64 j ∧ m = .int .i64 (k + (colSum C j : Int)) ∧ Below w.heap.size w wr)
    (fun _ i _ => C.length - (intOf i).toNat)
  case atStart => exact ⟨0, by omega, rfl, by simp [colSum], Below.refl _ _⟩
  case round =>
    obtain ⟨j, hj, rfl, rfl, hb⟩ := hrel
    by_cases hlt : j < C.length
    · have hle := colSum_le C (show j + 1 ≤ C.length from hlt)
      have hsj : colSum C (j + 1) = colSum C j + (rowAt C j).length := rfl
      obtain ⟨b, off, rfl, hp⟩ := (h.kept hb).at j (by rw [markC_length]; exact hlt)
      obtain ⟨a3, z3, c3, i3⟩ := hp j (by rw [markC_length]; exact hlt)
      rw [markC_len _ _ _ hlt] at c3
      have hlR := markC_len k C j hlt
      have hu : UpTo (fun i => (k + (colSum C j : Int)) + i) (rowAt C j).length (rowAt (markC k C) j) := fun i hi => by rw [markC_at _ _ _ hlt, intAt_tab _ _ _ hi]
      have HU := Lib.hid hu
      have HS := Lib.hid hsj
      have hs3 : (rowAt C j).length ≤ 1048577 := by omega
      have hcs : colSum C j ≤ 1048576 := by omega
      clear h hp hle hsj hsum hu
      go_wp2_with fail
      refine (laws_heldInt64S _ _ _ _ _ _ hlR i3 HU.out hs3 (by omega) (by omega)).mono ?_
      rintro e w1 ⟨rfl, hb1⟩
      have hnum := HS.out
      have hnn : ¬ (k + (colSum C j : Int) + ((rowAt C j).length : Int) < 0) := by omega
      go_wp2_with fail
      go_roundw
      case rel => exact ⟨j + 1, by omega, by go_num, by rw [hnum]; go_num, hb.trans (hb1.mono hb.size)⟩
      case measure => simp [intOf]; omega
    · obtain rfl : j = C.length := by omega
      go_wp2
      go_ret
      exact ⟨rfl, hb⟩
end Go.Proofs.Ytodmohepgmhipaa

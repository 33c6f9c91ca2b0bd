/-
  Chapter 6: columns cut off: contracts of CutNew, in the program and in its model.
-/
import Derived.Test.YtglldmfhjipacaaCutLaw
import Derived.Test.YtglldmfhjipacaaOwnMore
import Derived.Test.YtglldmfhjipacaaL3First
namespace Go.Proofs.Ytglldmfhjipacaa
open Go.RowKit
set_option linter.unusedVariables false
set_option maxRecDepth 100000
/-- the last of the first j places whose number is at most k -/
def lastLe (C : Nat → Int) (k : Int) : Nat → Nat
  | 0 => 0
  | j + 1 => if C j ≤ k then j else lastLe C k j
def capI (C : Nat → Int) (k : Int) (i : Nat) : Int := if k + 1 < C i then k + 1 else C i
theorem lastLe_lt (C : Nat → Int) (k : Int) (j : Nat) (h : 1 ≤ j) : lastLe C k j < j := by
  induction j with
  | zero => omega
  | succ j ih =>
    simp only [lastLe]
    split
    · omega
    · by_cases h1 : 1 ≤ j
      · have := ih h1; omega
      · have : j = 0 := by omega
        subst this; simp [lastLe]
theorem lastLe_cap (C : Nat → Int) (k : Int) (j : Nat) : lastLe (capI C k) k j = lastLe C k j := by
  induction j with
  | zero => rfl
  | succ j ih =>
    simp only [lastLe]
    have : capI C k j ≤ k ↔ C j ≤ k := by unfold capI; split <;> omega
    by_cases h : C j ≤ k
    · rw [if_pos (this.2 h), if_pos h]
    · rw [if_neg (fun e => h (this.1 e)), if_neg h, ih]
theorem lastLe_yes {C : Nat → Int} {k : Int} {j : Nat} (h : C j ≤ k) : lastLe C k (j + 1) = j := by simp [lastLe, h]
theorem lastLe_no {C : Nat → Int} {k : Int} {j : Nat} (h : ¬ C j ≤ k) : lastLe C k (j + 1) = lastLe C k j := by simp [lastLe, h]
theorem lastLe_le (C : Nat → Int) (k : Int) (j : Nat) : lastLe C k j ≤ j := by
  by_cases h : 1 ≤ j
  · exact Nat.le_of_lt (lastLe_lt C k j h)
  · have : j = 0 := by omega
    subst this; simp [lastLe]
theorem tab_take (f : Nat → Int) (n m : Nat) (h : m ≤ n) : (tab f n).take m = tab f m := by
  unfold tab; rw [← List.map_take, List.take_range, Nat.min_eq_left h]
theorem OwnN.take {w : World} {B g n cap m : Nat} {f : Nat → Int} (h : OwnN w B (some ⟨g, 0, none⟩) n cap (tab f n)) (hm : m ≤ n) : OwnN w B (some ⟨g, 0, none⟩) m cap (tab f m) := by
  refine ⟨tab_length _ _, by simp [tab_length], ?_⟩
  rcases h.2.2 with ⟨hv, _⟩ | ⟨g', cap', cur, hv, hb, hg, hnc, hcm, hcs, ht⟩
  · cases hv
  · simp only [Value.slice.injEq, Option.some.injEq, Addr.mk.injEq, and_true, true_and] at hv
    obtain ⟨rfl, rfl⟩ := hv
    refine .inr ⟨g, cap, cur, rfl, hb, hg, by omega, hcm, hcs, ?_⟩
    have : (cur.toList.take (n * 1)).take (m * 1) = ((tab f n).map (Value.int .i64)).take (m * 1) := by rw [ht]
    rw [List.take_take, Nat.min_eq_left (by omega), ← List.map_take, Nat.mul_one, tab_take f n m hm] at this
    rw [Nat.mul_one]; exact this
def cutL (C : Nat → Int) (k : Int) (n : Nat) : List Int := tab (capI C k) (lastLe C k n + 1)
set_option maxHeartbeats 2000000 in
theorem impl_cutOff (L : List Int) (a : Option Addr) (n cap : Nat) (k : Int) (w : World) (hn : L.length = n) (h : Ints w a L) (hlen : n ≤ 1048577) (hn1 : 1 ≤ n) (hk0 : 0 ≤ k) (hk1 : k ≤ 1048577) :
    Calls Try.prog 114 #[.slice a n cap, .int .i64 k] w fun e w' => ∃ a' cap', e = .returned (.agg #[.slice a' (lastLe (intAt L) k n + 1) cap', .int .i64 (lastLe (intAt L) k n)]) ∧ OwnN w' w.heap.size a' (lastLe (intAt L) k n + 1) cap' (cutL (intAt L) k n) ∧ Below w.heap.size w w' := by
  obtain ⟨i0, hi, ht0, ht1, ht2⟩ := info_parts int_info
  have HN := Lib.hid hn; clear hn
  go_enter Try.func114, Try.ntmps114
  go_wp2
  go_loopw [5, 6, 11] (fun v l i wr => ∃ j : Nat, j ≤ n ∧ i = .int .i64 j ∧ l = .int .i64 (lastLe (intAt L) k j) ∧ wr.ownsRow (w.heap.size + 1) 2 1 v j ((tab (capI (intAt L) k) j).map (Value.int .i64)) ∧ wr.heap[w.heap.size]? = some (.cells #[.slice none 0 0, .int .i64 0] 79 (0, 0)) ∧ Below w.heap.size w wr ∧ w.heap.size + 1 ≤ wr.heap.size)
    (fun _ _ i _ => n - (intOf i).toNat)
  case atStart => exact ⟨0, by omega, rfl, rfl, World.ownsRow_nil _ _ _ _, heap_alloc_new _ _, (by repeat (first | exact Below.refl _ _ | assumption | (refine Below.drew ?_) | (refine below_drewN ?_ _) | (refine Below.alloc ?_ (by first | omega | (simp; done) | (simp; omega)) _) | (refine Below.setCell ?_ (by first | omega | (simp; done) | (simp; omega)) _))), by simp⟩
  case round =>
    obtain ⟨j, hj, rfl, rfl, hown, hg0, hb, hz⟩ := hrel
    by_cases hlt : j < n
    · obtain ⟨b, off, rfl, hp⟩ := (h.kept hb).at j (by rw [HN.out]; exact hlt)
      have c0 := hp j (by rw [HN.out]; exact hlt)
      have hcap : capI (intAt L) k j = if k + 1 < intAt L j then k + 1 else intAt L j := rfl
      have HY := fun h => Lib.hid (lastLe_yes (C := intAt L) (k := k) (j := j) h)
      have HNo := fun h => Lib.hid (lastLe_no (C := intAt L) (k := k) (j := j) h)
      have hll := lastLe_le (intAt L) k j
      have HO := Lib.hid hown; have HG := Lib.hid hg0
      clear hp h hown hg0
      obtain ⟨x, hx⟩ : ∃ x, intAt L j = x := ⟨_, rfl⟩
      rw [hx] at c0 hcap HY HNo
      clear hx
      by_cases h1 : k + 1 < x
      · rw [if_pos h1] at hcap
        have HC := Lib.hid hcap
        have h2 : ¬ x ≤ k := by omega
        have HL := HNo h2
        clear hcap HY HNo
        go_wp2_with (at_builtin; refine wpList_append_own _ rfl _ _ 61 rfl (w.heap.size + 1) 2 i0 (.int .i64 0) 1 8 Try.underlying61 hi ht0 ht1 ht2 rfl (by decide) _ _ _ rfl (HO.out.alloc _) ⟨wr.heap.size, 0, none⟩ 1 1 [.int .i64 (k + 1)] rfl rfl (one_new _ _ _) (int_one _) (by unfold maxLen; omega) (by omega) (by simp; omega) ?_; intro v' w1 hown' hg _)
        rw [← HC.out] at hown'
        have hown2 := Lib.hid (own_snoc (f := capI (intAt L) k) hown')
        have hB3 : Below (w.heap.size + 1) wr w1 := ((Below.refl _ wr).alloc hz _).grown hg (by simp; omega) (fun q hq => (HO.out.lt q hq).1)
        clear hown' hg
        go_roundw
        case rel => exact ⟨j + 1, by omega, by go_num, by rw [HL.out], hown2.out, (hB3.block _ (by omega)).trans HG.out, hb.trans (hB3.mono (by omega)), Nat.le_trans hz hB3.size⟩
        case measure => simp [intOf]; omega
      · rw [if_neg h1] at hcap
        have HC := Lib.hid hcap
        clear hcap
        by_cases h2 : x ≤ k
        all_goals
          first | (have HL := HY h2) | (have HL := HNo h2)
          clear HY HNo
          go_wp2_with (at_builtin; refine wpList_append_own _ rfl _ _ 61 rfl (w.heap.size + 1) 2 i0 (.int .i64 0) 1 8 Try.underlying61 hi ht0 ht1 ht2 rfl (by decide) _ _ _ rfl (HO.out.alloc _) ⟨wr.heap.size, 0, none⟩ 1 1 [.int .i64 x] rfl rfl (one_new _ _ _) (int_one _) (by unfold maxLen; omega) (by omega) (by simp; omega) ?_; intro v' w1 hown' hg _)
          rw [← HC.out] at hown'
          have hown2 := Lib.hid (own_snoc (f := capI (intAt L) k) hown')
          have hB3 : Below (w.heap.size + 1) wr w1 := ((Below.refl _ wr).alloc hz _).grown hg (by simp; omega) (fun q hq => (HO.out.lt q hq).1)
          clear hown' hg
          go_roundw
          case rel => exact ⟨j + 1, by omega, by go_num, by rw [HL.out], hown2.out, (hB3.block _ (by omega)).trans HG.out, hb.trans (hB3.mono (by omega)), Nat.le_trans hz hB3.size⟩
          case measure => simp [intOf]; omega
    · obtain rfl : j = n := by omega
      have hll := lastLe_lt (intAt L) k j hn1
      obtain ⟨a1, c, rfl, hO⟩ := OwnN.shape hown
      obtain ⟨g, rfl, _, _⟩ := hO.head 0 (by omega)
      have m0 : wr.cell? ⟨w.heap.size, 0, none⟩ = some (.slice none 0 0) := by rw [cell_of_row wr _ 0 _ _ _ hg0]; rfl
      have m1 : wr.cell? ⟨w.heap.size, 1, none⟩ = some (.int .i64 0) := by rw [cell_of_row wr _ 1 _ _ _ hg0]; rfl
      have f0 := frozen_of_row wr _ 0 _ _ hg0
      have f1 := frozen_of_row wr _ 1 _ _ hg0
      have hcc : j ≤ c := by
        rcases hO.2.2 with ⟨hv, _⟩ | ⟨g', cap', cur, hv, _, _, hnc, _⟩
        · cases hv
        · simp only [Value.slice.injEq] at hv; omega
      have l0 : (0 : Int) ≤ (lastLe (intAt L) k j : Int) + 1 := by omega
      have l1 : (lastLe (intAt L) k j : Int) + 1 ≤ (c : Int) := by omega
      have l2 : lastLe (intAt L) k j + 1 ≤ c := by omega
      clear hg0 hown
      go_wp2
      exact bodyPost_ret (v := .agg #[.slice (some ⟨g, 0, none⟩) (lastLe (intAt L) k j + 1) c, .int .i64 (lastLe (intAt L) k j)]) (by simp [results, Try.results114, go_sem, m0, m1]) rfl ⟨_, _, rfl, ((hO.take (by omega)).set2 (Nat.lt_succ_self _) _ _).mono (Nat.le_succ _), below_set2 hb (Nat.le_refl _) _ _⟩
theorem ints_take {w : World} {a : Option Addr} {L : List Int} (h : Ints w a L) (m : Nat) : Ints w a (L.take m) := by
  rcases h with rfl | ⟨b, off, rfl, h⟩
  · left; simp
  · right
    refine ⟨b, off, rfl, fun i hi => ?_⟩
    have h1 : i < L.length := by rw [List.length_take] at hi; omega
    have h2 : i < m := by rw [List.length_take] at hi; omega
    rw [h i h1]
    simp only [intAt, List.getD_eq_getElem?_getD, List.getElem?_take, if_pos h2]
set_option maxHeartbeats 1000000 in
theorem spec_l1Copy (L : List Int) (a : Option Addr) (n cap : Nat) (w : World) (hn : L.length = n) (h : Ints w a L) (hn1 : 1 ≤ n) (hlen : n ≤ 1048577) :
    Calls Try.prog 125 #[.slice a n cap] w fun e w' => ∃ a' cap', e = .returned (.slice a' n cap') ∧ OwnN w' w.heap.size a' n cap' L ∧ Below w.heap.size w w' := by
  obtain ⟨i0, hi, ht0, ht1, ht2⟩ := info_parts int_info
  obtain ⟨b, off, rfl, hp⟩ := h.at 0 (by omega)
  have HN := Lib.hid hn; clear hn
  have hbl := block_lt_of_cell (hp 0 (by rw [HN.out]; omega))
  simp only at hbl
  have hnews : ∀ j u, (L.map (Value.int .i64))[j]? = some u → (w.alloc (.cells #[] 2)).cell? ((⟨b, off, none⟩ : Addr).add j) = some u := by
    intro j u hu
    have hj : j < L.length := by
      have := (List.getElem?_eq_some_iff.1 hu).1
      simpa using this
    rw [Addr.add_lit, World.cell?_of_block (Below.heap_alloc w _ _ hbl), hp j hj]
    simp [hj] at hu
    rw [← hu]; simp [intAt, hj]
  have HP := Lib.hid hp
  clear hp h
  have hone := ints_oneCell .i64 L
  have hlen2 : (L.map (Value.int .i64)).length = n * 1 := by rw [List.length_map, HN.out, Nat.mul_one]
  have HL2 := Lib.hid hlen2; clear hlen2
  go_enter Try.func125, Try.ntmps125
  go_wp2_with (at_builtin; refine wpList_append_own _ rfl _ _ 61 rfl w.heap.size 2 i0 (.int .i64 0) 1 8 Try.underlying61 hi ht0 ht1 ht2 rfl (by decide) _ _ _ rfl (World.ownsRow_made w #[] 0 (Nat.le_refl _) (by decide) rfl) ⟨b, off, none⟩ n cap (L.map (Value.int .i64)) rfl HL2.out hnews hone (by unfold maxLen; omega) (by omega) (by simp) ?_; intro v' w1 hown' hg _)
  have hown2 : w1.ownsRow w.heap.size 2 1 v' n (L.map (Value.int .i64)) := by simpa using hown'
  obtain ⟨a', cap', rfl, hO⟩ := OwnN.shape hown2
  go_wp2
  go_ret
  exact ⟨_, _, rfl, hO, ((Below.refl _ w).alloc (Nat.le_refl _) _).grown hg (by simp) (fun q hq => by cases hq; exact Nat.le_refl _)⟩
set_option maxHeartbeats 2000000 in
theorem spec_l6Cap (s : ByteArray) (k : Int) (f : Bool) (L : List Int) (a : Option Addr) (n cap : Nat) (w : World) (hn : L.length = n) (h : Ints w a L) (hlen : n ≤ 1048577) (hk0 : 0 ≤ k) (hk1 : k ≤ 1048577) (hwf : ∀ i, i < n → -9223372036854775808 ≤ intAt L i ∧ intAt L i ≤ 9223372036854775807) :
    Calls Try.prog 111 #[.agg #[.string s, .int .i64 k, .bool f], .slice a n cap] w fun e w' => ∃ a' cap', e = .returned (.slice a' n cap') ∧ OwnN w' w.heap.size a' n cap' (tab (capI (intAt L) k) n) ∧ Below w.heap.size w w' := by
  obtain ⟨i0, hi, ht0, ht1, ht2⟩ := info_parts int_info
  have HN := Lib.hid hn; clear hn
  have HW := Lib.hid hwf; clear hwf
  go_enter Try.func111, Try.ntmps111
  go_wp2
  go_loopw [5, 6] (fun v i wr => ∃ j : Nat, j ≤ n ∧ i = .int .i64 j ∧ wr.ownsRow (w.heap.size + 1) 2 1 v j ((tab (capI (intAt L) k) j).map (Value.int .i64)) ∧ wr.cell? ⟨w.heap.size, 1, none⟩ = some (.int .i64 k) ∧ Below w.heap.size w wr ∧ w.heap.size + 1 ≤ wr.heap.size)
    (fun _ i _ => n - (intOf i).toNat)
  case atStart =>
    refine ⟨0, by omega, rfl, ?_, ?_, (by repeat (first | exact Below.refl _ _ | assumption | (refine Below.drew ?_) | (refine below_drewN ?_ _) | (refine Below.alloc ?_ (by first | omega | (simp; done) | (simp; omega)) _) | (refine Below.setCell ?_ (by first | omega | (simp; done) | (simp; omega)) _))), by simp⟩
    · have := World.ownsRow_made (base := w.heap.size + 1) (e := 2) (size := 1) (w.alloc (.cells #[.string s, .int .i64 k, .bool f] 48)) #[] 0 (by simp) (by decide) rfl
      simpa [tab] using this
    · go_simp
  case round =>
    obtain ⟨j, hj, rfl, hown, hck, hb, hz⟩ := hrel
    by_cases hlt : j < n
    · obtain ⟨b, off, rfl, hp⟩ := (h.kept hb).at j (by rw [HN.out]; exact hlt)
      have c0 := hp j (by rw [HN.out]; exact hlt)
      have hcap : capI (intAt L) k j = if k + 1 < intAt L j then k + 1 else intAt L j := rfl
      have HO := Lib.hid hown
      have jl : (j : Int) < (n : Int) := by omega
      have hmx : j + 1 ≤ maxLen := by unfold maxLen; omega
      have hby : (j + 1) * 8 ≤ 140737488355328 := by omega
      have hba : ∀ o, w.heap.size + 1 ≤ (wr.alloc o).drew.heap.size := fun o => by simp; omega
      clear hp h hown
      obtain ⟨x, hx⟩ : ∃ x, intAt L j = x := ⟨_, rfl⟩
      rw [hx] at c0 hcap
      clear hx
      have kw : IntKind.i64.wrap (k + 1) = k + 1 := by rw [IntKind.wrap_i64]; omega
      have KW := Lib.hid kw; clear kw
      have HC := Lib.hid hcap; clear hcap
      have kw := KW.out
      go_wp2_with fail
      go_region_law ((refine step_append_lies _ rfl (.tmp 14) (.tmp 23) 61 rfl (w.heap.size + 1) 2 i0 (.int .i64 0) 1 8 Try.underlying61 hi ht0 ht1 ht2 rfl (by decide) u5 _ _ (by simp [Act.eval]) (HO.out.alloc _).drew ⟨wr.heap.size, 0, none⟩ 1 1 [.int .i64 (if k + 1 < x then k + 1 else x)] (by simp [Act.eval]) rfl (fun j u h => cells_new wr _ _ j u h) (one_all rfl) (by decide) hmx hby (hba _) _ rfl ?_; intro g1 cap1 w1 hown' hg _ _))
      all_goals
        clear kw
        rw [← HC.out] at hown'
        have hown2 := Lib.hid (own_snoc (f := capI (intAt L) k) hown')
        have hB3 : Below (w.heap.size + 1) wr w1 := (((Below.refl _ wr).alloc hz _).drew).grown hg (by simp; omega) (fun q hq => (HO.out.lt q hq).1)
        have hck1 := (hB3.cell (p := ⟨w.heap.size, 1, none⟩) (by show w.heap.size < _; omega)).trans hck
        clear hown' hg
        go_wp2
        go_roundw
        case rel => exact ⟨j + 1, by omega, by go_num, hown2.out, hck1, hb.trans (hB3.mono (by omega)), Nat.le_trans hz hB3.size⟩
        case measure => simp [intOf]; omega
    · obtain rfl : j = n := by omega
      obtain ⟨a', cap', rfl, hO⟩ := OwnN.shape hown
      go_wp2
      go_ret
      exact ⟨_, _, rfl, hO.mono (by omega), hb⟩
set_option maxHeartbeats 2000000 in
theorem spec_l6Of (s : ByteArray) (k : Int) (f : Bool) (L : List Int) (a : Option Addr) (n cap : Nat) (w : World) (hn : L.length = n) (h : Ints w a L) (hn1 : 1 ≤ n) (hlen : n ≤ 1048577) (hcap : n ≤ cap) :
    Calls Try.prog 110 #[.agg #[.string s, .int .i64 k, .bool f], .slice a n cap] w fun e w' => ∃ a' cap', e = .returned (.agg #[.slice a' (lastLe (intAt L) k n + 1) cap', .int .i64 (lastLe (intAt L) k n)]) ∧ OwnN w' w.heap.size a' (lastLe (intAt L) k n + 1) cap' (L.take (lastLe (intAt L) k n + 1)) ∧ Below w.heap.size w w' := by
  have HN := Lib.hid hn; clear hn
  go_enter Try.func110, Try.ntmps110
  go_wp2
  go_loopw [5, 6] (fun l i wr => ∃ j : Nat, j ≤ n ∧ i = .int .i64 j ∧ l = .int .i64 (lastLe (intAt L) k j) ∧ wr.cell? ⟨w.heap.size, 1, none⟩ = some (.int .i64 k) ∧ wr.heap[w.heap.size + 1]? = some (.cells #[.slice none 0 0, .int .i64 0] 79 (0, 0)) ∧ Below w.heap.size w wr ∧ w.heap.size + 2 ≤ wr.heap.size)
    (fun _ i _ => n - (intOf i).toNat)
  case atStart =>
    refine ⟨0, by omega, rfl, rfl, ?_, heap_alloc2_new _ _ _, (by repeat (first | exact Below.refl _ _ | assumption | (refine Below.drew ?_) | (refine below_drewN ?_ _) | (refine Below.alloc ?_ (by first | omega | (simp; done) | (simp; omega)) _) | (refine Below.setCell ?_ (by first | omega | (simp; done) | (simp; omega)) _))), by simp⟩
    rw [cell_of_row _ _ 1 _ _ _ (heap_alloc2_old _ _ _)]; rfl
  case round =>
    obtain ⟨j, hj, rfl, rfl, hck, hg0, hb, hz⟩ := hrel
    by_cases hlt : j < n
    · obtain ⟨b, off, rfl, hp⟩ := (h.kept hb).at j (by rw [HN.out]; exact hlt)
      have c0 := hp j (by rw [HN.out]; exact hlt)
      have HY := fun h => Lib.hid (lastLe_yes (C := intAt L) (k := k) (j := j) h)
      have HNo := fun h => Lib.hid (lastLe_no (C := intAt L) (k := k) (j := j) h)
      have HG := Lib.hid hg0
      have jl : (j : Int) < (n : Int) := by omega
      clear hp h hg0
      obtain ⟨x, hx⟩ : ∃ x, intAt L j = x := ⟨_, rfl⟩
      rw [hx] at c0 HY HNo
      clear hx
      by_cases h2 : x ≤ k
      · have HL := HY h2
        clear HY HNo
        go_wp2_with fail
        go_quiet (fail)
        go_wp2
        go_roundw
        case rel => exact ⟨j + 1, by omega, by go_num, by rw [HL.out], hck, HG.out, below_drewN hb _, hz⟩
        case measure => simp [intOf]; omega
      · have HL := HNo h2
        clear HY HNo
        go_wp2_with fail
        go_quiet (fail)
        go_wp2
        go_roundw
        case rel => exact ⟨j + 1, by omega, by go_num, by rw [HL.out], hck, HG.out, below_drewN hb _, hz⟩
        case measure => simp [intOf]; omega
    · obtain rfl : j = n := by omega
      have hll := lastLe_lt (intAt L) k j hn1
      have m0 : wr.cell? ⟨w.heap.size + 1, 0, none⟩ = some (.slice none 0 0) := by rw [cell_of_row wr _ 0 _ _ _ hg0]; rfl
      have m1 : wr.cell? ⟨w.heap.size + 1, 1, none⟩ = some (.int .i64 0) := by rw [cell_of_row wr _ 1 _ _ _ hg0]; rfl
      have f0 := frozen_of_row wr _ 0 _ _ hg0
      have f1 := frozen_of_row wr _ 1 _ _ hg0
      have l0 : (0 : Int) ≤ (lastLe (intAt L) k j : Int) + 1 := by omega
      have l1 : (lastLe (intAt L) k j : Int) + 1 ≤ (cap : Int) := by omega
      have l2 : lastLe (intAt L) k j + 1 ≤ cap := by omega
      have hI := ints_take (h.kept hb) (lastLe (intAt L) k j + 1)
      have hIl : (L.take (lastLe (intAt L) k j + 1)).length = lastLe (intAt L) k j + 1 := by rw [List.length_take, HN.out]; omega
      have HIl := Lib.hid hIl
      clear hg0 h hIl
      go_wp2_with fail
      refine (spec_l1Copy (L.take (lastLe (intAt L) k j + 1)) a (lastLe (intAt L) k j + 1) cap _ HIl.out hI (by omega) (by omega)).mono ?_
      rintro e w2 ⟨a', cap', rfl, hO, hb2⟩
      obtain ⟨hc_w2, hf_w2⟩ := bcell hb2; have HT_w2 : Below w.heap.size w w2 := below_step (by repeat (first | exact Below.refl _ _ | assumption | (refine Below.drew ?_) | (refine below_drewN ?_ _) | (refine Below.alloc ?_ (by first | omega | (simp; done) | (simp; omega)) _) | (refine Below.setCell ?_ (by first | omega | (simp; done) | (simp; omega)) _))) hb2; have hy0_w2 : w.heap.size < w2.heap.size := (by have h1 := hb2.size; (try simp at h1); omega); have hy1_w2 : w.heap.size + 1 < w2.heap.size := (by have h1 := hb2.size; (try simp at h1); omega)
      have hz2 : w.heap.size + 1 < wr.heap.size := by omega
      go_wp2_with fail
      exact bodyPost_ret (v := .agg #[.slice a' (lastLe (intAt L) k j + 1) cap', .int .i64 (lastLe (intAt L) k j)]) (by simp [results, Try.results110, go_sem, hc_w2, m0, m1, hz2]) rfl ⟨_, _, rfl, ((hO.set2 (g := w.heap.size + 1) (by omega) _ _).mono (by omega)), below_set2 HT_w2 (by omega) _ _⟩
end Go.Proofs.Ytglldmfhjipacaa

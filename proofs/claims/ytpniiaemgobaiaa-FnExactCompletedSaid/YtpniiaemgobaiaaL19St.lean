/-
  Chapter 19: StartDist, in the program and in its model.
-/
import Derived.Test.YtpniiaemgobaiaaDistFacts
namespace Go.Proofs.Ytpniiaemgobaiaa
open Go Go.RowKit Go.Shelf
set_option linter.unusedVariables false
set_option maxRecDepth 100000
attribute [local go_sem] Oper.semAt_some
/-- the least of what the first k columns end with, and of the empty beginning's -/
def leastS (s r : ByteArray) : Nat → Int
  | 0 => s.size
  | k + 1 => if colAt s r 1 k s.size < leastS s r k then colAt s r 1 k s.size else leastS s r k
theorem leastS_bnd (s r : ByteArray) : ∀ k, 0 ≤ leastS s r k ∧ leastS s r k ≤ s.size
  | 0 => by simp [leastS]
  | k + 1 => by
    have ih := leastS_bnd s r k
    have h := colAt_bnd s r (rise := 1) (by decide) (by decide) k s.size (by omega)
    rw [leastS]
    split <;> omega
theorem leastS_le (s r : ByteArray) (k : Nat) : ∀ j, j < k → leastS s r k ≤ colAt s r 1 j s.size := by
  induction k with
  | zero => intro j hj; omega
  | succ k ih =>
    intro j hj
    rw [leastS]
    by_cases e : j = k
    · subst e; split <;> omega
    · have := ih j (by omega); split <;> omega
theorem leastS_is (s r : ByteArray) (k : Nat) : leastS s r k = s.size ∨ ∃ j, j < k ∧ leastS s r k = colAt s r 1 j s.size := by
  induction k with
  | zero => exact .inl rfl
  | succ k ih =>
    rw [leastS]
    split
    · exact .inr ⟨k, by omega, rfl⟩
    · rcases ih with h | ⟨j, hj, h⟩
      · exact .inl h
      · exact .inr ⟨j, by omega, h⟩
def startDI (s r : ByteArray) : Int := if s.size ≤ 200 ∧ r.size ≤ 200 then leastS s r (r.size + 1) else -1
theorem startDI_yes {s r : ByteArray} (h : s.size ≤ 200 ∧ r.size ≤ 200) : startDI s r = leastS s r (r.size + 1) := if_pos h
theorem startDI_no {s r : ByteArray} (h : ¬ (s.size ≤ 200 ∧ r.size ≤ 200)) : startDI s r = -1 := if_neg h
theorem dist_begin (s r : ByteArray) (i : Nat) (hs : s.size ≤ 200) (hr : r.size ≤ 200) (hi : i ≤ r.size) : distI s (r.extract 0 i) false = colAt s r 1 i s.size := by
  rw [distI_ed hs (by rw [ByteArray.size_extract]; omega), colAt_ed s r i s.size hi (Nat.le_refl _), fl_extract]
  show ((ed (bl s) (((bl r).take i).drop 0) : Nat) : Int) = _
  rw [List.drop_zero, List.take_of_length_le (l := bl s) (by rw [bl_len]; exact Nat.le_refl _)]
set_option maxHeartbeats 2000000 in
theorem spec_l19Start (s r : ByteArray) (w : World) (hs : s.size ≤ 200) (hr : r.size ≤ 200) :
    Calls Try.prog 67 #[.string s, .string r] w fun e w' => e = .returned (.int .i64 (leastS s r (r.size + 1))) ∧ Below w.heap.size w w' := by
  go_enter Try.func67, Try.ntmps67
  go_wp2
  go_loopw [5, 6] (fun c i wr => ∃ k : Nat, k ≤ r.size + 1 ∧ i = .int .i64 k ∧ c = .int .i64 (leastS s r k) ∧ Below w.heap.size w wr)
    (fun _ i _ => r.size + 1 - (intOf i).toNat)
  case atStart => exact ⟨0, by omega, rfl, rfl, Below.refl _ _⟩
  case round =>
    obtain ⟨k, hk, rfl, rfl, hb⟩ := hrel
    by_cases hlt : k < r.size + 1
    · have hd := dist_begin s r k hs hr (by omega)
      have hcb := colAt_bnd s r (rise := 1) (by decide) (by decide) k s.size (by omega)
      have hlb := leastS_bnd s r k
      have hst : leastS s r (k + 1) = if colAt s r 1 k s.size < leastS s r k then colAt s r 1 k s.size else leastS s r k := rfl
      have hz : (r.extract 0 k).size ≤ 1048576 := by rw [ByteArray.size_extract]; omega
      obtain ⟨X, hX⟩ : ∃ X, r.extract 0 k = X := ⟨_, rfl⟩
      rw [hX] at hd hz
      have HX := Lib.hid hX
      have HD := Lib.hid hd
      generalize colAt s r 1 k s.size = d at *
      generalize leastS s r k = m at *
      have hk1 : (k : Int) ≤ (r.size : Int) := by omega
      clear hX hd
      by_cases hlt2 : d < m
      · rw [if_pos hlt2] at hst
        have HS := Lib.hid hst
        clear hst
        go_wp2_with (go_at_call 66; rw [HX.out]; refine (spec_distance s X false _ (by omega) hz).mono ?_; rintro e w1 ⟨rfl, hb1⟩; rw [HD.out]; have hB1 := below_step hb hb1)
        go_roundw
        case rel => exact ⟨k + 1, by omega, by go_num, by rw [HS.out], hB1⟩
        case measure => simp [intOf]; omega
      · rw [if_neg hlt2] at hst
        have HS := Lib.hid hst
        clear hst
        go_wp2_with (go_at_call 66; rw [HX.out]; refine (spec_distance s X false _ (by omega) hz).mono ?_; rintro e w1 ⟨rfl, hb1⟩; rw [HD.out]; have hB1 := below_step hb hb1)
        go_roundw
        case rel => exact ⟨k + 1, by omega, by go_num, by rw [HS.out], hB1⟩
        case measure => simp [intOf]; omega
    · obtain rfl : k = r.size + 1 := by omega
      go_wp2
      go_ret
      exact ⟨rfl, hb⟩
set_option maxHeartbeats 4000000 in
theorem impl_startDist_yes (s r : ByteArray) (w : World) (hs : s.size ≤ 200) (hr : r.size ≤ 200) :
    Calls Try.prog 52 #[.string s, .string r] w fun e w' => e = .returned (.int .i64 (leastS s r (r.size + 1))) ∧ Below w.heap.size w w' := by
  refine (callsIn_wide (n := 6)).1 ?_
  refine callsIn_of_wp_marks Try.func52 rfl trivial ?_ rfl
  simp only [Try.ntmps52, List.size_toArray, List.length_cons, List.length_nil, Nat.reduceAdd, Nat.reduceSub, Array.replicate_succ, Array.replicate_zero, List.push_toArray, List.append_toArray, List.nil_append, List.cons_append]
  have hd1 : decide (200 < (s.size : Int)) = false := by simp; omega
  have hd2 : decide (200 < (r.size : Int)) = false := by simp; omega
  gi_wp2
  have v0 : ((w.alloc (.cells #[.string s] 9)).alloc (.cells #[.int .i64 (s.size : Int)] 2)).cell? ⟨w.heap.size, 0, none⟩ = some (.string s) := by go_simp
  have v1 : ((w.alloc (.cells #[.string s] 9)).alloc (.cells #[.int .i64 (s.size : Int)] 2)).cell? ⟨w.heap.size + 1, 0, none⟩ = some (.int .i64 (s.size : Int)) := by go_simp
  have vf : ((w.alloc (.cells #[.string s] 9)).alloc (.cells #[.int .i64 (s.size : Int)] 2)).frozen? ⟨w.heap.size + 1, 0, none⟩ = false := by go_simp
  have hVB : Below w.heap.size w ((w.alloc (.cells #[.string s] 9)).alloc (.cells #[.int .i64 (s.size : Int)] 2)) := (by repeat (first | exact Below.refl _ _ | assumption | (refine Below.drew ?_) | (refine below_drewN ?_ _) | (refine Below.alloc ?_ (by first | omega | (simp; done) | (simp; omega)) _) | (refine Below.setCell ?_ (by first | omega | (simp; done) | (simp; omega)) _)))
  have hV : ((w.alloc (.cells #[.string s] 9)).alloc (.cells #[.int .i64 (s.size : Int)] 2)).heap.size = w.heap.size + 1 + 1 := by simp
  generalize ((w.alloc (.cells #[.string s] 9)).alloc (.cells #[.int .i64 (s.size : Int)] 2)) = V at *
  have hbL : w.heap.size < w.heap.size + 1 := Nat.lt_succ_self _
  generalize w.heap.size + 1 = bL at *
  have hVl : bL < V.heap.size := by omega
  clear hV
  (first | refine ⟨trivial, fun h => (Bool.false_ne_true h).elim, ?_⟩ | refine ⟨trivial, ?_⟩)
  refine (callsIn_wide.2 (impl_columns s r 1 V)).mono ?_
  rintro e w1 ⟨rfl, rfl⟩
  obtain ⟨e1, e2, e3⟩ := heap_alloc3 V (.cells #[.string s] 9) (.cells #[.string r] 9) (.cells #[.int .i64 1] 2)
  have hBV : Below V.heap.size V (((V.alloc (.cells #[.string s] 9)).alloc (.cells #[.string r] 9)).alloc (.cells #[.int .i64 1] 2)) := (((Below.refl _ V).alloc (Nat.le_refl _) _).alloc (by simp) _).alloc (by simp; omega) _
  have hsz : (((V.alloc (.cells #[.string s] 9)).alloc (.cells #[.string r] 9)).alloc (.cells #[.int .i64 1] 2)).heap.size = V.heap.size + 3 := by simp
  have k2 : (((V.alloc (.cells #[.string s] 9)).alloc (.cells #[.string r] 9)).alloc (.cells #[.int .i64 1] 2)).cell? ⟨V.heap.size, 0, none⟩ = some (.string s) := by rw [cell_of_row _ _ 0 _ _ _ e1]; rfl
  have k3 : (((V.alloc (.cells #[.string s] 9)).alloc (.cells #[.string r] 9)).alloc (.cells #[.int .i64 1] 2)).cell? ⟨V.heap.size + 1, 0, none⟩ = some (.string r) := by rw [cell_of_row _ _ 0 _ _ _ e2]; rfl
  have k4 : (((V.alloc (.cells #[.string s] 9)).alloc (.cells #[.string r] 9)).alloc (.cells #[.int .i64 1] 2)).cell? ⟨V.heap.size + 2, 0, none⟩ = some (.int .i64 1) := by rw [cell_of_row _ _ 0 _ _ _ e3]; rfl
  generalize (((V.alloc (.cells #[.string s] 9)).alloc (.cells #[.string r] 9)).alloc (.cells #[.int .i64 1] 2)) = WR at *
  have k0 := (hBV.cell (p := ⟨w.heap.size, 0, none⟩) (by show w.heap.size < _; omega)).trans v0
  have k1 := (hBV.cell (p := ⟨bL, 0, none⟩) (by show bL < _; omega)).trans v1
  have g1 := (hBV.frozen (p := ⟨bL, 0, none⟩) (by show bL < _; omega)).trans vf
  have hBW := hVB.trans (hBV.mono hVB.size)
  have HSZ := Lib.hid hsz
  have hlV : V.heap.size < WR.heap.size := by omega
  clear hsz e1 e2 e3 v0 v1 vf
  gi_wp2
  refine range_law rfl (by omega) (gf := 92) (lb := #[boxV V.heap.size, boxV (V.heap.size + 1), boxV (V.heap.size + 2)]) rfl trivial (enters_of Try.func92 (by kernel_rfl) rfl)
    (columns_iter s r 1 V.heap.size (V.heap.size + 1) (V.heap.size + 2) _ (fun b => b < V.heap.size) WR hs hr (by decide) (by decide) k2 k3 k4 (by omega) (by omega) (by omega)) (fun x => rfl) (fun k x W l o o' h hl ho => handC_put _ _ _ k x W l o o' h hl ho)
    (fun k T W => (∀ b, T b ↔ b < V.heap.size) ∧ W.cell? ⟨bL, 0, none⟩ = some (.int .i64 (leastS s r k)) ∧ W.frozen? ⟨bL, 0, none⟩ = false ∧ W.cell? ⟨w.heap.size, 0, none⟩ = some (.string s) ∧ Below w.heap.size w W ∧ V.heap.size ≤ W.heap.size)
    ?hJ (fun b h => by omega) ⟨fun b => Iff.rfl, k1, g1, k0, hBW, by omega⟩ ?a1 ?assign ?body ?done
  case assign =>
    intro l x W K hK
    unfold encC
    gi_wp2
    exact hK
  case hJ =>
    rintro k T A B ⟨hT, c1, f1, c0, hb, hl⟩ hAB
    refine ⟨hT, (hAB.cell (p := ⟨bL, 0, none⟩) ((hT _).2 (by show bL < _; omega)) (by show bL < _; omega)).trans c1, (hAB.frozen (p := ⟨bL, 0, none⟩) ((hT _).2 (by show bL < _; omega)) (by show bL < _; omega)).trans f1, (hAB.cell (p := ⟨w.heap.size, 0, none⟩) ((hT _).2 (by show w.heap.size < _; omega)) (by show w.heap.size < _; omega)).trans c0, hb.trans (hAB.below hb.size fun b h => (hT b).2 (by omega)), Nat.le_trans hl hAB.size⟩
  case body =>
    rintro l k T ⟨x1, g, cap⟩ W hk ⟨hT, c1, f1, c0, hb, hl⟩ ⟨hx1, hcol⟩
    have hc := hcol (s).size (by omega)
    have hn1 : (((s).size : Nat) : Int) < (((s).size : Nat) : Int) + 1 := by omega
    have hbT : ¬ ¬ T bL := fun h => h ((hT bL).2 (by omega))
    have hst : leastS s r (k + 1) = if colAt s r 1 k s.size < leastS s r k then colAt s r 1 k s.size else leastS s r k := rfl
    have hcb := colAt_bnd s r (rise := 1) (by decide) (by decide) k s.size (by omega)
    have hlb := leastS_bnd s r k
    simp only at hc hx1
    subst hx1
    generalize colAt s r 1 x1 s.size = d at *
    generalize leastS s r x1 = m at *
    clear hcol
    have hbLW : bL < W.heap.size := by omega
    by_cases hlt2 : d < m
    · rw [if_pos hlt2] at hst
      have HS := Lib.hid hst
      clear hst
      gi_wp2
      gi_region
      all_goals
        gi_wp2
        refine ⟨T, ⟨hT, by rw [HS.out]; go_simp, by go_simp, by go_simp, (hb.drew).setCell (p := ⟨bL, 0, none⟩) (by show _ ≤ bL; omega) _, by simp [World.setCell]; omega⟩, ((On.refl _ W).drew).setCell (p := ⟨bL, 0, none⟩) hbT _, fun b hb2 => ⟨.inl hb2, ?_⟩⟩
        have := (hT b).1 hb2; simp [World.setCell]; omega
    · rw [if_neg hlt2] at hst
      have HS := Lib.hid hst
      clear hst
      gi_wp2
      gi_region
      all_goals
        gi_wp2
        refine ⟨T, ⟨hT, by rw [HS.out]; go_simp, by go_simp, by go_simp, (hb.drew).setCell (p := ⟨bL, 0, none⟩) (by show _ ≤ bL; omega) _, by simp [World.setCell]; omega⟩, ((On.refl _ W).drew).setCell (p := ⟨bL, 0, none⟩) hbT _, fun b hb2 => ⟨.inl hb2, ?_⟩⟩
        have := (hT b).1 hb2; simp [World.setCell]; omega
  case done =>
    rintro D T W hD hTD ⟨hT, c1, f1, c0, hb, hl⟩ hK
    gi_wp2
    refine ⟨by simp, .inl ⟨_, _, rfl, run_takeDeferred hK, ?_⟩⟩
    exact ⟨_, results_tmp rfl _ _ _, rfl, hb.trans (belowK_b (w := w) (Nat.le_refl _) W D _ _ (by omega) hK rfl rfl)⟩
set_option maxHeartbeats 1000000 in
theorem impl_startDist (s r : ByteArray) (w : World) (hs : s.size ≤ 1048576) (hr : r.size ≤ 1048576) :
    Calls Try.prog 52 #[.string s, .string r] w fun e w' => e = .returned (.int .i64 (startDI s r)) ∧ Below w.heap.size w w' := by
  by_cases h1 : s.size ≤ 200
  · have hd1 : decide (200 < (s.size : Int)) = false := by simp; omega
    by_cases h2 : r.size ≤ 200
    · rw [startDI_yes ⟨h1, h2⟩]
      exact impl_startDist_yes s r w h1 h2
    · have hd2 : decide (200 < (r.size : Int)) = true := by simp; omega
      rw [startDI_no (s := s) (r := r) (fun h => h2 h.2)]
      go_enter Try.func52, Try.ntmps52
      go_wp2
      refine bodyPost_ret (v := .int .i64 (-1)) (by simp [results, Try.results52, go_sem]) rfl ⟨rfl, (by repeat (first | exact Below.refl _ _ | assumption | (refine Below.drew ?_) | (refine below_drewN ?_ _) | (refine Below.alloc ?_ (by first | omega | (simp; done) | (simp; omega)) _) | (refine Below.setCell ?_ (by first | omega | (simp; done) | (simp; omega)) _)))⟩
  · have hd1 : decide (200 < (s.size : Int)) = true := by simp; omega
    rw [startDI_no (s := s) (r := r) (fun h => h1 h.1)]
    go_enter Try.func52, Try.ntmps52
    go_wp2
    refine bodyPost_ret (v := .int .i64 (-1)) (by simp [results, Try.results52, go_sem]) rfl ⟨rfl, (by repeat (first | exact Below.refl _ _ | assumption | (refine Below.drew ?_) | (refine below_drewN ?_ _) | (refine Below.alloc ?_ (by first | omega | (simp; done) | (simp; omega)) _) | (refine Below.setCell ?_ (by first | omega | (simp; done) | (simp; omega)) _)))⟩
end Go.Proofs.Ytpniiaemgobaiaa

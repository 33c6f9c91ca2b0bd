/-
  FnFewWords: the walk.
-/
import Derived.Test.YtgikjopmijomgabSameSpans
import Derived.Test.YtgikjopmijomgabWordsDraw
import Derived.Test.YtgikjopmijomgabL3Draw
import Derived.Test.YtgikjopmijomgabL19S
import Derived.Deep.RegionHeld3
namespace Go.Proofs.Ytgikjopmijomgab
open Go.RowKit
set_option linter.unusedVariables false
set_option maxRecDepth 100000
theorem wFrom_let (r : ByteArray) (k : Nat) : ∀ i, wFrom r k ≤ i → i < k → letAt r i = true := by
  induction k with
  | zero => intro i _ h; omega
  | succ k ih =>
    intro i h1 h2
    rw [wFrom] at h1
    cases hl : letAt r k
    · rw [hl] at h1; simp only [Bool.false_eq_true, if_false] at h1; omega
    · rw [hl] at h1; simp only [if_true] at h1
      by_cases e : i = k
      · rw [e]; exact hl
      · exact ih i h1 (by omega)
theorem wDone_let (r : ByteArray) (k : Nat) : ∀ x ∈ wDone r k, ∀ i, x.1 ≤ i → i < x.2 → letAt r i = true := by
  induction k with
  | zero => intro x h; simp [wDone] at h
  | succ k ih =>
    intro x h
    rw [wDone] at h
    cases hl : letAt r k
    · rw [hl] at h
      simp only [Bool.false_eq_true, if_false] at h
      split at h
      · rcases List.mem_append.1 h with h | h
        · exact ih x h
        · rw [List.mem_singleton] at h; subst h; exact wFrom_let r k
      · exact ih x h
    · rw [hl] at h; simp only [if_true] at h; exact ih x h
theorem words_let (r : ByteArray) : ∀ x ∈ wordsL r, ∀ i, x.1 ≤ i → i < x.2 → letAt r i = true := by
  intro x h
  unfold wordsL wTo at h
  split at h
  · rcases List.mem_append.1 h with h | h
    · exact wDone_let r _ x h
    · rw [List.mem_singleton] at h; subst h; exact wFrom_let r _
  · exact wDone_let r _ x h
theorem words_all (q : ByteArray) (h : ∀ i, i < q.size → letAt q i = true) (h0 : 0 < q.size) : wordsL q = [(0, q.size)] := by
  have hk : ∀ k, k ≤ q.size → wFrom q k = 0 ∧ wDone q k = [] := by
    intro k
    induction k with
    | zero => intro _; exact ⟨rfl, rfl⟩
    | succ k ih =>
      intro hk
      obtain ⟨h1, h2⟩ := ih (by omega)
      rw [wFrom, wDone, h k (by omega), h1, h2]
      exact ⟨rfl, rfl⟩
  obtain ⟨h1, h2⟩ := hk q.size (Nat.le_refl _)
  unfold wordsL wTo
  rw [h1, h2, if_pos h0]; rfl
theorem byteAt_cut (r : ByteArray) (x y i : Nat) (hy : y ≤ r.size) (h : x + i < y) : byteAt (r.extract x y) i = byteAt r (x + i) := by
  unfold byteAt
  rw [ByteArray.data_extract, Array.toList_extract]
  simp only [List.extract_eq_take_drop, List.getD_eq_getElem?_getD]
  rw [List.getElem?_take_of_lt (by omega), List.getElem?_drop]
theorem words_one (r : ByteArray) (x y : Nat) (h : (x, y) ∈ wordsL r) : wordsL (r.extract x y) = [(0, y - x)] := by
  have hl := wTo_lt r r.size (x, y) h
  simp only at hl
  have hz : (r.extract x y).size = y - x := by rw [ByteArray.size_extract]; omega
  have := words_all (r.extract x y) (fun i hi => by
    unfold letAt
    rw [byteAt_cut r x y i hl.2 (by omega)]
    exact words_let r (x, y) h (x + i) (by simp only; omega) (by simp only; omega)) (by omega)
  rw [this, hz]
set_option maxHeartbeats 4000000 in
theorem law_FnFewWords (a : Option Addr) (len cap : Nat) (z : List Int) (w : World) (hr : IsRow .u8 w a len cap z) :
    Calls Try.prog 4 #[.slice a len cap] w fun e w' => e = .returned (.bool true) ∧ Below w.heap.size w w' := by
  by_cases hl : len ≤ 1048576
  · have hbig : decide (1048576 < (len : Int)) = false := by simp; omega
    go_enter Try.func4, Try.ntmps4
    go_wp2_with (go_at_call 9; refine (laws_big _ _ _ _ (by omega)).mono ?_; rintro e w' ⟨rfl, rfl⟩)
    refine (drawWordsOf _ _ _ _ _ hr hl).mono ?_
    rintro e w1 ⟨s, rfl, hs, HB⟩
    have hs2 : s.size ≤ 1048576 := by omega
    have eV : wordsV s = wordsL s := if_pos (by omega)
    have hlen := wTo_len s s.size
    have hlen2 : 2 * (wordsL s).length ≤ s.size + 1 := hlen
    go_wp2_with fail
    refine (impl_wordsOf s _ hs2).mono ?_
    rintro e w2 ⟨a1, cap1, rfl, hG, hb2⟩
    rw [eV] at hG ⊢
    have HB := below_step HB hb2
    have HV := Lib.hid eV
    clear hb2 eV
    go_wp2_with fail
    refine (spec_wordsOf s _ hs2).mono ?_
    rintro e w3 ⟨a2, cap2, rfl, hZ, hb3⟩
    rw [HV.out] at hZ ⊢
    have hG := hG.kept hb3
    have HB := below_step HB hb3
    clear hb3
    obtain ⟨N, hN⟩ : ∃ N, (wordsL s).length = N := ⟨_, rfl⟩
    have hsl := spL_length (wordsL s)
    rw [hN] at hsl hG hZ hlen2 ⊢
    have HSL := Lib.hid hsl
    have HNN := Lib.hid hN
    have nw : IntKind.i64.wrap (2 * (N : Int)) = 2 * (N : Int) := by rw [IntKind.wrap_i64]; omega
    have sw : IntKind.i64.wrap ((s.size : Int) + 1) = (s.size : Int) + 1 := by rw [IntKind.wrap_i64]; omega
    have ng : decide ((s.size : Int) + 1 < 2 * (N : Int)) = false := by simp; omega
    clear hsl hN hlen
    go_wp2_with fail
    refine (laws_sameSpans _ _ _ _ _ _ _ HSL.out hG.ints hZ.ints (by omega)).mono ?_
    rintro e w4 ⟨rfl, hb4⟩
    have HG := Lib.hid (hG.kept hb4)
    have HB := below_step HB hb4
    clear hb4 hZ hG
    go_wp2
    go_loopw [5] (fun i wr => ∃ k : Nat, k ≤ N ∧ i = .int .i64 k ∧ Below w4.heap.size w4 wr)
      (fun i _ => N - (intOf i).toNat)
    case atStart => exact ⟨0, by omega, rfl, Below.refl _ _⟩
    case round =>
      obtain ⟨k, hk, rfl, hb⟩ := hrel
      by_cases hlt : k < N
      · have hlw : k < (wordsL s).length := by rw [HNN.out]; exact hlt
        obtain ⟨⟨x, y⟩, hx⟩ : ∃ x, (wordsL s)[k]? = some x := ⟨_, List.getElem?_eq_getElem hlw⟩
        have hmem : (x, y) ∈ wordsL s := List.mem_of_getElem? hx
        have hxy := wTo_lt s s.size (x, y) hmem
        simp only at hxy
        have hone := words_one s x y hmem
        have hsp := spL_at (wordsL s) k hlw
        rw [List.getD_eq_getElem?_getD, hx] at hsp
        dsimp only [Option.getD] at hsp
        obtain ⟨b, off, rfl, hp⟩ := (HG.out.ints.kept hb).at (k * 2) (by rw [HSL.out]; omega)
        have e0 := hp (k * 2) (by rw [HSL.out]; omega)
        have e1 := hp (k * 2 + 1) (by rw [HSL.out]; omega)
        rw [hsp.1] at e0
        rw [hsp.2] at e1
        rw [← Nat.add_assoc] at e1
        have hx1 : (x : Int) ≤ (y : Int) := by omega
        have hx0 : (0 : Int) ≤ (x : Int) := by omega
        have hy1 : (y : Int) ≤ (s.size : Int) := by omega
        have k0 : (0 : Int) ≤ (k : Int) := by omega
        have k1 : (k : Int) < (N : Int) := by omega
        have hXz : (s.extract x y).size ≤ 200 := by rw [ByteArray.size_extract]; omega
        have C1 := Lib.hid (fun W => impl_wordsOf (s.extract x y) W (by omega))
        have hV2 : wordsV (s.extract x y) = [(0, y - x)] := by rw [← hone]; exact if_pos hXz
        have C2 : Hid (∀ W, Calls Try.prog 11 #[.string (s.extract x y)] W fun e w' => ∃ a cap, e = .returned (.slice a 1 cap) ∧ OwnM 30 2 w' W.heap.size a 1 cap [0, ((y - x : Nat) : Int)] ∧ Below W.heap.size W w') := fun W => by
          have := C1.out W
          rw [hV2] at this
          exact this
        have hsub : IntKind.i64.wrap ((y : Int) - (x : Int)) = ((y - x : Nat) : Int) := by rw [IntKind.wrap_i64]; omega
        obtain ⟨d, hd⟩ : ∃ d, ((y - x : Nat) : Int) = d := ⟨_, rfl⟩
        rw [hd] at hsub C2
        have hSr := (⟨e0, e1⟩ : wr.cell? ⟨b, off + k * 2, none⟩ = some (.int .i64 (x : Int)) ∧ wr.cell? ⟨b, off + k * 2 + 1, none⟩ = some (.int .i64 (y : Int)))
        have bl0 := block_lt_of_cell e0
        simp only at bl0
        clear hp hsp hx hone hmem hV2 C1 hd hxy hlw
        go_wp2_with fail
        go_region_held3 (fun W => W.cell? ⟨b, off + k * 2, none⟩ = some (.int .i64 (x : Int)) ∧ W.cell? ⟨b, off + k * 2 + 1, none⟩ = some (.int .i64 (y : Int))) (first | with_reducible exact hSr | with_reducible exact hS2 | go_keep)
          (first | (go_at_call 11; with_reducible refine (C2.out _).mono ?_; rintro e w5 ⟨a5, cap5, rfl, hO5, hb5d⟩; have hb5 := below_undrew hb5d; have hS2 := (⟨(hb5.cell (p := ⟨b, off + k * 2, none⟩) bl0).trans e0, (hb5.cell (p := ⟨b, off + k * 2 + 1, none⟩) bl0).trans e1⟩ : w5.cell? ⟨b, off + k * 2, none⟩ = some (.int .i64 (x : Int)) ∧ w5.cell? ⟨b, off + k * 2 + 1, none⟩ = some (.int .i64 (y : Int)))))
        obtain ⟨f0, f1⟩ := hS2
        obtain ⟨g5, rfl, _, _⟩ := hO5.head 0 (by omega)
        have o0 := hO5.cell 0 (by omega)
        have o1 := hO5.cell 1 (by omega)
        have i0 : intAt [0, d] 0 = 0 := rfl
        have i1 : intAt [0, d] 1 = d := rfl
        rw [i0] at o0
        rw [i1] at o1
        have hbw := hb.trans (hb5.mono hb.size)
        clear hO5 hb5 hb5d hSr e0 e1 bl0 i0 i1 hb C2
        go_wp2_with fail
        go_quiet (fail)
        go_wp2
        go_roundw
        case rel => exact ⟨k + 1, by omega, by go_num, below_drewN hbw _⟩
        case measure => simp [intOf]; omega
      · obtain rfl : k = N := by omega
        have HBF := HB.trans (hb.mono HB.size)
        go_wp2
        go_ret
        exact ⟨rfl, HBF⟩
  · have hbig : decide (1048576 < (len : Int)) = true := by simp; omega
    go_enter Try.func4, Try.ntmps4
    go_wp2_with (go_at_call 9; go_in)
    go_ret
    exact ⟨rfl, Below.refl _ _⟩
end Go.Proofs.Ytgikjopmijomgab

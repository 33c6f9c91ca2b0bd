/-
  Chapter 5: RowsStep's model.
-/
import Derived.Test.YtglldmfhjipacaaL5StepB
import Derived.Test.YtglldmfhjipacaaL5OkS
import Derived.Test.YtglldmfhjipacaaL5New
namespace Go.Proofs.Ytglldmfhjipacaa
open Go.RowKit
set_option linter.unusedVariables false
set_option maxRecDepth 100000
theorem or4 (n y a c : Int) : bits .or .i64 (bits .or .i64 (bits .or .i64 n y) a) c = bits .or .i64 n (bits .or .i64 (bits .or .i64 y a) c) := by
  simp only [bits_or, bv_toInt, BitVec.or_assoc]
set_option maxHeartbeats 4000000 in
theorem spec_l5Step (s : ByteArray) (k : Int) (f : Bool) (L : List Int) (a : Option Addr) (n cap : Nat) (b : Int) (w : World) (hs : s.size ≤ 20) (hb0 : 0 ≤ b) (hb1 : b ≤ 255) (hn : L.length = n) (h : Ints w a L) (hlen : n ≤ 5) (hb : ∀ i, i < n → 0 ≤ intAt L i ∧ intAt L i ≤ 1048576) :
    Calls Try.prog 94 #[.agg #[.string s, .int .i64 k, .bool f], .agg #[.slice a n cap], .int .u8 b] w fun e w' => ∃ a' cap', e = .returned (.agg #[.slice a' n cap']) ∧ OwnN w' w.heap.size a' n cap' (tab (stepF (maskTo (maskG s f b) s.size) (2 ^ s.size - 1) (intAt L)) n) ∧ Below w.heap.size w w' := by
  obtain ⟨i0, hi, ht0, ht1, ht2⟩ := info_parts int_info
  have HN := Lib.hid hn; have HBB := Lib.hid hb
  have HSF := fun j => Lib.hid (stepF_range (maskTo (maskG s f b) s.size : Nat) hs (intAt L) j)
  clear hn hb
  go_enter Try.func94, Try.ntmps94
  go_wp2_with fail
  refine (spec_l1Mask s f b _ hs hb0 hb1).mono ?_
  rintro e w1 ⟨rfl, hb1'⟩
  obtain ⟨hc_w1, hf_w1⟩ := bcell hb1'; have HT_w1 : Below w.heap.size w w1 := below_step (by repeat (first | exact Below.refl _ _ | assumption | (refine Below.drew ?_) | (refine below_drewN ?_ _) | (refine Below.alloc ?_ (by first | omega | (simp; done) | (simp; omega)) _) | (refine Below.setCell ?_ (by first | omega | (simp; done) | (simp; omega)) _))) hb1'; have hy0_w1 : w.heap.size < w1.heap.size := (by have h1 := hb1'.size; (try simp at h1); omega); have hy1_w1 : w.heap.size + 1 < w1.heap.size := (by have h1 := hb1'.size; (try simp at h1); omega); have hy2_w1 : w.heap.size + 2 < w1.heap.size := (by have h1 := hb1'.size; (try simp at h1); omega)
  obtain ⟨mk, hmk⟩ : ∃ mk : Int, (maskTo (maskG s f b) s.size : Int) = mk := ⟨_, rfl⟩
  have HMK := Lib.hid hmk
  rw [hmk] at HSF ⊢
  clear hmk
  go_wp2_with fail
  refine (spec_l4Full s k f _ hs).mono ?_
  rintro e w2 ⟨rfl, hb2⟩
  obtain ⟨hc_w2, hf_w2⟩ := bcell hb2; have HT_w2 : Below w.heap.size w w2 := below_step (by repeat (first | exact Below.refl _ _ | assumption | (refine Below.drew ?_) | (refine below_drewN ?_ _) | (refine Below.alloc ?_ (by first | omega | (simp; done) | (simp; omega)) _) | (refine Below.setCell ?_ (by first | omega | (simp; done) | (simp; omega)) _))) hb2; have hy0_w2 : w.heap.size < w2.heap.size := (by have h1 := hb2.size; (try simp at h1); omega); have hy1_w2 : w.heap.size + 1 < w2.heap.size := (by have h1 := hb2.size; (try simp at h1); omega); have hy2_w2 : w.heap.size + 2 < w2.heap.size := (by have h1 := hb2.size; (try simp at h1); omega)
  have mR : w2.cell? ⟨w.heap.size + 1, 0, none⟩ = some (.slice a n cap) := by go_simp
  have mZ : w2.cell? ⟨w.heap.size + 2, 0, none⟩ = some (.slice none 0 0) := by go_simp
  have fZ : w2.frozen? ⟨w.heap.size + 2, 0, none⟩ = false := by go_simp
  have hI := h.kept HT_w2
  clear hc_w1 hf_w1 hc_w2 hf_w2 h
  go_wp2_with fail
  go_loopw [10] (fun x wr => ∃ (j : Nat) (v : Value), j ≤ n ∧ x = .int .i64 j ∧ wr.heap[w2.heap.size]? = some (.cells #[v] 63 (0, 0)) ∧ wr.ownsRow (w2.heap.size + 1) 2 1 v j ((tab (stepF mk (2 ^ s.size - 1) (intAt L)) j).map (Value.int .i64)) ∧ Below w2.heap.size w2 wr ∧ w2.heap.size + 1 ≤ wr.heap.size)
    (fun x _ => n - (intOf x).toNat)
  case atStart => exact ⟨0, .slice none 0 0, by omega, rfl, heap_alloc_new _ _, World.ownsRow_nil _ _ _ _, (by repeat (first | exact Below.refl _ _ | assumption | (refine Below.drew ?_) | (refine below_drewN ?_ _) | (refine Below.alloc ?_ (by first | omega | (simp; done) | (simp; omega)) _) | (refine Below.setCell ?_ (by first | omega | (simp; done) | (simp; omega)) _))), by simp⟩
  case round =>
    obtain ⟨j, v, hj, rfl, hg, hown, hb, hz⟩ := hrel
    have nR := (hb.cell (p := ⟨w.heap.size + 1, 0, none⟩) hy1_w2).trans mR
    have m2 : wr.cell? ⟨w2.heap.size, 0, none⟩ = some v := by rw [cell_of_row wr _ 0 _ _ _ hg]; rfl
    have f2 := frozen_of_row wr _ 0 _ _ hg
    by_cases hlt : j < n
    · obtain ⟨bb, off, rfl, hpp⟩ := (hI.kept hb).at j (by rw [HN.out]; exact hlt)
      have c0 := hpp j (by rw [HN.out]; exact hlt)
      obtain ⟨hx0, hx1⟩ := HBB.out j hlt
      have hx : ∃ x, intAt L j = x := ⟨_, rfl⟩
      obtain ⟨x, hx⟩ := hx
      rw [hx] at c0 hx0 hx1
      have HG := Lib.hid hg
      have h2b : w2.heap.size < wr.heap.size := by omega
      clear hg mR mZ fZ
      by_cases hj0 : j = 0
      · have HF := Lib.hid (show stepF mk (2 ^ s.size - 1) (intAt L) j = bits .and .i64 (bits .and .i64 (mvI x) mk) (2 ^ s.size - 1) by rw [← hx, hj0]; rfl)
        have hnp : ¬ (0 : Int) < (j : Int) := by omega
        have hnp2 : ¬ 0 < j := by omega
        have HO := Lib.hid hown
        clear hj0 hx hpp hI hown
        go_wp2_with (at_builtin; refine wpList_append_own _ rfl _ _ 61 rfl (w2.heap.size + 1) 2 i0 (.int .i64 0) 1 8 Try.underlying61 hi ht0 ht1 ht2 rfl (by decide) v _ _ rfl (HO.out.alloc _) ⟨wr.heap.size, 0, none⟩ 1 1 [.int .i64 (bits .and .i64 (bits .and .i64 (mvI x) mk) (2 ^ s.size - 1))] rfl rfl (one_new _ _ _) (int_one _) (by unfold maxLen; omega) (by omega) (by simp; omega) ?_; intro v' w3 hown' hg _; obtain ⟨g1, c1, rfl, hO1⟩ := OwnN.shape1 (own_snoc (w := w3) (B := w2.heap.size + 1) (v := v') (n := j) (f := stepF mk (2 ^ s.size - 1) (intAt L)) (by rw [HF.out]; exact hown')); have hB3 : Below (w2.heap.size + 1) wr w3 := (((Below.refl _ wr).alloc hz _).grown hg (by simp; omega) (fun q hq => (HO.out.lt q hq).1)); have m3 := (hB3.cell (p := ⟨w2.heap.size, 0, none⟩) (Nat.lt_succ_self _)).trans m2; have f3 := (hB3.frozen (p := ⟨w2.heap.size, 0, none⟩) (Nat.lt_succ_self _)).trans f2)
        have hg3 := (hB3.block w2.heap.size (Nat.lt_succ_self _)).trans HG.out
        go_roundw
        case rel =>
          refine ⟨j + 1, .slice (some ⟨g1, 0, none⟩) (j + 1) c1, by omega, by go_num, ?_, ?_, (hb.trans (hB3.mono (by omega))).setCell (by simp) _, ?_⟩
          · rw [heap_setCell_same _ _ _ _ _ _ hg3]; rfl
          · exact (hO1.kept_hi (grownBy_setCell1 _ _ _ _) (fun q hq => by cases hq; omega)).2
          · have := hB3.size; simp [World.setCell]; omega
        case measure => simp [intOf]; omega
      · obtain ⟨q, rfl⟩ : ∃ q, j = q + 1 := ⟨j - 1, by omega⟩
        have hq1 := hpp q (by rw [HN.out]; omega)
        obtain ⟨hy0, hy1⟩ := HBB.out q (by omega)
        obtain ⟨hz0, hz1⟩ := (HSF q).out
        obtain ⟨g0, cp0, rfl, hO0⟩ := OwnN.shape1 hown
        have hd := hO0.cell q (by omega)
        rw [intAt_tab _ _ _ (by omega)] at hd
        obtain ⟨y, hy⟩ : ∃ y, intAt L q = y := ⟨_, rfl⟩
        obtain ⟨z, hz9⟩ : ∃ z, stepF mk (2 ^ s.size - 1) (intAt L) q = z := ⟨_, rfl⟩
        rw [hy] at hq1 hy0 hy1
        rw [hz9] at hd hz0 hz1
        have HF := Lib.hid (show stepF mk (2 ^ s.size - 1) (intAt L) (q + 1) = bits .and .i64 (bits .or .i64 (bits .or .i64 (bits .or .i64 (bits .and .i64 (bits .or .i64 (x * 2) 1) mk) y) (bits .or .i64 (y * 2) 1)) (bits .or .i64 (z * 2) 1)) (2 ^ s.size - 1) by rw [or4, ← hx, ← hy, ← hz9]; rfl)
        have HO := Lib.hid hown
        have hp1 : (0 : Int) < ((q + 1 : Nat) : Int) := by omega
        have hp2 : 0 < q + 1 := by omega
        have hq4 : (q : Int) < (n : Int) := by omega
        have hq5 : q < n := by omega
        have i2 : q < q + 1 := by omega
        have i3 : (q : Int) < (q : Int) + 1 := by omega
        clear hx hy hz9 hown hpp hI hj0 hO0
        go_wp2_with fail
        go_quiet (fail)
        have hbq : Below (w2.heap.size + 1) wr (wr.drewN nq) := below_drewN (Below.refl _ _) _
        have hbq2 := below_drewN hb nq
        have hOd := Lib.hid (OwnN.kept ⟨tab_length _ _, HO.out⟩ (below_drewN (Below.refl wr.heap.size wr) nq))
        have hgd : (wr.drewN nq).heap[w2.heap.size]? = _ := HG.out
        have hzd : w2.heap.size + 1 ≤ (wr.drewN nq).heap.size := hz
        have m2d : (wr.drewN nq).cell? ⟨w2.heap.size, 0, none⟩ = _ := m2
        have f2d : (wr.drewN nq).frozen? ⟨w2.heap.size, 0, none⟩ = _ := f2
        generalize wr.drewN nq = wd at *
        clear HO HG m2 f2 hb
        go_wp2_with (at_builtin; refine wpList_append_own _ rfl _ _ 61 rfl (w2.heap.size + 1) 2 i0 (.int .i64 0) 1 8 Try.underlying61 hi ht0 ht1 ht2 rfl (by decide) (.slice (some ⟨g0, 0, none⟩) (q + 1) cp0) _ _ rfl (hOd.out.2.alloc _) ⟨wd.heap.size, 0, none⟩ 1 1 [.int .i64 (bits .and .i64 (bits .or .i64 (bits .or .i64 (bits .or .i64 (bits .and .i64 (bits .or .i64 (x * 2) 1) mk) y) (bits .or .i64 (y * 2) 1)) (bits .or .i64 (z * 2) 1)) (2 ^ s.size - 1))] rfl rfl (one_new _ _ _) (int_one _) (by unfold maxLen; omega) (by omega) (by simp; omega) ?_; intro v' w3 hown' hg _; obtain ⟨g1, c1, rfl, hO1⟩ := OwnN.shape1 (own_snoc (w := w3) (B := w2.heap.size + 1) (v := v') (n := q + 1) (f := stepF mk (2 ^ s.size - 1) (intAt L)) (by rw [HF.out]; exact hown')); have hB3 : Below (w2.heap.size + 1) wd w3 := (((Below.refl _ wd).alloc hzd _).grown hg (by simp; omega) (fun q hq => (hOd.out.2.lt q hq).1)); have m3 := (hB3.cell (p := ⟨w2.heap.size, 0, none⟩) (Nat.lt_succ_self _)).trans m2d; have f3 := (hB3.frozen (p := ⟨w2.heap.size, 0, none⟩) (Nat.lt_succ_self _)).trans f2d)
        have hg3 := (hB3.block w2.heap.size (Nat.lt_succ_self _)).trans hgd
        go_roundw
        case rel =>
          refine ⟨q + 1 + 1, .slice (some ⟨g1, 0, none⟩) (q + 1 + 1) c1, by omega, by go_num, ?_, ?_, (hbq2.trans (hB3.mono (by omega))).setCell (by simp) _, ?_⟩
          · rw [heap_setCell_same _ _ _ _ _ _ hg3]; rfl
          · exact (hO1.kept_hi (grownBy_setCell1 _ _ _ _) (fun q hq => by cases hq; omega)).2
          · have := hB3.size; simp [World.setCell]; omega
        case measure => simp [intOf]; omega
    · obtain rfl : j = n := by omega
      obtain ⟨a2, cap2, rfl, hO2⟩ := OwnN.shape hown
      have nZ := (hb.cell (p := ⟨w.heap.size + 2, 0, none⟩) hy2_w2).trans mZ
      have gZ := (hb.frozen (p := ⟨w.heap.size + 2, 0, none⟩) hy2_w2).trans fZ
      go_wp2_with fail
      exact bodyPost_ret (v := .agg #[.slice a2 j cap2]) (by simp [results, Try.results94, go_sem, nZ]) rfl ⟨_, _, rfl, by rw [HMK.out]; exact (hO2.kept_hi (grownBy_setCell1 _ (w.heap.size + 2) 0 (.slice a2 j cap2)) (fun q hq => by cases hq; omega)).mono (by omega), (HT_w2.trans (hb.mono (by omega))).setCell (p := ⟨w.heap.size + 2, 0, none⟩) (by simp) _⟩
end Go.Proofs.Ytglldmfhjipacaa

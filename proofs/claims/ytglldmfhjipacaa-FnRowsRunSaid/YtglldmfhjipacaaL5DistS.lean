/-
  Chapter 5: RowsDist's model.
-/
import Derived.Test.YtglldmfhjipacaaL5DistB
import Derived.Test.YtglldmfhjipacaaL5OkS
namespace Go.Proofs.Ytglldmfhjipacaa
open Go.RowKit
set_option linter.unusedVariables false
set_option maxRecDepth 100000
theorem top_bit {x : Int} {n : Nat} (h0 : 0 ≤ x) (h1 : x ≤ 2 ^ n - 1) (hn : 1 ≤ n) : (x / 2 ^ (n - 1) = 1 ↔ bitI x (n - 1) = 1) := by
  obtain ⟨m, rfl⟩ : ∃ m, n = m + 1 := ⟨n - 1, by omega⟩
  simp only [Nat.add_sub_cancel]
  unfold bitI
  have hp : (0 : Int) < 2 ^ m := Int.pow_pos (by decide)
  rw [Int.pow_succ] at h1
  have hlt : x / 2 ^ m < 2 := Int.ediv_lt_of_lt_mul hp (by omega)
  have hge : 0 ≤ x / 2 ^ m := Int.ediv_nonneg h0 (by omega)
  omega
set_option maxHeartbeats 4000000 in
theorem spec_rowsDist (s : ByteArray) (k : Int) (f : Bool) (L : List Int) (a : Option Addr) (n cap : Nat) (w : World) (hs : s.size ≤ 1048576) (hn : L.length = n) (h : Ints w a L) (hlen : n ≤ 1048577) (hwf : ∀ i, i < n → I64 (intAt L i)) :
    Calls Try.prog 56 #[.agg #[.string s, .int .i64 k, .bool f], .agg #[.slice a n cap]] w fun e w' => e = .returned (.int .i64 (rowsDistI s k L)) ∧ Below w.heap.size w w' := by
  cases hok : rowsOkB s k L
  · have HR := Lib.hid (show rowsDistI s k L = -1 by unfold rowsDistI; rw [hok]; rfl)
    have HO := Lib.hid hok; clear hok
    have HN := Lib.hid hn; clear hn
    go_enter Try.func56, Try.ntmps56
    go_wp2_with fail
    refine (spec_rowsOk s k f L a n cap _ hs HN.out (h.kept (by repeat (first | exact Below.refl _ _ | assumption | (refine Below.drew ?_) | (refine below_drewN ?_ _) | (refine Below.alloc ?_ (by first | omega | (simp; done) | (simp; omega)) _) | (refine Below.setCell ?_ (by first | omega | (simp; done) | (simp; omega)) _)))) hlen hwf).mono ?_
    rintro e w1 ⟨rfl, hb1⟩
    rw [HO.out]
    obtain ⟨hc_w1, hf_w1⟩ := bcell hb1; have HT_w1 : Below w.heap.size w w1 := below_step (by repeat (first | exact Below.refl _ _ | assumption | (refine Below.drew ?_) | (refine below_drewN ?_ _) | (refine Below.alloc ?_ (by first | omega | (simp; done) | (simp; omega)) _) | (refine Below.setCell ?_ (by first | omega | (simp; done) | (simp; omega)) _))) hb1; have hz_w_w1 : w.heap.size < w1.heap.size := (by have h1 := hb1.size; (try simp at h1); omega)
    go_wp2_with fail
    go_ret
    exact ⟨by rw [HR.out]; rfl, HT_w1⟩
  · obtain ⟨hs1, hb⟩ := rowsOk_bound hok hwf hn
    have hx : ∀ j, j < n → intAt L j ≤ 2 ^ s.size - 1 := by
      intro j hj
      have hr := hok
      unfold rowsOkB at hr
      simp only [Bool.and_eq_true, decide_eq_true_eq] at hr
      have hg := rowsTo_at hr.2 j (by omega)
      unfold rowGood at hg
      simp only [Bool.and_eq_true, decide_eq_true_eq] at hg
      exact ((andNot_low (hwf j hj) (by omega)).1 hg.1).2
    have hnk : (n : Int) = k + 1 := by
      have hr := hok
      unfold rowsOkB at hr
      simp only [Bool.and_eq_true, decide_eq_true_eq] at hr
      rw [← hn]; exact hr.1.2
    obtain ⟨hs0, _, hk0, hk1⟩ : 1 ≤ s.size ∧ s.size ≤ 20 ∧ 0 ≤ k ∧ k ≤ 4 := by
      have hr := hok
      unfold rowsOkB at hr
      simp only [Bool.and_eq_true, decide_eq_true_eq] at hr
      exact (patOk_iff s k).1 hr.1.1
    have HR := Lib.hid (show rowsDistI s k L = leastI (intAt L) (s.size - 1) n (n - 0) by
      obtain ⟨q, hq⟩ : ∃ q, s.size = q + 1 := ⟨s.size - 1, by omega⟩
      unfold rowsDistI; rw [hok, hn, hq]; rfl)
    have HO := Lib.hid hok; clear hok
    have HN := Lib.hid hn; clear hn
    go_enter Try.func56, Try.ntmps56
    go_wp2_with fail
    refine (spec_rowsOk s k f L a n cap _ hs HN.out (h.kept (by repeat (first | exact Below.refl _ _ | assumption | (refine Below.drew ?_) | (refine below_drewN ?_ _) | (refine Below.alloc ?_ (by first | omega | (simp; done) | (simp; omega)) _) | (refine Below.setCell ?_ (by first | omega | (simp; done) | (simp; omega)) _)))) hlen hwf).mono ?_
    rintro e w1 ⟨rfl, hb1⟩
    rw [HO.out]
    obtain ⟨hc_w1, hf_w1⟩ := bcell hb1; have HT_w1 : Below w.heap.size w w1 := below_step (by repeat (first | exact Below.refl _ _ | assumption | (refine Below.drew ?_) | (refine below_drewN ?_ _) | (refine Below.alloc ?_ (by first | omega | (simp; done) | (simp; omega)) _) | (refine Below.setCell ?_ (by first | omega | (simp; done) | (simp; omega)) _))) hb1; have hz_w_w1 : w.heap.size < w1.heap.size := (by have h1 := hb1.size; (try simp at h1); omega)
    go_wp2_with fail
    have hz1 : w.heap.size + 1 < w1.heap.size := by have h1 := hb1.size; (try simp at h1); omega
    have m0 : w1.cell? ⟨w.heap.size, 0, none⟩ = some (.string s) := by go_simp
    have m1 : w1.cell? ⟨w.heap.size, 1, none⟩ = some (.int .i64 k) := by go_simp
    have m3 : w1.cell? ⟨w.heap.size + 1, 0, none⟩ = some (.slice a n cap) := by go_simp
    have hI := h.kept HT_w1
    have HX := Lib.hid hx; have HB := Lib.hid hb; have HK := Lib.hid hnk
    clear h hx hb hnk hc_w1 hf_w1
    go_loopw [5] (fun i wr => ∃ j : Nat, j ≤ n ∧ i = .int .i64 j ∧ leastI (intAt L) (s.size - 1) n (n - 0) = leastI (intAt L) (s.size - 1) n (n - j) ∧ Below w1.heap.size w1 wr)
      (fun i _ => n - (intOf i).toNat)
    case atStart => exact ⟨0, by omega, rfl, rfl, Below.refl _ _⟩
    case round =>
      obtain ⟨j, hj, rfl, hl, hb⟩ := hrel
      have n0 := (hb.cell (p := ⟨w.heap.size, 0, none⟩) hz_w_w1).trans m0
      have n1 := (hb.cell (p := ⟨w.heap.size, 1, none⟩) hz_w_w1).trans m1
      have n3 := (hb.cell (p := ⟨w.heap.size + 1, 0, none⟩) hz1).trans m3
      clear m0 m1 m3
      have HL := Lib.hid hl; clear hl
      have HT := HT_w1.trans (hb.mono HT_w1.size)
      by_cases hlt : j < n
      · obtain ⟨b, off, rfl, hpp⟩ := (hI.kept hb).at j (by rw [HN.out]; exact hlt)
        have c0 := hpp j (by rw [HN.out]; exact hlt)
        obtain ⟨hx0, hx1⟩ := HB.out j hlt
        have hx2 := top_bit hx0 (HX.out j hlt) hs0
        have HY := fun h => Lib.hid (leastI_yes (C := intAt L) (p := s.size - 1) hlt h)
        have HNo := fun h => Lib.hid (leastI_no (C := intAt L) (p := s.size - 1) hlt h)
        clear hpp hI
        obtain ⟨x, hx⟩ : ∃ x, intAt L j = x := ⟨_, rfl⟩
        rw [hx] at c0 HY HNo hx0 hx1 hx2
        clear hx
        by_cases hbit : x / 2 ^ (s.size - 1) = 1
        · have HY2 := HY (hx2.1 hbit)
          have b1 : (x / 2 ^ (s.size - 1) == 1) = true := by simp [hbit]
          clear HY HNo hx2
          go_wp2_with fail
          go_quiet (fail)
          have hnq : Below w.heap.size w (wr.drewN nq) := below_drewN HT _
          go_wp2_with fail
          go_ret
          exact ⟨by rw [HR.out, HL.out, HY2.out]; rfl, hnq⟩
        · have HN2 := HNo (fun h => hbit (hx2.2 h))
          have b1 : (x / 2 ^ (s.size - 1) == 1) = false := by simp [hbit]
          clear HY HNo hx2 hbit
          go_wp2_with fail
          go_quiet (fail)
          have hnq : Below w1.heap.size w1 (wr.drewN nq) := below_drewN hb _
          go_wp2_with fail
          go_roundw
          case rel => exact ⟨j + 1, by omega, by go_num, by rw [HL.out, HN2.out], hnq⟩
          case measure => simp [intOf]; omega
      · obtain rfl : j = n := by omega
        have hz : leastI (intAt L) (s.size - 1) j (j - j) = j := by rw [Nat.sub_self]; rfl
        have HZ := Lib.hid hz; clear hz
        go_wp2_with fail
        go_ret
        exact ⟨by rw [HR.out, HL.out, HZ.out, HK.out]; rfl, by first | assumption | exact HT⟩
end Go.Proofs.Ytglldmfhjipacaa

/-
  Chapter 6: contracts of CutOk, in the program.
-/
import Derived.Test.YtglldmfhjipacaaCutLaw
import Derived.Test.YtglldmfhjipacaaL3Ok
namespace Go.Proofs.Ytglldmfhjipacaa
open Go.RowKit
set_option linter.unusedVariables false
set_option maxRecDepth 100000
def allLe (L : List Int) (m : Int) : Nat → Bool
  | 0 => true
  | j + 1 => allLe L m j && decide (intAt L j ≤ m)
theorem allLe_at {L : List Int} {m : Int} {n : Nat} (h : allLe L m n = true) : ∀ i, i < n → intAt L i ≤ m := by
  induction n with
  | zero => intro i hi; omega
  | succ n ih =>
    simp only [allLe, Bool.and_eq_true, decide_eq_true_eq] at h
    intro i hi
    by_cases e : i = n
    · subst e; exact h.2
    · exact ih h.1 i (by omega)
theorem allLe_no {L : List Int} {m : Int} {j n : Nat} (h : ¬ intAt L j ≤ m) (hj : j < n) : allLe L m n = false := by
  cases e : allLe L m n
  · rfl
  · exact absurd (allLe_at e j hj) h
theorem allLe_succ {L : List Int} {m : Int} {j : Nat} (h : allLe L m j = true) (h2 : intAt L j ≤ m) : allLe L m (j + 1) = true := by simp [allLe, h, h2]
/-- what the last number of what is cut off must be -/
def lastOkB (s : ByteArray) (k : Int) (L : List Int) (x : Nat) : Bool := decide (intAt L x = k) || (decide (intAt L x < k) && decide ((x : Int) = s.size))
def cutOkB (s : ByteArray) (k : Int) (L : List Int) (x : Int) : Bool :=
  patOk s k && (decide (0 ≤ x) && decide (x ≤ s.size)) && decide ((L.length : Int) = x + 1) && stepsB L L.length && allLe L (k + 1) L.length && lastOkB s k L x.toNat
theorem cutOkB_iff {s : ByteArray} {k : Int} {L : List Int} {x : Int} : cutOkB s k L x = true ↔ patOk s k = true ∧ 0 ≤ x ∧ x ≤ s.size ∧ (L.length : Int) = x + 1 ∧ stepsB L L.length = true ∧ allLe L (k + 1) L.length = true ∧ lastOkB s k L x.toNat = true := by
  simp [cutOkB, and_assoc]
theorem cutOkB_no {s : ByteArray} {k : Int} {L : List Int} {x : Int} (h : ¬ (patOk s k = true ∧ 0 ≤ x ∧ x ≤ s.size ∧ (L.length : Int) = x + 1 ∧ stepsB L L.length = true ∧ allLe L (k + 1) L.length = true ∧ lastOkB s k L x.toNat = true)) : cutOkB s k L x = false := by
  cases e : cutOkB s k L x
  · rfl
  · exact absurd (cutOkB_iff.1 e) h
set_option maxHeartbeats 2000000 in
theorem impl_cutRight (s : ByteArray) (k : Int) (f : Bool) (L : List Int) (x : Int) (a : Option Addr) (n cap : Nat) (w : World) (hs : s.size ≤ 1048576) (hn : L.length = n) (h : Ints w a L) (hlen : n ≤ 1048577) (hx : -9223372036854775808 ≤ x ∧ x ≤ 9223372036854775807) :
    Calls Try.prog 115 #[.agg #[.slice a n cap, .int .i64 x], .agg #[.string s, .int .i64 k, .bool f]] w fun e w' => e = .returned (.bool (cutOkB s k L x)) ∧ Below w.heap.size w w' := by
  obtain ⟨hx0, hx1⟩ := hx
  cases hp : patOk s k
  · have HR := Lib.hid (show cutOkB s k L x = false by unfold cutOkB; rw [hp]; rfl)
    have HP := Lib.hid hp; clear hp
    go_enter Try.func115, Try.ntmps115
    go_wp2_with fail
    refine (impl_patternOk _ _ _ _ (by omega)).mono ?_
    rintro e w1 ⟨rfl, hb1⟩; rw [HP.out]
    obtain ⟨hc_w1, hf_w1⟩ := bcell hb1; have HT_w1 : Below w.heap.size w w1 := below_step (by repeat (first | exact Below.refl _ _ | assumption | (refine Below.drew ?_) | (refine below_drewN ?_ _) | (refine Below.alloc ?_ (by first | omega | (simp; done) | (simp; omega)) _) | (refine Below.setCell ?_ (by first | omega | (simp; done) | (simp; omega)) _))) hb1; have hy0_w1 : w.heap.size < w1.heap.size := (by have h1 := hb1.size; (try simp at h1); omega); have hy1_w1 : w.heap.size + 1 < w1.heap.size := (by have h1 := hb1.size; (try simp at h1); omega)
    go_wp2_with fail
    go_ret
    exact ⟨by rw [HR.out]; rfl, HT_w1⟩
  · obtain ⟨hs0, hs1, hk0, hk1⟩ := (patOk_iff s k).1 hp
    have HP := Lib.hid hp
    by_cases hA : 0 ≤ x ∧ x ≤ s.size ∧ (n : Int) = x + 1
    · obtain ⟨hx2, hx3, hx4⟩ := hA
      obtain ⟨q, rfl⟩ := Int.eq_ofNat_of_zero_le hx2
      have hq : n = q + 1 := by omega
      subst hq
      have hl2 : (((q + 1 : Nat) : Int) != (q : Int) + 1) = false := by simp
      have hl3 : ((q : Int) + 1 != (q : Int) + 1) = false := by simp
      have HN := Lib.hid hn
      have h0a : ¬ ((q : Int) < 0) := by omega
      have h0b : (q : Int) ≤ (s.size : Int) := hx3
      cases hst : stepsB L (q + 1)
      · have HR := Lib.hid (show cutOkB s k L q = false from cutOkB_no (fun h => by rw [hn, hst] at h; exact absurd h.2.2.2.2.1 (by decide)))
        have HS := Lib.hid hst
        clear hp hst hn hx4 hx0 hx1
        go_enter Try.func115, Try.ntmps115
        go_wp2_with fail
        refine (impl_patternOk _ _ _ _ (by omega)).mono ?_
        rintro e w1 ⟨rfl, hb1⟩; rw [HP.out]
        obtain ⟨hc_w1, hf_w1⟩ := bcell hb1; have HT_w1 : Below w.heap.size w w1 := below_step (by repeat (first | exact Below.refl _ _ | assumption | (refine Below.drew ?_) | (refine below_drewN ?_ _) | (refine Below.alloc ?_ (by first | omega | (simp; done) | (simp; omega)) _) | (refine Below.setCell ?_ (by first | omega | (simp; done) | (simp; omega)) _))) hb1; have hy0_w1 : w.heap.size < w1.heap.size := (by have h1 := hb1.size; (try simp at h1); omega); have hy1_w1 : w.heap.size + 1 < w1.heap.size := (by have h1 := hb1.size; (try simp at h1); omega)
        go_wp2_with fail
        refine (impl_stepsOk L a (q + 1) cap _ HN.out (h.kept HT_w1) hlen).mono ?_
        rintro e w2 ⟨rfl, hb2⟩; rw [HS.out]
        obtain ⟨hc_w2, hf_w2⟩ := bcell hb2; have HT_w2 : Below w.heap.size w w2 := below_step (by repeat (first | exact Below.refl _ _ | assumption | (refine Below.drew ?_) | (refine below_drewN ?_ _) | (refine Below.alloc ?_ (by first | omega | (simp; done) | (simp; omega)) _) | (refine Below.setCell ?_ (by first | omega | (simp; done) | (simp; omega)) _))) hb2; have hy0_w2 : w.heap.size < w2.heap.size := (by have h1 := hb2.size; (try simp at h1); omega); have hy1_w2 : w.heap.size + 1 < w2.heap.size := (by have h1 := hb2.size; (try simp at h1); omega)
        go_wp2_with fail
        go_ret
        exact ⟨by rw [HR.out]; rfl, HT_w2⟩
      · have HS := Lib.hid hst
        have HR := Lib.hid (show cutOkB s k L q = (allLe L (k + 1) (q + 1) && lastOkB s k L q) by
          unfold cutOkB
          rw [hp, hn, hst]
          simp [hx3])
        clear hp hst hn hx4 hx0 hx1
        go_enter Try.func115, Try.ntmps115
        go_wp2_with fail
        refine (impl_patternOk _ _ _ _ (by omega)).mono ?_
        rintro e w1 ⟨rfl, hb1⟩; rw [HP.out]
        obtain ⟨hc_w1, hf_w1⟩ := bcell hb1; have HT_w1 : Below w.heap.size w w1 := below_step (by repeat (first | exact Below.refl _ _ | assumption | (refine Below.drew ?_) | (refine below_drewN ?_ _) | (refine Below.alloc ?_ (by first | omega | (simp; done) | (simp; omega)) _) | (refine Below.setCell ?_ (by first | omega | (simp; done) | (simp; omega)) _))) hb1; have hy0_w1 : w.heap.size < w1.heap.size := (by have h1 := hb1.size; (try simp at h1); omega); have hy1_w1 : w.heap.size + 1 < w1.heap.size := (by have h1 := hb1.size; (try simp at h1); omega)
        go_wp2_with fail
        refine (impl_stepsOk L a (q + 1) cap _ HN.out (h.kept HT_w1) hlen).mono ?_
        rintro e w2 ⟨rfl, hb2⟩; rw [HS.out]
        obtain ⟨hc_w2, hf_w2⟩ := bcell hb2; have HT_w2 : Below w.heap.size w w2 := below_step (by repeat (first | exact Below.refl _ _ | assumption | (refine Below.drew ?_) | (refine below_drewN ?_ _) | (refine Below.alloc ?_ (by first | omega | (simp; done) | (simp; omega)) _) | (refine Below.setCell ?_ (by first | omega | (simp; done) | (simp; omega)) _))) hb2; have hy0_w2 : w.heap.size < w2.heap.size := (by have h1 := hb2.size; (try simp at h1); omega); have hy1_w2 : w.heap.size + 1 < w2.heap.size := (by have h1 := hb2.size; (try simp at h1); omega)
        have m1 : w2.cell? ⟨w.heap.size + 1, 1, none⟩ = some (.int .i64 k) := by go_simp
        have m0 : w2.cell? ⟨w.heap.size + 1, 0, none⟩ = some (.string s) := by go_simp
        have r0 : w2.cell? ⟨w.heap.size, 0, none⟩ = some (.slice a (q + 1) cap) := by go_simp
        have r1 : w2.cell? ⟨w.heap.size, 1, none⟩ = some (.int .i64 q) := by go_simp
        have hI := h.kept HT_w2
        clear h hc_w1 hc_w2 hf_w1 hf_w2
        go_wp2_with fail
        go_loopw [42] (fun i wr => ∃ j : Nat, j ≤ q + 1 ∧ i = .int .i64 j ∧ allLe L (k + 1) j = true ∧ w2 = wr)
          (fun i _ => q + 1 - (intOf i).toNat)
        case atStart => exact ⟨0, by omega, rfl, rfl, rfl⟩
        case round =>
          obtain ⟨j, hj, rfl, hal, rfl⟩ := hrel
          by_cases hlt : j < q + 1
          · obtain ⟨b, off, rfl, hpp⟩ := hI.at j (by rw [HN.out]; exact hlt)
            have c0 := hpp j (by rw [HN.out]; exact hlt)
            clear hpp hI
            by_cases hle : intAt L j ≤ k + 1
            · have HA := Lib.hid (allLe_succ hal hle)
              clear hal
              generalize intAt L j = y at *
              go_wp2
              go_roundw
              case rel => exact ⟨j + 1, by omega, by go_num, HA.out, by first | rfl | trivial⟩
              case measure => simp [intOf]; omega
            · have HNo := Lib.hid (allLe_no hle hlt)
              clear hal
              have hgt : k + 1 < intAt L j := by omega
              clear hle
              generalize intAt L j = y at *
              go_wp2
              go_ret
              exact ⟨by rw [HR.out, HNo.out]; rfl, HT_w2⟩
          · obtain rfl : j = q + 1 := by omega
            obtain ⟨b, off, rfl, hpp⟩ := hI.at q (by rw [HN.out]; omega)
            have c0 := hpp q (by rw [HN.out]; omega)
            have HA := Lib.hid hal
            have hLast : lastOkB s k L q = (decide (intAt L q = k) || (decide (intAt L q < k) && decide ((q : Int) = s.size))) := rfl
            have q1 : (q : Int) < (q : Int) + 1 := by omega
            have q2 : q < q + 1 := by omega
            have q3 : (0 : Int) ≤ (q : Int) := by omega
            clear hpp hI hal
            generalize intAt L q = y at *
            have HL := Lib.hid hLast; clear hLast
            by_cases e1 : y = k
            · have b1 : (y == k) = true := by simp [e1]
              have HF := Lib.hid (show lastOkB s k L q = true by rw [HL.out]; simp [e1])
              clear e1
              go_wp2
              go_ret
              exact ⟨by rw [HR.out, HA.out, HF.out]; rfl, HT_w2⟩
            · have b1 : (y == k) = false := by simp [e1]
              by_cases e2 : y < k
              · by_cases e3 : (q : Int) = s.size
                · have b3 : ((q : Int) == (s.size : Int)) = true := by simp [e3]
                  have HF := Lib.hid (show lastOkB s k L q = true by rw [HL.out]; simp [e2, e3])
                  clear e1 e3
                  go_wp2
                  go_ret
                  exact ⟨by rw [HR.out, HA.out, HF.out]; rfl, HT_w2⟩
                · have b3 : ((q : Int) == (s.size : Int)) = false := by simpa using e3
                  have HF := Lib.hid (show lastOkB s k L q = false by rw [HL.out]; simp [e1, e3])
                  clear e1 e3
                  go_wp2
                  go_ret
                  exact ⟨by rw [HR.out, HA.out, HF.out]; rfl, HT_w2⟩
              · have HF := Lib.hid (show lastOkB s k L q = false by rw [HL.out]; simp [e1, e2])
                clear e1
                go_wp2
                go_ret
                exact ⟨by rw [HR.out, HA.out, HF.out]; rfl, HT_w2⟩
    · have HR := Lib.hid (show cutOkB s k L x = false from cutOkB_no (fun h => hA ⟨h.2.1, h.2.2.1, by rw [← hn]; exact h.2.2.2.1⟩))
      have HP2 := HP
      clear hp
      by_cases c1 : x < 0
      · go_enter Try.func115, Try.ntmps115
        go_wp2_with fail
        refine (impl_patternOk _ _ _ _ (by omega)).mono ?_
        rintro e w1 ⟨rfl, hb1⟩; rw [HP.out]
        obtain ⟨hc_w1, hf_w1⟩ := bcell hb1; have HT_w1 : Below w.heap.size w w1 := below_step (by repeat (first | exact Below.refl _ _ | assumption | (refine Below.drew ?_) | (refine below_drewN ?_ _) | (refine Below.alloc ?_ (by first | omega | (simp; done) | (simp; omega)) _) | (refine Below.setCell ?_ (by first | omega | (simp; done) | (simp; omega)) _))) hb1; have hy0_w1 : w.heap.size < w1.heap.size := (by have h1 := hb1.size; (try simp at h1); omega); have hy1_w1 : w.heap.size + 1 < w1.heap.size := (by have h1 := hb1.size; (try simp at h1); omega)
        clear hA
        go_wp2_with fail
        go_ret
        exact ⟨by rw [HR.out]; rfl, HT_w1⟩
      · by_cases c2 : (s.size : Int) < x
        · go_enter Try.func115, Try.ntmps115
          go_wp2_with fail
          refine (impl_patternOk _ _ _ _ (by omega)).mono ?_
          rintro e w1 ⟨rfl, hb1⟩; rw [HP.out]
          obtain ⟨hc_w1, hf_w1⟩ := bcell hb1; have HT_w1 : Below w.heap.size w w1 := below_step (by repeat (first | exact Below.refl _ _ | assumption | (refine Below.drew ?_) | (refine below_drewN ?_ _) | (refine Below.alloc ?_ (by first | omega | (simp; done) | (simp; omega)) _) | (refine Below.setCell ?_ (by first | omega | (simp; done) | (simp; omega)) _))) hb1; have hy0_w1 : w.heap.size < w1.heap.size := (by have h1 := hb1.size; (try simp at h1); omega); have hy1_w1 : w.heap.size + 1 < w1.heap.size := (by have h1 := hb1.size; (try simp at h1); omega)
          clear hA
          go_wp2_with fail
          go_ret
          exact ⟨by rw [HR.out]; rfl, HT_w1⟩
        · have c3 : ((n : Int) != x + 1) = true := by simp; omega
          clear hA
          go_enter Try.func115, Try.ntmps115
          go_wp2_with fail
          refine (impl_patternOk _ _ _ _ (by omega)).mono ?_
          rintro e w1 ⟨rfl, hb1⟩; rw [HP.out]
          obtain ⟨hc_w1, hf_w1⟩ := bcell hb1; have HT_w1 : Below w.heap.size w w1 := below_step (by repeat (first | exact Below.refl _ _ | assumption | (refine Below.drew ?_) | (refine below_drewN ?_ _) | (refine Below.alloc ?_ (by first | omega | (simp; done) | (simp; omega)) _) | (refine Below.setCell ?_ (by first | omega | (simp; done) | (simp; omega)) _))) hb1; have hy0_w1 : w.heap.size < w1.heap.size := (by have h1 := hb1.size; (try simp at h1); omega); have hy1_w1 : w.heap.size + 1 < w1.heap.size := (by have h1 := hb1.size; (try simp at h1); omega)
          go_wp2_with fail
          go_ret
          exact ⟨by rw [HR.out]; rfl, HT_w1⟩
end Go.Proofs.Ytglldmfhjipacaa

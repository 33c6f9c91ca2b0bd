/-
  Chapter 17: FoundOk, in the program (by slices.ContainsFunc) and in its model.
-/
import Derived.Test.YtpniiaemgobaiacL3Ok
import Derived.Test.YtpniiaemgobaiacStructs
import Derived.Deep.RegionLaw
namespace Go.Proofs.Ytpniiaemgobaiac
open Go.RowKit
set_option linter.unusedVariables false
set_option maxRecDepth 100000
def foundB (x y z : Int) : Bool := decide (0 ≤ x ∧ x < y ∧ y ≤ 200 ∧ 0 ≤ z ∧ z ≤ 1000)
def foundAt (L : List Int) (i : Nat) : Bool := foundB (intAt L (i * 3)) (intAt L (i * 3 + 1)) (intAt L (i * 3 + 2))
def foundOkB (L : List Int) (n : Nat) : Bool := decide ((∀ i, i < n → foundAt L i = true) ∧ n ≤ 20)
theorem foundOkB_iff {L : List Int} {n : Nat} : foundOkB L n = true ↔ (∀ i, i < n → foundAt L i = true) ∧ n ≤ 20 := decide_eq_true_iff
theorem found_in (x y z : Int) : foundB x y z = (inB x 0 200 && inB y (x + 1) 200 && inB z 0 1000) := by
  rw [Bool.eq_iff_iff]; simp only [foundB, inB, Bool.and_eq_true, decide_eq_true_eq]; omega
set_option maxHeartbeats 1000000 in
theorem spec_foundOk (L : List Int) (n : Nat) (a : Option Addr) (cap : Nat) (w : World) (hn : L.length = n * 3) (h : Ints w a L) (hlen : n ≤ 1048577) :
    Calls Try.prog 16 #[.slice a n cap] w fun e w' => e = .returned (.bool (foundOkB L n)) ∧ Below w.heap.size w w' := by
  have HN := Lib.hid hn; clear hn
  go_enter Try.func16, Try.ntmps16
  go_wp2
  go_loopw [3] (fun i wr => ∃ k : Nat, k ≤ n ∧ i = .int .i64 k ∧ (∀ j, j < k → foundAt L j = true) ∧ Below w.heap.size w wr)
    (fun i _ => n - (intOf i).toNat)
  case atStart => exact ⟨0, by omega, rfl, fun i hi => by omega, Below.refl _ _⟩
  case round =>
    obtain ⟨k, hk, rfl, hall, hb⟩ := hrel
    by_cases hlt : k < n
    · obtain ⟨b, off, rfl, hp⟩ := (h.kept hb).at (k * 3) (by rw [HN.out]; omega)
      have c0 := hp (k * 3) (by rw [HN.out]; omega)
      have c1 := hp (k * 3 + 1) (by rw [HN.out]; omega)
      have c2 := hp (k * 3 + 2) (by rw [HN.out]; omega)
      rw [← Nat.add_assoc] at c1 c2
      have hf : foundAt L k = (inB (intAt L (k * 3)) 0 200 && inB (intAt L (k * 3 + 1)) (intAt L (k * 3) + 1) 200 && inB (intAt L (k * 3 + 2)) 0 1000) := found_in _ _ _
      have HA := Lib.hid hall
      have HYES : Hid (foundAt L k = true → ∀ j, j < k + 1 → foundAt L j = true) := fun h2 j hj => by
        by_cases e : j = k
        · subst e; exact h2
        · exact HA.out j (by omega)
      have HNO : Hid (foundAt L k = false → foundOkB L n = false) := fun h2 => by
        simp only [foundOkB, decide_eq_false_iff_not]
        intro h3
        rw [h3.1 k hlt] at h2; cases h2
      generalize intAt L (k * 3) = x at *
      generalize intAt L (k * 3 + 1) = y at *
      generalize intAt L (k * 3 + 2) = z at *
      have hlb := block_lt_of_cell c0
      clear h hp hall
      cases hA : inB x 0 200
      · have HF := Lib.hid (HNO.out (by rw [hf, hA]; rfl))
        clear hf HYES HNO
        go_wp2_with fail
        go_quiet ((go_at_call 52; exact quiet_of_eq (spec_l1In _ _ _ _)))
        go_wp2
        go_ret
        exact ⟨by rw [HF.out]; rfl, below_drewN hb _⟩
      · have hx : 0 ≤ x ∧ x ≤ 200 := by simpa [inB] using hA
        obtain ⟨hx0, hx1⟩ := hx
        have kx : IntKind.i64.wrap (x + 1) = x + 1 := by rw [IntKind.wrap_i64]; omega
        cases hB : inB y (x + 1) 200
        · have HF := Lib.hid (HNO.out (by rw [hf, hA, hB]; rfl))
          clear hf HYES HNO
          go_wp2_with fail
          go_quiet ((go_at_call 52; exact quiet_of_eq (spec_l1In _ _ _ _)))
          go_wp2
          go_ret
          exact ⟨by rw [HF.out]; rfl, below_drewN hb _⟩
        · cases hC : inB z 0 1000
          · have HF := Lib.hid (HNO.out (by rw [hf, hA, hB, hC]; rfl))
            clear hf HYES HNO
            go_wp2_with fail
            go_quiet ((go_at_call 52; exact quiet_of_eq (spec_l1In _ _ _ _)))
            go_wp2
            go_ret
            exact ⟨by rw [HF.out]; rfl, below_drewN hb _⟩
          · have HY := Lib.hid (HYES.out (by rw [hf, hA, hB, hC]; rfl))
            clear hf HYES HNO
            go_wp2_with fail
            go_quiet ((go_at_call 52; exact quiet_of_eq (spec_l1In _ _ _ _)))
            go_wp2
            go_roundw
            case rel => exact ⟨k + 1, by omega, by go_num, HY.out, below_drewN hb _⟩
            case measure => simp [intOf]; omega
    · obtain rfl : k = n := by omega
      by_cases h20 : k ≤ 20
      · have HF := Lib.hid (foundOkB_iff.2 ⟨hall, h20⟩)
        have hd : decide ((k : Int) ≤ 20) = true := by simp; omega
        clear hall
        go_wp2
        go_ret
        exact ⟨by rw [HF.out]; rfl, hb⟩
      · have HF := Lib.hid (show foundOkB L k = false from decide_eq_false fun h3 => h20 h3.2)
        have hd : decide ((k : Int) ≤ 20) = false := by simp; omega
        clear hall
        go_wp2
        go_ret
        exact ⟨by rw [HF.out]; rfl, hb⟩
set_option maxHeartbeats 1000000 in
theorem impl_foundBad (x y z : Int) (w : World) :
    Calls Try.prog 51 #[.agg #[.int .i64 x, .int .i64 y, .int .i64 z]] w fun e w' => e = .returned (.bool (!foundB x y z)) ∧ Below w.heap.size w w' := by
  by_cases a1 : 0 ≤ x
  · by_cases a2 : x < y
    · by_cases a3 : y ≤ 200
      · by_cases a4 : 0 ≤ z
        · by_cases a5 : z ≤ 1000
          · have H : Hid (foundB x y z = true) := decide_eq_true ⟨a1, a2, a3, a4, a5⟩
            have HE : Hid ((decide (x < 0) || decide (y ≤ x) || decide (200 < y) || decide (z < 0) || decide (1000 < z)) = false) := by
              show _ = _
              rw [decide_eq_false (show ¬ x < 0 by omega), decide_eq_false (show ¬ y ≤ x by omega), decide_eq_false (show ¬ 200 < y by omega), decide_eq_false (show ¬ z < 0 by omega), decide_eq_false (show ¬ 1000 < z by omega)]; rfl
            go_enter Try.func51, Try.ntmps51
            go_wp2
            go_ret
            refine ⟨?_, (by repeat (first | exact Below.refl _ _ | assumption | (refine Below.drew ?_) | (refine below_drewN ?_ _) | (refine Below.alloc ?_ (by first | omega | (simp; done) | (simp; omega)) _) | (refine Below.setCell ?_ (by first | omega | (simp; done) | (simp; omega)) _)))⟩
            rw [H.out]
            show Ending.returned (Value.bool (decide (x < 0) || decide (y ≤ x) || decide (200 < y) || decide (z < 0) || decide (1000 < z))) = _
            rw [HE.out]; rfl
          · have H : Hid (foundB x y z = false) := decide_eq_false (by omega)
            go_enter Try.func51, Try.ntmps51
            go_wp2
            go_ret
            exact ⟨by rw [H.out]; rfl, (by repeat (first | exact Below.refl _ _ | assumption | (refine Below.drew ?_) | (refine below_drewN ?_ _) | (refine Below.alloc ?_ (by first | omega | (simp; done) | (simp; omega)) _) | (refine Below.setCell ?_ (by first | omega | (simp; done) | (simp; omega)) _)))⟩
        · have H : Hid (foundB x y z = false) := decide_eq_false (by omega)
          go_enter Try.func51, Try.ntmps51
          go_wp2
          go_ret
          exact ⟨by rw [H.out]; rfl, (by repeat (first | exact Below.refl _ _ | assumption | (refine Below.drew ?_) | (refine below_drewN ?_ _) | (refine Below.alloc ?_ (by first | omega | (simp; done) | (simp; omega)) _) | (refine Below.setCell ?_ (by first | omega | (simp; done) | (simp; omega)) _)))⟩
      · have H : Hid (foundB x y z = false) := decide_eq_false (by omega)
        go_enter Try.func51, Try.ntmps51
        go_wp2
        go_ret
        exact ⟨by rw [H.out]; rfl, (by repeat (first | exact Below.refl _ _ | assumption | (refine Below.drew ?_) | (refine below_drewN ?_ _) | (refine Below.alloc ?_ (by first | omega | (simp; done) | (simp; omega)) _) | (refine Below.setCell ?_ (by first | omega | (simp; done) | (simp; omega)) _)))⟩
    · have H : Hid (foundB x y z = false) := decide_eq_false (by omega)
      go_enter Try.func51, Try.ntmps51
      go_wp2
      go_ret
      exact ⟨by rw [H.out]; rfl, (by repeat (first | exact Below.refl _ _ | assumption | (refine Below.drew ?_) | (refine below_drewN ?_ _) | (refine Below.alloc ?_ (by first | omega | (simp; done) | (simp; omega)) _) | (refine Below.setCell ?_ (by first | omega | (simp; done) | (simp; omega)) _)))⟩
  · have H : Hid (foundB x y z = false) := decide_eq_false (by omega)
    go_enter Try.func51, Try.ntmps51
    go_wp2
    go_ret
    exact ⟨by rw [H.out]; rfl, (by repeat (first | exact Below.refl _ _ | assumption | (refine Below.drew ?_) | (refine below_drewN ?_ _) | (refine Below.alloc ?_ (by first | omega | (simp; done) | (simp; omega)) _) | (refine Below.setCell ?_ (by first | omega | (simp; done) | (simp; omega)) _)))⟩
set_option maxHeartbeats 1000000 in
theorem sl_findBad (L : List Int) (n : Nat) (a : Option Addr) (cap : Nat) (w : World) (hn : L.length = n * 3) (h : Ints w a L) (hlen : n ≤ 1048577) :
    Calls Try.prog 83 #[.slice a n cap, .func (.func 51) #[] #[]] w fun e w' => ∃ r : Int, e = .returned (.int .i64 r) ∧ ((r = -1 ∧ ∀ i, i < n → foundAt L i = true) ∨ (0 ≤ r ∧ ¬ ∀ i, i < n → foundAt L i = true)) ∧ Below w.heap.size w w' := by
  have HN := Lib.hid hn; clear hn
  go_enter Try.func83, Try.ntmps83
  go_wp2
  go_loopw [8] (fun i wr => ∃ k : Nat, k ≤ n ∧ i = .int .i64 k ∧ (∀ j, j < k → foundAt L j = true) ∧ Below w.heap.size w wr)
    (fun i _ => n - (intOf i).toNat)
  case atStart => exact ⟨0, by omega, rfl, fun i hi => by omega, Below.refl _ _⟩
  case round =>
    obtain ⟨k, hk, rfl, hall, hb⟩ := hrel
    by_cases hlt : k < n
    · obtain ⟨b, off, rfl, hp⟩ := (h.kept hb).at (k * 3) (by rw [HN.out]; omega)
      have c0 := hp (k * 3) (by rw [HN.out]; omega)
      have c1 := hp (k * 3 + 1) (by rw [HN.out]; omega)
      have c2 := hp (k * 3 + 2) (by rw [HN.out]; omega)
      rw [← Nat.add_assoc] at c1 c2
      have HA := Lib.hid hall
      have HYES : Hid (foundAt L k = true → ∀ j, j < k + 1 → foundAt L j = true) := fun h2 j hj => by
        by_cases e : j = k
        · subst e; exact h2
        · exact HA.out j (by omega)
      have HNO : Hid (foundAt L k = false → ¬ ∀ i, i < n → foundAt L i = true) := fun h2 h3 => by
        rw [h3 k hlt] at h2; cases h2
      have hf : foundAt L k = foundB (intAt L (k * 3)) (intAt L (k * 3 + 1)) (intAt L (k * 3 + 2)) := rfl
      generalize intAt L (k * 3) = x at *
      generalize intAt L (k * 3 + 1) = y at *
      generalize intAt L (k * 3 + 2) = z at *
      clear h hp hall
      cases hF : foundB x y z
      · have HF := Lib.hid (HNO.out (by rw [hf, hF]))
        have HB := Lib.hid (show (!foundB x y z) = true by rw [hF]; rfl)
        clear hf HYES HNO hF
        go_wp2_with (go_at_call 51; refine (impl_foundBad x y z _).mono ?_; rintro e w1 ⟨rfl, hb1⟩; rw [HB.out])
        go_ret
        exact ⟨k, rfl, .inr ⟨by omega, HF.out⟩, hb.trans (hb1.mono hb.size)⟩
      · have HY := Lib.hid (HYES.out (by rw [hf, hF]))
        have HB := Lib.hid (show (!foundB x y z) = false by rw [hF]; rfl)
        clear hf HYES HNO hF
        go_wp2_with (go_at_call 51; refine (impl_foundBad x y z _).mono ?_; rintro e w1 ⟨rfl, hb1⟩; rw [HB.out])
        go_roundw
        case rel => exact ⟨k + 1, by omega, by go_num, HY.out, hb.trans (hb1.mono hb.size)⟩
        case measure => simp [intOf]; omega
    · obtain rfl : k = n := by omega
      have HA := Lib.hid hall
      clear hall
      go_wp2
      go_ret
      exact ⟨-1, rfl, .inl ⟨rfl, HA.out⟩, hb⟩
theorem sl_anyBad (L : List Int) (n : Nat) (a : Option Addr) (cap : Nat) (w : World) (hn : L.length = n * 3) (h : Ints w a L) (hlen : n ≤ 1048577) :
    Calls Try.prog 50 #[.slice a n cap, .func (.func 51) #[] #[]] w fun e w' => ∃ c : Bool, e = .returned (.bool c) ∧ (c = false ↔ ∀ i, i < n → foundAt L i = true) ∧ Below w.heap.size w w' := by
  go_enter Try.func50, Try.ntmps50
  go_wp2_with (go_at_call 83; refine (sl_findBad L n a cap _ hn h hlen).mono ?_; rintro e w1 ⟨r, rfl, hr, hb1⟩)
  go_ret
  rcases hr with ⟨rfl, hr⟩ | ⟨h0, hr⟩
  · exact ⟨false, rfl, ⟨fun _ => hr, fun _ => rfl⟩, hb1⟩
  · refine ⟨true, ?_, ⟨fun h => (by cases h), fun h => absurd h hr⟩, hb1⟩
    show Ending.returned (Value.bool (decide ((0 : Int) ≤ r))) = _
    rw [decide_eq_true h0]
theorem impl_foundOk (L : List Int) (n : Nat) (a : Option Addr) (cap : Nat) (w : World) (hn : L.length = n * 3) (h : Ints w a L) (hlen : n ≤ 1048577) :
    Calls Try.prog 15 #[.slice a n cap] w fun e w' => e = .returned (.bool (foundOkB L n)) ∧ Below w.heap.size w w' := by
  by_cases h20 : n ≤ 20
  · go_enter Try.func15, Try.ntmps15
    go_wp2_with (go_at_call 50; refine (sl_anyBad L n a cap _ hn h hlen).mono ?_; rintro e w1 ⟨c, rfl, hc, hb1⟩; have HC := Lib.hid hc; clear hc)
    go_ret
    refine ⟨?_, hb1⟩
    show Ending.returned (Value.bool (!c)) = _
    cases c
    · rw [foundOkB_iff.2 ⟨HC.out.1 rfl, h20⟩]; rfl
    · rw [show foundOkB L n = false from decide_eq_false fun h2 => Bool.noConfusion (HC.out.2 h2.1)]; rfl
  · have HF := Lib.hid (show foundOkB L n = false from decide_eq_false fun h2 => h20 h2.2)
    clear hn
    go_enter Try.func15, Try.ntmps15
    go_wp2
    go_ret
    exact ⟨by rw [HF.out]; rfl, Below.refl _ _⟩
end Go.Proofs.Ytpniiaemgobaiac

/-
  slices.EqualFunc over patterns and their columns.
-/
import Derived.Test.YtodmohepgmhipaaSesOkP
namespace Go.Proofs.Ytodmohepgmhipaa
open Go.RowKit
set_option linter.unusedVariables false
set_option maxRecDepth 100000
set_option maxHeartbeats 4000000 in
theorem sl_equalFunc (D : List Pt) (C : List (List Int)) (ad ac : Option Addr) (cd cc : Nat) (w : World) (hD : Pats w ad D) (hC : Cols w ac C) (hd : D.length ≤ 1048576) (hc : C.length ≤ 1048576) (ht : ∀ i, i < D.length → (ptAt D i).t.size ≤ 1048576) (hr : ∀ i, i < C.length → (rowAt C i).length ≤ 1048576) :
    Calls Try.prog 116 #[.slice ad D.length cd, .slice ac C.length cc, .func (.func 117) #[] #[]] w fun e w' => e = .returned (.bool (decide (C.length = D.length) && colsB D C D.length)) ∧ Below w.heap.size w w' := by
  by_cases hl : C.length = D.length
  · have g : ((D.length : Int) != (C.length : Int)) = false := by simp; omega
    have HR := Lib.hid (show (decide (C.length = D.length) && colsB D C D.length) = colsB D C D.length by simp [hl])
    have HL := Lib.hid hl
    have HT := Lib.hid ht
    have HRR := Lib.hid hr
    clear ht hr hl
    go_enter Try.func116, Try.ntmps116
    go_wp2
    clear g
    go_loopw [17] (fun i wr => ∃ k : Nat, k ≤ D.length ∧ i = .int .i64 k ∧ colsB D C k = true ∧ Below w.heap.size w wr) (fun i _ => D.length - (intOf i).toNat)
    case atStart => exact ⟨0, by omega, rfl, rfl, Below.refl _ _⟩
    case round =>
      obtain ⟨k, hk, rfl, hok, hb⟩ := hrel
      by_cases hlt : k < D.length
      · have hlt2 : k < C.length := by have := HL.out; omega
        obtain ⟨bd, od, rfl, hpd⟩ := (hD.kept hb).at k hlt
        obtain ⟨c0, c1, c2⟩ := hpd k hlt
        obtain ⟨bc, oc, rfl, hpc⟩ := (hC.kept hb).at k hlt2
        obtain ⟨a3, z3, d3, i3⟩ := hpc k hlt2
        have hst := HT.out k hlt
        have hrs := HRR.out k hlt2
        have HOK := Lib.hid hok
        have hlb := block_lt_of_cell c0
        have hlb2 := block_lt_of_cell d3
        clear hpd hpc hD hC hok
        cases hq : colAtB D C k
        · have HNo := Lib.hid (colsB_no hq hlt)
          have HQ := Lib.hid (show colOkB (patOk (ptAt D k).t (ptAt D k).k) (ptAt D k).t.size (rowAt C k) = false from hq)
          clear hq
          generalize ptAt D k = p at *
          generalize rowAt C k = K at *
          go_wp2_with (go_at_call 117; refine (impl_colOk p.t p.k p.f K a3 _ z3 _ hst rfl (i3.kept (by repeat (first | exact Below.refl _ _ | assumption | (refine Below.drew ?_) | (refine below_drewN ?_ _) | (refine Below.alloc ?_ (by first | omega | (simp; done) | (simp; omega)) _) | (refine Below.setCell ?_ (by first | omega | (simp; done) | (simp; omega)) _)))) (by omega)).mono ?_; rintro e w2 ⟨rfl, hb2⟩; rw [HQ.out])
          go_ret
          exact ⟨by rw [HR.out, HNo.out]; rfl, below_step (hb.alloc hb.size _) hb2⟩
        · have HOK2 := Lib.hid (colsB_succ HOK.out hq)
          have HQ := Lib.hid (show colOkB (patOk (ptAt D k).t (ptAt D k).k) (ptAt D k).t.size (rowAt C k) = true from hq)
          clear hq
          generalize ptAt D k = p at *
          generalize rowAt C k = K at *
          go_wp2_with (go_at_call 117; refine (impl_colOk p.t p.k p.f K a3 _ z3 _ hst rfl (i3.kept (by repeat (first | exact Below.refl _ _ | assumption | (refine Below.drew ?_) | (refine below_drewN ?_ _) | (refine Below.alloc ?_ (by first | omega | (simp; done) | (simp; omega)) _) | (refine Below.setCell ?_ (by first | omega | (simp; done) | (simp; omega)) _)))) (by omega)).mono ?_; rintro e w2 ⟨rfl, hb2⟩; rw [HQ.out])
          go_roundw
          case rel => exact ⟨k + 1, by omega, by go_num, HOK2.out, below_step (hb.alloc hb.size _) hb2⟩
          case measure => simp [intOf]; omega
      · obtain rfl : k = D.length := by omega
        have HCO := Lib.hid hok
        clear hok
        go_wp2
        go_ret
        exact ⟨by rw [HR.out, HCO.out]; rfl, hb⟩
  · have g : ((D.length : Int) != (C.length : Int)) = true := by simp; omega
    have HR := Lib.hid (show (decide (C.length = D.length) && colsB D C D.length) = false by simp [hl])
    clear hl
    go_enter Try.func116, Try.ntmps116
    go_wp2
    go_ret
    exact ⟨by rw [HR.out]; rfl, Below.refl _ _⟩
end Go.Proofs.Ytodmohepgmhipaa

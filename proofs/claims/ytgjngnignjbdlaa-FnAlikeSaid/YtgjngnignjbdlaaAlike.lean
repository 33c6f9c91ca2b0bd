/-
  FnAlike: the walk.
-/
import Derived.Test.YtgjngnignjbdlaaL1Draw
import Derived.Test.YtgjngnignjbdlaaL1Alike
import Derived.Outline
namespace Go.Proofs.Ytgjngnignjbdlaa
open Go.RowKit
set_option linter.unusedVariables false
theorem alikeS_comm (a b : ByteArray) (f : Bool) : alikeS b a f = alikeS a b f := by
  unfold alikeS
  cases f
  · exact BEq.comm
  · exact BEq.comm
theorem alikeS_fold (a b : ByteArray) : ((foldS a).toList == (foldS b).toList) = alikeS a b true := by
  rw [ByteArray.toList_eq, ByteArray.toList_eq]; rfl
theorem alikeS_plain (a b : ByteArray) : (a.toList == b.toList) = alikeS a b false := by
  rw [ByteArray.toList_eq, ByteArray.toList_eq]; rfl
theorem alikeS_mono (a b : ByteArray) (h : alikeS a b false = true) : alikeS a b true = true := by
  unfold alikeS at *
  simp only [Bool.false_eq_true, if_false, beq_iff_eq] at h
  simp [h]
theorem alikeS_self (a : ByteArray) (f : Bool) : alikeS a a f = true := by
  unfold alikeS; cases f <;> simp
set_option maxHeartbeats 2000000 in
theorem law_FnAlike (a : Option Addr) (len cap : Nat) (z : List Int) (w : World) (hr : IsRow .u8 w a len cap z) :
    Calls Try.prog 4 #[.slice a len cap] w fun e w' => e = .returned (.bool true) ∧ Below w.heap.size w w' := by
  by_cases hl : len ≤ 1048576
  · go_enter Try.func4, Try.ntmps4
    go_wp2_with (go_at_call 8; go_in)
    refine (drawAlike _ _ _ _ _ hr hl).mono ?_
    rintro e w1 ⟨s, t, f, rfl, hs, ht, hb1⟩
    go_wp2_with fail
    refine (impl_alike _ _ _ _ (by omega) (by omega)).mono ?_
    rintro e w2 ⟨rfl, hb2⟩
    have hB2 := below_step hb1 hb2
    have c1 := alikeS_comm s t f
    have c2 := alikeS_self s f
    clear hb1 hb2
    cases f
    · have p1 := alikeS_plain s t
      cases hx : alikeS s t false
      · rw [hx] at c1 p1
        go_wp2_with (first | (go_at_call 16; refine (impl_alike _ _ _ _ (by omega) (by omega)).mono ?_; rintro e w1 ⟨rfl, hb1⟩; have HB1 : Below w.heap.size w w1 := below_step (by repeat (first | exact Below.refl _ _ | assumption | (refine Below.drew ?_) | (refine below_drewN ?_ _) | (refine Below.alloc ?_ (by first | (simp; done) | (simp; omega)) _) | (refine Below.setCell ?_ (by first | (simp; done) | (simp; omega)) _))) hb1) | (go_at_call 17; refine (spec_alike _ _ _ _ (by omega) (by omega)).mono ?_; rintro e w1 ⟨rfl, hb1⟩; have HB1 : Below w.heap.size w w1 := below_step (by repeat (first | exact Below.refl _ _ | assumption | (refine Below.drew ?_) | (refine below_drewN ?_ _) | (refine Below.alloc ?_ (by first | (simp; done) | (simp; omega)) _) | (refine Below.setCell ?_ (by first | (simp; done) | (simp; omega)) _))) hb1) | (go_at_call 12; refine (impl_folded _ _ (by omega)).mono ?_; rintro e w1 ⟨rfl, hb1⟩; have HB1 : Below w.heap.size w w1 := below_step (by repeat (first | exact Below.refl _ _ | assumption | (refine Below.drew ?_) | (refine below_drewN ?_ _) | (refine Below.alloc ?_ (by first | (simp; done) | (simp; omega)) _) | (refine Below.setCell ?_ (by first | (simp; done) | (simp; omega)) _))) hb1))
        go_ret
        exact ⟨rfl, HB1⟩
      · have p2 := alikeS_mono s t hx
        rw [hx] at c1 p1
        go_wp2_with (first | (go_at_call 16; refine (impl_alike _ _ _ _ (by omega) (by omega)).mono ?_; rintro e w1 ⟨rfl, hb1⟩; have HB1 : Below w.heap.size w w1 := below_step (by repeat (first | exact Below.refl _ _ | assumption | (refine Below.drew ?_) | (refine below_drewN ?_ _) | (refine Below.alloc ?_ (by first | (simp; done) | (simp; omega)) _) | (refine Below.setCell ?_ (by first | (simp; done) | (simp; omega)) _))) hb1) | (go_at_call 17; refine (spec_alike _ _ _ _ (by omega) (by omega)).mono ?_; rintro e w1 ⟨rfl, hb1⟩; have HB1 : Below w.heap.size w w1 := below_step (by repeat (first | exact Below.refl _ _ | assumption | (refine Below.drew ?_) | (refine below_drewN ?_ _) | (refine Below.alloc ?_ (by first | (simp; done) | (simp; omega)) _) | (refine Below.setCell ?_ (by first | (simp; done) | (simp; omega)) _))) hb1) | (go_at_call 12; refine (impl_folded _ _ (by omega)).mono ?_; rintro e w1 ⟨rfl, hb1⟩; have HB1 : Below w.heap.size w w1 := below_step (by repeat (first | exact Below.refl _ _ | assumption | (refine Below.drew ?_) | (refine below_drewN ?_ _) | (refine Below.alloc ?_ (by first | (simp; done) | (simp; omega)) _) | (refine Below.setCell ?_ (by first | (simp; done) | (simp; omega)) _))) hb1))
        go_ret
        exact ⟨rfl, HB1⟩
    · have p1 := alikeS_fold s t
      cases hx : alikeS s t true
      · rw [hx] at c1 p1
        go_wp2_with (first | (go_at_call 16; refine (impl_alike _ _ _ _ (by omega) (by omega)).mono ?_; rintro e w1 ⟨rfl, hb1⟩; have HB1 : Below w.heap.size w w1 := below_step (by repeat (first | exact Below.refl _ _ | assumption | (refine Below.drew ?_) | (refine below_drewN ?_ _) | (refine Below.alloc ?_ (by first | (simp; done) | (simp; omega)) _) | (refine Below.setCell ?_ (by first | (simp; done) | (simp; omega)) _))) hb1) | (go_at_call 17; refine (spec_alike _ _ _ _ (by omega) (by omega)).mono ?_; rintro e w1 ⟨rfl, hb1⟩; have HB1 : Below w.heap.size w w1 := below_step (by repeat (first | exact Below.refl _ _ | assumption | (refine Below.drew ?_) | (refine below_drewN ?_ _) | (refine Below.alloc ?_ (by first | (simp; done) | (simp; omega)) _) | (refine Below.setCell ?_ (by first | (simp; done) | (simp; omega)) _))) hb1) | (go_at_call 12; refine (impl_folded _ _ (by omega)).mono ?_; rintro e w1 ⟨rfl, hb1⟩; have HB1 : Below w.heap.size w w1 := below_step (by repeat (first | exact Below.refl _ _ | assumption | (refine Below.drew ?_) | (refine below_drewN ?_ _) | (refine Below.alloc ?_ (by first | (simp; done) | (simp; omega)) _) | (refine Below.setCell ?_ (by first | (simp; done) | (simp; omega)) _))) hb1))
        go_ret
        exact ⟨rfl, HB1⟩
      · rw [hx] at c1 p1
        go_wp2_with (first | (go_at_call 16; refine (impl_alike _ _ _ _ (by omega) (by omega)).mono ?_; rintro e w1 ⟨rfl, hb1⟩; have HB1 : Below w.heap.size w w1 := below_step (by repeat (first | exact Below.refl _ _ | assumption | (refine Below.drew ?_) | (refine below_drewN ?_ _) | (refine Below.alloc ?_ (by first | (simp; done) | (simp; omega)) _) | (refine Below.setCell ?_ (by first | (simp; done) | (simp; omega)) _))) hb1) | (go_at_call 17; refine (spec_alike _ _ _ _ (by omega) (by omega)).mono ?_; rintro e w1 ⟨rfl, hb1⟩; have HB1 : Below w.heap.size w w1 := below_step (by repeat (first | exact Below.refl _ _ | assumption | (refine Below.drew ?_) | (refine below_drewN ?_ _) | (refine Below.alloc ?_ (by first | (simp; done) | (simp; omega)) _) | (refine Below.setCell ?_ (by first | (simp; done) | (simp; omega)) _))) hb1) | (go_at_call 12; refine (impl_folded _ _ (by omega)).mono ?_; rintro e w1 ⟨rfl, hb1⟩; have HB1 : Below w.heap.size w w1 := below_step (by repeat (first | exact Below.refl _ _ | assumption | (refine Below.drew ?_) | (refine below_drewN ?_ _) | (refine Below.alloc ?_ (by first | (simp; done) | (simp; omega)) _) | (refine Below.setCell ?_ (by first | (simp; done) | (simp; omega)) _))) hb1))
        go_ret
        exact ⟨rfl, HB1⟩
  · go_enter Try.func4, Try.ntmps4
    go_wp2
    go_ret
    exact ⟨rfl, Below.refl _ _⟩
end Go.Proofs.Ytgjngnignjbdlaa

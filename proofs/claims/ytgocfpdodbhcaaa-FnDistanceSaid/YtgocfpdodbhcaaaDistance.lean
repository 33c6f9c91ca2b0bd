/-
  FnDistance: the walk.
-/
import Derived.Test.YtgocfpdodbhcaaaDistFacts
import Derived.Test.YtgocfpdodbhcaaaL1Alike
namespace Go.Proofs.Ytgocfpdodbhcaaa
open Go.RowKit
set_option linter.unusedVariables false
set_option maxRecDepth 100000
set_option maxHeartbeats 2000000 in
theorem law_FnDistance (a : Option Addr) (len cap : Nat) (z : List Int) (w : World) (hr : IsRow .u8 w a len cap z) :
    Calls Try.prog 3 #[.slice a len cap] w fun e w' => e = .returned (.bool true) ∧ Below w.heap.size w w' := by
  by_cases hl : len ≤ 1048576
  · have hbig : decide (1048576 < (len : Int)) = false := by simp; omega
    go_enter Try.func3, Try.ntmps3
    go_wp2_with (go_at_call 21; refine (laws_big _ _ _ _ (by omega)).mono ?_; rintro e w' ⟨rfl, rfl⟩)
    refine (drawDistance _ _ _ _ _ hr hl).mono ?_
    rintro e w1 ⟨s, t, f, rfl, hs, ht, hb1⟩
    go_wp2_with fail
    refine (drawFolded _ _ _ _ _ (isRow_below hr hb1) hl).mono ?_
    rintro e w2 ⟨c, rfl, hc, hb2⟩
    have hB2 := below_step hb1 hb2
    clear hb1 hb2
    have zs := backS_size s
    have zt := backS_size t
    obtain ⟨bd1, bd2, bd3⟩ := dist_bnd s t f (by omega) (by omega)
    have tri := dist_tri s c t f (by omega) (by omega) (by omega)
    have b1 := dist_bnd s c f (by omega) (by omega)
    have b2 := dist_bnd c t f (by omega) (by omega)
    have HSY := Lib.hid (dist_symm s t f)
    have HSE := Lib.hid (dist_self s f (by omega))
    have HBK := Lib.hid (dist_back s t f (by omega) (by omega))
    have hz := dist_zero s t f (by omega) (by omega)
    obtain ⟨d1, hd1⟩ : ∃ d1, distI s c f = d1 := ⟨_, rfl⟩
    obtain ⟨d2, hd2⟩ : ∃ d2, distI c t f = d2 := ⟨_, rfl⟩
    obtain ⟨d, hd⟩ : ∃ d, distI s t f = d := ⟨_, rfl⟩
    rw [hd, hd1, hd2] at tri
    rw [hd] at bd1 bd2 bd3 hz HSY HBK
    rw [hd1] at b1
    rw [hd2] at b2
    have HD := Lib.hid hd; have HD1 := Lib.hid hd1; have HD2 := Lib.hid hd2
    obtain ⟨_, b11, b12⟩ := b1
    obtain ⟨_, b21, b22⟩ := b2
    have l1 : d1 ≤ 14 := by omega
    have l2 : d2 ≤ 14 := by omega
    have l3 : d ≤ 14 := by omega
    have e0 : (d != d) = false := by simp
    obtain ⟨al, hal⟩ : ∃ al, alikeS s t f = al := ⟨_, rfl⟩
    rw [hal] at hz
    have e1 : (al == al) = true := by simp
    have e2 : decide (d ≤ d1 + d2) = true := by simpa using tri
    have HAL := Lib.hid hal
    clear hd hd1 hd2 hal b12 b22
    go_wp2_with fail
    refine (impl_distance s t f _ (by omega) (by omega)).mono ?_
    rintro e w3 ⟨rfl, hb3⟩
    rw [HD.out]
    have hB3 := below_step hB2 hb3
    clear hb3 hB2
    go_wp2_with fail
    refine (spec_distance s t f _ (by omega) (by omega)).mono ?_
    rintro e w4 ⟨rfl, hb4⟩
    rw [HD.out]
    have hB4 := below_step hB3 hb4
    go_wp2_with fail
    refine (impl_distance t s f _ (by omega) (by omega)).mono ?_
    rintro e w5 ⟨rfl, hb5⟩
    rw [HSY.out]
    have hB5 := below_step hB4 hb5
    go_wp2_with fail
    refine (impl_distance s s f _ (by omega) (by omega)).mono ?_
    rintro e w6 ⟨rfl, hb6⟩
    rw [HSE.out]
    have hB6 := below_step hB5 hb6
    go_wp2_with fail
    refine (laws_back s _ (by omega)).mono ?_
    rintro e w7 ⟨rfl, hb7⟩
    have hB7 := below_step hB6 hb7
    go_wp2_with fail
    refine (laws_back t _ (by omega)).mono ?_
    rintro e w8 ⟨rfl, hb8⟩
    have hB8 := below_step hB7 hb8
    go_wp2_with fail
    refine (impl_distance (backS s) (backS t) f _ (by omega) (by omega)).mono ?_
    rintro e w9 ⟨rfl, hb9⟩
    rw [HBK.out]
    have hB9 := below_step hB8 hb9
    clear hb4 hb5 hb6 hb7 hb8 hb9 hB3 hB4 hB5 hB6 hB7 hB8
    go_wp2_with fail
    refine (impl_distance s c f _ (by omega) (by omega)).mono ?_
    rintro e w10 ⟨rfl, hb10⟩
    rw [HD1.out]
    have hB10 := below_step hB9 hb10
    go_wp2_with fail
    refine (impl_distance c t f _ (by omega) (by omega)).mono ?_
    rintro e w11 ⟨rfl, hb11⟩
    rw [HD2.out]
    have hB11 := below_step hB10 hb11
    go_wp2_with fail
    refine (impl_alike s t f _ (by omega) (by omega)).mono ?_
    rintro e w12 ⟨rfl, hb12⟩
    rw [HAL.out]
    have hB12 := below_step hB11 hb12
    clear hb10 hb11 hb12 hB9 hB10 hB11
    by_cases hst : s.size < t.size
    · have hm : decide (d ≤ (t.size : Int)) = true := by simp; omega
      have hst2 : (s.size : Int) < (t.size : Int) := by omega
      go_wp2_with fail
      all_goals
        go_ret
        exact ⟨rfl, hB12⟩
    · have hm : decide (d ≤ (s.size : Int)) = true := by simp; omega
      have hst2 : ¬ (s.size : Int) < (t.size : Int) := by omega
      go_wp2_with fail
      all_goals
        go_ret
        exact ⟨rfl, hB12⟩
  · have hbig : decide (1048576 < (len : Int)) = true := by simp; omega
    go_enter Try.func3, Try.ntmps3
    go_wp2_with (go_at_call 21; go_in)
    go_ret
    exact ⟨rfl, Below.refl _ _⟩
end Go.Proofs.Ytgocfpdodbhcaaa

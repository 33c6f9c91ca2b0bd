/-
  FnPieceByPiece: the walk.
-/
import Derived.Test.YtgocfpdodbhcaaaDistFacts
import Derived.Test.YtgocfpdodbhcaaaL1Alike
namespace Go.Proofs.Ytgocfpdodbhcaaa
open Go.RowKit
set_option linter.unusedVariables false
set_option maxRecDepth 100000
theorem dist_call (s t : ByteArray) (f : Bool) (d : Int) (hs : s.size ≤ 1048576) (ht : t.size ≤ 1048576) (hd : distI s t f = d) (w : World) :
    Calls Try.prog 24 #[.string s, .string t, .bool f] w fun e w' => e = .returned (.int .i64 d) ∧ Below w.heap.size w w' :=
  (impl_distance s t f w hs ht).mono fun _ _ h => ⟨by rw [h.1, hd], h.2⟩
def lit_q : ByteArray := ⟨#[113]⟩
set_option maxHeartbeats 4000000 in
theorem law_FnPieceByPiece (a : Option Addr) (len cap : Nat) (z : List Int) (w : World) (hr : IsRow .u8 w a len cap z) :
    Calls Try.prog 4 #[.slice a len cap] w fun e w' => e = .returned (.bool true) ∧ Below w.heap.size w w' := by
  by_cases hl : len ≤ 1048576
  · have hbig : decide (1048576 < (len : Int)) = false := by simp; omega
    go_enter Try.func4, Try.ntmps4
    go_wp2_with (go_at_call 21; refine (laws_big _ _ _ _ (by omega)).mono ?_; rintro e w' ⟨rfl, rfl⟩)
    refine (drawDistance _ _ _ _ _ hr hl).mono ?_
    rintro e w1 ⟨s, t, f, rfl, hs, ht, hb1⟩
    obtain ⟨d, hd⟩ : ∃ d, distI s t f = d := ⟨_, rfl⟩
    have e0 : (d != d) = false := by simp
    have b0 := dist_bnd s t f (by omega) (by omega)
    rw [hd] at b0
    have HD := Lib.hid hd
    obtain ⟨q, hq⟩ : ∃ q, len % (s.size + 1) = q := ⟨_, rfl⟩
    have hqs : q ≤ s.size := by have := Nat.mod_lt len (show 0 < s.size + 1 by omega); omega
    have hq2 : ((len : Int) % ((s.size : Int) + 1)) = (q : Int) := by rw [← hq]; simp
    have hq3 : (q : Int) ≤ (s.size : Int) := by omega
    obtain ⟨j, hj⟩ : ∃ j, min q t.size = j := ⟨_, rfl⟩
    have hjt : j ≤ t.size := by omega
    have p1 := dist_pieces s t f q j hqs hjt (by omega) (by omega)
    have p3 := dist_last s t ⟨#[113]⟩ f rfl (by omega) (by omega)
    have p4 := dist_head s t ⟨#[113]⟩ f rfl (by omega) (by omega)
    rw [hd] at p1 p3 p4
    clear hd
    go_wp2_with fail
    refine (impl_distance s t f _ (by omega) (by omega)).mono ?_
    rintro e w3 ⟨rfl, hb3⟩
    rw [HD.out]
    have hB3 := below_step hb1 hb3
    clear hb3 hb1
    go_wp2_with fail
    refine (spec_distance s t f _ (by omega) (by omega)).mono ?_
    rintro e w4 ⟨rfl, hb4⟩
    rw [HD.out]
    have hB4 := below_step hB3 hb4
    clear hb4 hB3
    have zA1 : (s.extract 0 q).size ≤ 100 := by rw [ByteArray.size_extract]; omega
    have zB1 : (t.extract 0 j).size ≤ 100 := by rw [ByteArray.size_extract]; omega
    have zA2 : (s.extract q s.size).size ≤ 100 := by rw [ByteArray.size_extract]; omega
    have zB2 : (t.extract j t.size).size ≤ 100 := by rw [ByteArray.size_extract]; omega
    have zA3 : (s ++ ByteArray.mk #[113]).size ≤ 100 := by rw [ByteArray.size_append]; show s.size + 1 ≤ 100; omega
    have zB3 : (t ++ ByteArray.mk #[113]).size ≤ 100 := by rw [ByteArray.size_append]; show t.size + 1 ≤ 100; omega
    have zA4 : (ByteArray.mk #[113] ++ s).size ≤ 100 := by rw [ByteArray.size_append]; show 1 + s.size ≤ 100; omega
    have zB4 : (ByteArray.mk #[113] ++ t).size ≤ 100 := by rw [ByteArray.size_append]; show 1 + t.size ≤ 100; omega
    obtain ⟨A1, hA1⟩ : ∃ A, s.extract 0 q = A := ⟨_, rfl⟩
    obtain ⟨B1, hB1⟩ : ∃ A, t.extract 0 j = A := ⟨_, rfl⟩
    obtain ⟨A2, hA2⟩ : ∃ A, s.extract q s.size = A := ⟨_, rfl⟩
    obtain ⟨B2, hB2⟩ : ∃ A, t.extract j t.size = A := ⟨_, rfl⟩
    obtain ⟨A3, hA3⟩ : ∃ A, s ++ ByteArray.mk #[113] = A := ⟨_, rfl⟩
    obtain ⟨B3, hB3⟩ : ∃ A, t ++ ByteArray.mk #[113] = A := ⟨_, rfl⟩
    obtain ⟨A4, hA4⟩ : ∃ A, ByteArray.mk #[113] ++ s = A := ⟨_, rfl⟩
    obtain ⟨B4, hB4'⟩ : ∃ A, ByteArray.mk #[113] ++ t = A := ⟨_, rfl⟩
    rw [hA1] at zA1 p1; rw [hB1] at zB1 p1; rw [hA2] at zA2 p1; rw [hB2] at zB2 p1
    rw [hA3] at zA3 p3; rw [hB3] at zB3 p3; rw [hA4] at zA4 p4; rw [hB4'] at zB4 p4
    have c1 := dist_bnd A1 B1 f (by omega) (by omega)
    have c2 := dist_bnd A2 B2 f (by omega) (by omega)
    obtain ⟨d1, hd1⟩ : ∃ d, distI A1 B1 f = d := ⟨_, rfl⟩
    obtain ⟨d2, hd2⟩ : ∃ d, distI A2 B2 f = d := ⟨_, rfl⟩
    rw [hd1, hd2] at p1
    rw [hd1] at c1
    rw [hd2] at c2
    have x1 : 0 ≤ d1 := by omega
    have x2 : d1 ≤ 100 := by omega
    have x3 : 0 ≤ d2 := by omega
    have x4 : d2 ≤ 100 := by omega
    have C1 := fun W => dist_call A1 B1 f d1 (by omega) (by omega) hd1 W
    have C2 := fun W => dist_call A2 B2 f d2 (by omega) (by omega) hd2 W
    have C3 := fun W => dist_call A3 B3 f d (by omega) (by omega) p3 W
    have C4 := fun W => dist_call A4 B4 f d (by omega) (by omega) p4 W
    have HC1 := Lib.hid C1; have HC2 := Lib.hid C2; have HC3 := Lib.hid C3; have HC4 := Lib.hid C4
    have jq : (j : Int) ≤ (t.size : Int) := by omega
    have dw : IntKind.i64.wrap (d1 + d2) = d1 + d2 := by rw [IntKind.wrap_i64]; omega
    have dd : decide (d ≤ d1 + d2) = true := by simpa using p1
    have e1 : (d == d) = true := by simp
    clear C1 C2 C3 C4 hd1 hd2 p1 p3 p4 c1 c2 b0
    by_cases hqt : q < t.size
    · obtain rfl : j = q := by omega
      have hq4 : (j : Int) < (t.size : Int) := by omega
      clear hj hq
      go_wp2_with fail
      refine wp_region_quiet_below (by kernel_rfl) (by kernel_rfl) ?_
      repeat (go_big_quiet_step (first | (go_at_call 24; first | with_reducible exact Calls.regrown_of (HC1.out _) | with_reducible exact Calls.regrown_of (HC2.out _) | with_reducible exact Calls.regrown_of (HC3.out _) | with_reducible exact Calls.regrown_of (HC4.out _))))
      refine wpQuiet_nil ?_
      intro _ hw'
      obtain ⟨⟨dq, osq⟩, hw''⟩ := hw'
      subst hw''
      go_wp2
      go_ret
      exact ⟨rfl, hB4.trans ((below_regrown w4 dq osq).mono hB4.size)⟩
    · by_cases hqt2 : q = t.size
      · obtain rfl : j = q := by omega
        have hjj : (t.size : Int) = (j : Int) := by omega
        clear hj hq hqt jq hqt2
        go_wp2_with fail
        refine wp_region_quiet_below (by kernel_rfl) (by kernel_rfl) ?_
        repeat (go_big_quiet_step (first | (go_at_call 24; first | with_reducible exact Calls.regrown_of (HC1.out _) | with_reducible exact Calls.regrown_of (HC2.out _) | with_reducible exact Calls.regrown_of (HC3.out _) | with_reducible exact Calls.regrown_of (HC4.out _))))
        refine wpQuiet_nil ?_
        intro _ hw'
        obtain ⟨⟨dq, osq⟩, hw''⟩ := hw'
        subst hw''
        go_wp2
        go_ret
        exact ⟨rfl, hB4.trans ((below_regrown w4 dq osq).mono hB4.size)⟩
      · have hjj : (t.size : Int) = (j : Int) := by omega
        have hq4 : (j : Int) < (q : Int) := by omega
        clear hj hq hqt jq hqt2
        go_wp2_with fail
        refine wp_region_quiet_below (by kernel_rfl) (by kernel_rfl) ?_
        repeat (go_big_quiet_step (first | (go_at_call 24; first | with_reducible exact Calls.regrown_of (HC1.out _) | with_reducible exact Calls.regrown_of (HC2.out _) | with_reducible exact Calls.regrown_of (HC3.out _) | with_reducible exact Calls.regrown_of (HC4.out _))))
        refine wpQuiet_nil ?_
        intro _ hw'
        obtain ⟨⟨dq, osq⟩, hw''⟩ := hw'
        subst hw''
        go_wp2
        go_ret
        exact ⟨rfl, hB4.trans ((below_regrown w4 dq osq).mono hB4.size)⟩
  · have hbig : decide (1048576 < (len : Int)) = true := by simp; omega
    go_enter Try.func4, Try.ntmps4
    go_wp2_with (go_at_call 21; go_in)
    go_ret
    exact ⟨rfl, Below.refl _ _⟩
end Go.Proofs.Ytgocfpdodbhcaaa

/-
  FnSwapDist: the walk.
-/
import Derived.Test.YtgikjopmijomgabSwapFacts
import Derived.Test.YtgikjopmijomgabL18Sd
import Derived.Test.YtgikjopmijomgabL1Draw
namespace Go.Proofs.Ytgikjopmijomgab
open Go.RowKit
set_option linter.unusedVariables false
set_option maxRecDepth 100000
set_option maxHeartbeats 2000000 in
theorem rd_swapped (w : World) (R : Nat) (a : Option Addr) (len cap : Nat) (z : List Int) (h : RdOk w R a len cap z) (s : ByteArray) (hs : s.size ≤ 1000) :
    Calls Try.prog 37 #[.pointer (some ⟨R, 0, none⟩), .string s] w fun e w' => ∃ t : ByteArray, e = .returned (.string t) ∧ t.size ≤ s.size + 2 ∧ RdOk w' R a len cap z ∧ w.grownBy w' (some R) := by
  by_cases h2 : s.size < 2
  · have h2' : (s.size : Int) < 2 := by omega
    go_enter Try.func37, Try.ntmps37
    go_wp2_with fail
    refine (rd_nearly _ _ _ _ _ _ h s hs).mono ?_
    rintro e w1 ⟨t, rfl, ht, hok, hg⟩
    go_wp2_with fail
    go_ret
    exact ⟨_, rfl, ht, hok, hg⟩
  · have h2' : ¬ (s.size : Int) < 2 := by omega
    go_enter Try.func37, Try.ntmps37
    go_wp2_with fail
    refine (rd_once _ _ _ _ _ _ h 3 (by omega) (by omega)).mono ?_
    rintro e w1 ⟨m, rfl, hok, hg⟩
    cases m
    · have sw : IntKind.i64.wrap ((s.size : Int) - 1) = (s.size : Int) - 1 := by rw [IntKind.wrap_i64]; omega
      go_wp2_with fail
      refine (rd_below _ _ _ _ _ _ hok _).mono ?_
      rintro e w2 ⟨x, rfl, ⟨hx0, hx3, hx1, _⟩, hok2, hg2⟩
      have hx2 : x + 1 < s.size := by
        by_cases h1 : (s.size : Int) - 1 ≤ 1
        · have := hx3 h1; omega
        · have := hx1 (by omega); omega
      clear hx1 hx3
      obtain ⟨j, rfl⟩ := Int.eq_ofNat_of_zero_le hx0
      have jw1 : IntKind.i64.wrap ((j : Int) + 1) = (j : Int) + 1 := by rw [IntKind.wrap_i64]; omega
      have jw2 : IntKind.i64.wrap ((j : Int) + 2) = (j : Int) + 2 := by rw [IntKind.wrap_i64]; omega
      have q0 : (0 : Int) ≤ (j : Int) + 1 := by omega
      have q1 : (0 : Int) ≤ (j : Int) + 2 := by omega
      have q2 : (j : Int) + 2 ≤ (s.size : Int) := by omega
      have q3 : (j : Int) + 1 ≤ (j : Int) + 2 := by omega
      have q4 : (j : Int) ≤ (j : Int) + 1 := by omega
      have q5 : (j : Int) + 1 ≤ (s.size : Int) := by omega
      have q6 : (j : Int) ≤ (s.size : Int) := by omega
      have t1 : ((j : Int) + 1).toNat = j + 1 := by omega
      have t2 : ((j : Int) + 2).toNat = j + 2 := by omega
      obtain ⟨A, hA⟩ : ∃ A, s.extract 0 j = A := ⟨_, rfl⟩
      obtain ⟨B, hB⟩ : ∃ B, s.extract (j + 1) (j + 2) = B := ⟨_, rfl⟩
      obtain ⟨C, hC⟩ : ∃ C, s.extract j (j + 1) = C := ⟨_, rfl⟩
      obtain ⟨D, hD⟩ : ∃ D, s.extract (j + 2) s.size = D := ⟨_, rfl⟩
      have hAs : A.size = j := by rw [← hA, ByteArray.size_extract]; omega
      have hBs : B.size = 1 := by rw [← hB, ByteArray.size_extract]; omega
      have hCs : C.size = 1 := by rw [← hC, ByteArray.size_extract]; omega
      have hDs : D.size = s.size - (j + 2) := by rw [← hD, ByteArray.size_extract]; omega
      have HA := Lib.hid hAs; have HB := Lib.hid hBs; have HC := Lib.hid hCs; have HD := Lib.hid hDs
      have n1 : ¬ (9223372036854775807 : Int) < ((A.size : Nat) : Int) + (B.size : Nat) := by omega
      have n2 : ¬ (9223372036854775807 : Int) < (((A ++ B).size : Nat) : Int) + (C.size : Nat) := by rw [ByteArray.size_append]; omega
      have n3 : ¬ (9223372036854775807 : Int) < (((A ++ B ++ C).size : Nat) : Int) + (D.size : Nat) := by rw [ByteArray.size_append, ByteArray.size_append]; omega
      have m1 : ¬ (9223372036854775807 : Nat) < A.size + B.size := by omega
      have m2 : ¬ (9223372036854775807 : Nat) < (A ++ B).size + C.size := by rw [ByteArray.size_append]; omega
      have m3 : ¬ (9223372036854775807 : Nat) < (A ++ B ++ C).size + D.size := by rw [ByteArray.size_append, ByteArray.size_append]; omega
      have m4 : ¬ (9223372036854775807 : Nat) < A.size + B.size + C.size := by omega
      have m5 : ¬ (9223372036854775807 : Nat) < A.size + B.size + C.size + D.size := by omega
      clear hAs hBs hCs hDs
      have hgw := grownBy_trans hg hg2
      clear hg hg2
      go_wp2_with fail
      go_quiet (fail)
      go_wp2
      go_ret
      exact ⟨_, rfl, by rw [ByteArray.size_append, ByteArray.size_append, ByteArray.size_append, HA.out, HB.out, HC.out, HD.out]; omega, hok2.below (below_drewN (Below.refl _ _) _), grownBy_drewN hgw _⟩
    · go_wp2_with fail
      refine (rd_nearly _ _ _ _ _ _ hok s hs).mono ?_
      rintro e w2 ⟨t, rfl, ht, hok2, hg2⟩
      have hgw := grownBy_trans hg hg2
      go_wp2_with fail
      go_ret
      exact ⟨_, rfl, ht, hok2, hgw⟩
theorem drawSwapDist (a : Option Addr) (len cap : Nat) (z : List Int) (w : World) (hr : IsRow .u8 w a len cap z) (hl : len ≤ 1048576) :
    Calls Try.prog 15 #[.slice a len cap] w fun e w' => ∃ (s t : ByteArray) (f : Bool), e = .returned (.tuple #[.string s, .string t, .bool f]) ∧ s.size ≤ 30 ∧ t.size ≤ 40 ∧ Below w.heap.size w w' := by
  go_enter Try.func15, Try.ntmps15
  go_wp2_with fail
  refine (l1Open_any _ _ _ _ _ hr hl).mono ?_
  rintro e w1 ⟨rfl, hok, hb⟩
  go_wp2_with fail
  refine (rd_term _ _ _ _ _ _ hok 8 (by omega)).mono ?_
  rintro e w2 ⟨s, rfl, hs, hok2, hg2⟩
  go_wp2_with fail
  refine (rd_once _ _ _ _ _ _ hok2 2 (by omega) (by omega)).mono ?_
  rintro e w3 ⟨f, rfl, hok3, hg3⟩
  go_wp2_with fail
  refine (rd_swapped _ _ _ _ _ _ hok3 s (by omega)).mono ?_
  rintro e w4 ⟨t, rfl, ht, hok4, hg4⟩
  have hg := grownBy_trans hg2 (grownBy_trans hg3 hg4)
  go_wp2_with fail
  go_ret3
  exact ⟨_, _, _, rfl, by omega, by omega, below_rd hb hg⟩
set_option maxHeartbeats 4000000 in
theorem law_FnSwapDist (a : Option Addr) (len cap : Nat) (z : List Int) (w : World) (hr : IsRow .u8 w a len cap z) :
    Calls Try.prog 5 #[.slice a len cap] w fun e w' => e = .returned (.bool true) ∧ Below w.heap.size w w' := by
  by_cases hl : len ≤ 1048576
  · have hbig : decide (1048576 < (len : Int)) = false := by simp; omega
    go_enter Try.func5, Try.ntmps5
    go_wp2_with (go_at_call 9; refine (laws_big _ _ _ _ (by omega)).mono ?_; rintro e w' ⟨rfl, rfl⟩)
    refine (drawSwapDist _ _ _ _ _ hr hl).mono ?_
    rintro e w1 ⟨s, r, f, rfl, hs, hr, hb1⟩
    obtain ⟨k1, k2⟩ := swDI_dist (s := s) (r := r) f (by omega) (by omega)
    obtain ⟨k3, k4⟩ := swDI_bnd (s := s) (r := r) f (by omega) (by omega)
    have hz := swDI_zero (s := s) (r := r) f (by omega) (by omega)
    have hsy := swDI_symm s r f
    have HSW := Lib.hid (fun k (h : k + 2 ≤ s.size) => swDI_swapped s f k h (by omega))
    obtain ⟨n, hn⟩ : ∃ n, swDI s r f = n := ⟨_, rfl⟩
    obtain ⟨d, hd⟩ : ∃ d, distI s r f = d := ⟨_, rfl⟩
    obtain ⟨b, hb⟩ : ∃ b, alikeS s r f = b := ⟨_, rfl⟩
    rw [hn] at k1 k2 k3 k4 hz hsy
    rw [hd] at k1 k2
    rw [hb] at hz
    have HN := Lib.hid hn; have HD := Lib.hid hd; have HM := Lib.hid hsy; have HBB := Lib.hid hb
    have e0 : (n != n) = false := by simp
    have e1 : decide (d < n) = false := by simpa using k1
    have nw : IntKind.i64.wrap (2 * n) = 2 * n := by rw [IntKind.wrap_i64]; omega
    have e2 : decide (2 * n < d) = false := by simpa using k2
    have e3 : (b != b) = false := by simp
    have e4 : (!(b == b)) = false := by simp
    clear hn hd hsy hb
    go_wp2_with fail
    refine (impl_swapDist s r f _ (by omega) (by omega)).mono ?_
    rintro e w2 ⟨rfl, hb2⟩
    rw [HN.out]
    have hB2 := below_step hb1 hb2
    go_wp2_with fail
    refine (impl_distance s r f _ (by omega) (by omega)).mono ?_
    rintro e w3 ⟨rfl, hb3⟩
    rw [HD.out]
    have hB3 := below_step hB2 hb3
    go_wp2_with fail
    refine (spec_swapDist s r f _ (by omega) (by omega)).mono ?_
    rintro e w4 ⟨rfl, hb4⟩
    rw [HN.out]
    have hB4 := below_step hB3 hb4
    clear hb1 hb2 hb3 hb4 hB2 hB3
    go_wp2_with fail
    refine (impl_swapDist r s f _ (by omega) (by omega)).mono ?_
    rintro e w5 ⟨rfl, hb5⟩
    rw [HM.out]
    have hB5 := below_step hB4 hb5
    clear hb5 hB4
    by_cases h2 : s.size < 2
    · have h2' : (s.size : Int) < 2 := by omega
      go_wp2_with fail
      refine (impl_alike s r f _ (by omega) (by omega)).mono ?_
      rintro e w6 ⟨rfl, hb6⟩
      rw [HBB.out]
      have hB6 := below_step hB5 hb6
      clear hb6 hB5
      go_wp2
      go_ret
      exact ⟨rfl, hB6⟩
    · have h2' : ¬ (s.size : Int) < 2 := by omega
      obtain ⟨t, ht⟩ : ∃ t, s.size = t + 2 := ⟨s.size - 2, by omega⟩
      obtain ⟨j, hj⟩ : ∃ j, len % (t + 1) = j := ⟨_, rfl⟩
      have hjt : j < t + 1 := by rw [← hj]; exact Nat.mod_lt _ (by omega)
      have sw1 : IntKind.i64.wrap ((s.size : Int) - 1) = ((t + 1 : Nat) : Int) := by rw [IntKind.wrap_i64]; omega
      have jm : (len : Int).tmod ((t + 1 : Nat) : Int) = (j : Int) := by rw [← hj]; exact (Int.ofNat_tmod len (t + 1)).symm
      have jm2 : (len : Int) % ((t : Int) + 1) = (j : Int) := by rw [← hj]; push_cast; rfl
      have jz : (((t + 1 : Nat) : Int) == 0) = false := by simp; omega
      have jw1 : IntKind.i64.wrap ((j : Int) + 1) = (j : Int) + 1 := by rw [IntKind.wrap_i64]; omega
      have jw2 : IntKind.i64.wrap ((j : Int) + 2) = (j : Int) + 2 := by rw [IntKind.wrap_i64]; omega
      have q0 : (0 : Int) ≤ (j : Int) + 1 := by omega
      have q1 : (0 : Int) ≤ (j : Int) + 2 := by omega
      have q2 : (j : Int) + 2 ≤ (s.size : Int) := by omega
      have q3 : (j : Int) + 1 ≤ (j : Int) + 2 := by omega
      have q4 : (j : Int) ≤ (j : Int) + 1 := by omega
      have q5 : (j : Int) + 1 ≤ (s.size : Int) := by omega
      have q6 : (j : Int) ≤ (s.size : Int) := by omega
      have t1 : ((j : Int) + 1).toNat = j + 1 := by omega
      have t2 : ((j : Int) + 2).toNat = j + 2 := by omega
      have HLE := HSW.out j (by omega)
      have hsz := swapS_size s j (by omega)
      obtain ⟨v, hv⟩ : ∃ v, swDI s (swapS s j) f = v := ⟨_, rfl⟩
      have C1 : Hid (∀ W, Calls Try.prog 16 #[.string s, .string (s.extract 0 j ++ s.extract (j + 1) (j + 2) ++ s.extract j (j + 1) ++ s.extract (j + 2) s.size), .bool f] W fun e w' => e = .returned (.int .i64 v) ∧ Below W.heap.size W w') := fun W => (impl_swapDist s (swapS s j) f W (by omega) (by omega)).mono fun _ _ h => ⟨by rw [h.1, hv], h.2⟩
      rw [hv] at HLE
      have e5 : decide (v ≤ 1) = true := by simpa using HLE
      obtain ⟨A, hA⟩ : ∃ A, s.extract 0 j = A := ⟨_, rfl⟩
      obtain ⟨B, hB⟩ : ∃ B, s.extract (j + 1) (j + 2) = B := ⟨_, rfl⟩
      obtain ⟨C, hC⟩ : ∃ C, s.extract j (j + 1) = C := ⟨_, rfl⟩
      obtain ⟨D, hD⟩ : ∃ D, s.extract (j + 2) s.size = D := ⟨_, rfl⟩
      have hAs : A.size = j := by rw [← hA, ByteArray.size_extract]; omega
      have hBs : B.size = 1 := by rw [← hB, ByteArray.size_extract]; omega
      have hCs : C.size = 1 := by rw [← hC, ByteArray.size_extract]; omega
      have hDs : D.size = s.size - (j + 2) := by rw [← hD, ByteArray.size_extract]; omega
      rw [hA, hB, hC, hD] at C1
      have m1 : ¬ (9223372036854775807 : Nat) < A.size + B.size := by omega
      have m4 : ¬ (9223372036854775807 : Nat) < A.size + B.size + C.size := by omega
      have m5 : ¬ (9223372036854775807 : Nat) < A.size + B.size + C.size + D.size := by omega
      have m2 : ¬ (9223372036854775807 : Nat) < (A ++ B).size + C.size := by rw [ByteArray.size_append]; omega
      have m3 : ¬ (9223372036854775807 : Nat) < (A ++ B ++ C).size + D.size := by rw [ByteArray.size_append, ByteArray.size_append]; omega
      have HT := Lib.hid ht
      clear hAs hBs hCs hDs ht hj HLE hv hsz
      go_wp2_with fail
      refine (impl_alike s r f _ (by omega) (by omega)).mono ?_
      rintro e w6 ⟨rfl, hb6⟩
      rw [HBB.out]
      have hB6 := below_step hB5 hb6
      clear hb6 hB5
      go_wp2_with fail
      refine wp_region_quiet_below (by kernel_rfl) (by kernel_rfl) ?_
      repeat (go_big_quiet_step (((go_at_call 16; with_reducible exact Calls.regrown_of (C1.out _)))))
      refine wpQuiet_nil ?_
      intro _ hw'
      obtain ⟨⟨dq, osq⟩, hw''⟩ := hw'
      subst hw''
      go_wp2
      go_ret
      exact ⟨rfl, hB6.trans ((below_regrown w6 dq osq).mono hB6.size)⟩
  · have hbig : decide (1048576 < (len : Int)) = true := by simp; omega
    go_enter Try.func5, Try.ntmps5
    go_wp2_with (go_at_call 9; go_in)
    go_ret
    exact ⟨rfl, Below.refl _ _⟩
end Go.Proofs.Ytgikjopmijomgab

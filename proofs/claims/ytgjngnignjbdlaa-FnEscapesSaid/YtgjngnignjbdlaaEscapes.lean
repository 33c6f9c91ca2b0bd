/-
  FnEscapes: the walk.
-/
import Derived.Test.YtgjngnignjbdlaaL2Draw
import Derived.Test.YtgjngnignjbdlaaL2Round
import Derived.Test.YtgjngnignjbdlaaL2Spec
import Derived.Outline
namespace Go.Proofs.Ytgjngnignjbdlaa
open Go.RowKit
set_option linter.unusedVariables false
set_option maxHeartbeats 2000000 in
theorem law_FnEscapes (a : Option Addr) (len cap : Nat) (z : List Int) (w : World) (hr : IsRow .u8 w a len cap z) :
    Calls Try.prog 6 #[.slice a len cap] w fun e w' => e = .returned (.bool true) ∧ Below w.heap.size w w' := by
  by_cases hl : len ≤ 1048576
  · go_enter Try.func6, Try.ntmps6
    go_wp2_with (go_at_call 8; go_in)
    refine (drawEscaped _ _ _ _ _ hr hl).mono ?_
    rintro e w1 ⟨s, rfl, hs, hb1⟩
    go_wp2_with fail
    refine (impl_escaped _ _ (by omega)).mono ?_
    rintro e w2 ⟨rfl, hb2⟩
    have hB2 := below_step hb1 hb2
    have hes : (escS s).size ≤ 80 := by have := escS_size s; omega
    go_wp2_with fail
    refine (impl_unescaped _ _ (by omega)).mono ?_
    rintro e w3 ⟨rfl, hb3⟩
    have hB3 := below_step hB2 hb3
    rw [unText_esc, unOk_esc]
    have hr3 := isRow_below hr hB3
    go_wp2_with fail
    refine (drawUnescaped _ _ _ _ _ hr3 hl).mono ?_
    rintro e w4 ⟨u, rfl, hu, hb4⟩
    have hB4 := below_step hB3 hb4
    go_wp2_with fail
    refine (impl_unescaped _ _ (by omega)).mono ?_
    rintro e w5 ⟨rfl, hb5⟩
    have hB5 := below_step hB4 hb5
    go_wp2_with fail
    refine (spec_unescaped _ _ (by omega)).mono ?_
    rintro e w6 ⟨rfl, hb6⟩
    have hB6 := below_step hB5 hb6
    have hxs : (unText (unAll u)).size ≤ 100 := by have := unText_size u; omega
    have hat := escS_at s
    have hcut := escS_cut s
    clear hb1 hb2 hb3 hb4 hb5 hb6 hB2 hB3 hB4 hB5 hr3
    generalize unText (unAll u) = X at *
    generalize unOk (unAll u) = F at *
    go_wp2_with fail
    refine (spec_escaped _ _ (by omega)).mono ?_
    rintro e w7 ⟨rfl, hb7⟩
    have hB7 := below_step hB6 hb7
    clear hb7 hB6
    generalize escS s = E at *
    go_wp2_with fail
    go_loopw [12] (fun i wr => ∃ k : Nat, k ≤ E.size ∧ i = .int .i64 k ∧ Below w.heap.size w wr)
      (fun i _ => E.size - (intOf i).toNat)
    case atStart => exact ⟨0, by omega, rfl, hB7⟩
    case round =>
      obtain ⟨k, hk, rfl, hb⟩ := hrel
      by_cases hlt : k < E.size
      · obtain ⟨c, hc⟩ : ∃ c : UInt8, E[k] = c := ⟨_, rfl⟩
        obtain ⟨hc1, hc2⟩ := hat k hlt
        rw [hc] at hc1 hc2
        clear hat hcut
        go_wp2_with fail
        go_roundw
        case rel => exact ⟨k + 1, by omega, by go_num, hb⟩
        case measure => simp [intOf]; omega
      · obtain rfl : k = E.size := by omega
        obtain ⟨M, hM⟩ : ∃ M : Nat, len % (s.size + 1) = M := ⟨_, rfl⟩
        have hM1 : M ≤ s.size := by have := Nat.mod_lt len (show 0 < s.size + 1 by omega); omega
        have hM2 : (len : Int) % ((s.size : Int) + 1) = (M : Int) := by rw [← hM]; simp
        clear hat
        go_wp2_with fail
        simp only [hM2]
        refine (impl_escaped _ _ (by omega)).mono ?_
        rintro e w8 ⟨rfl, hb8⟩
        have hB8 := below_step hb hb8
        have hxe : (escS X).size ≤ 400 := by have := escS_size X; omega
        go_wp2_with fail
        refine (impl_unescaped _ _ (by omega)).mono ?_
        rintro e w9 ⟨rfl, hb9⟩
        have hB9 := below_step hB8 hb9
        rw [unText_esc, unOk_esc]
        clear hb hb8 hb9 hB8
        have hq := hcut M
        obtain ⟨A, hA⟩ : ∃ A, s.extract 0 M = A := ⟨_, rfl⟩
        obtain ⟨B, hB⟩ : ∃ B, s.extract M s.size = B := ⟨_, rfl⟩
        have hAs : A.size ≤ 20 := by rw [← hA, ByteArray.size_extract]; omega
        have hBs : B.size ≤ 20 := by rw [← hB, ByteArray.size_extract]; omega
        rw [hA, hB] at hq
        clear hcut
        have hea : (escS A).size ≤ 80 := by have := escS_size A; omega
        have heb : (escS B).size ≤ 80 := by have := escS_size B; omega
        have e3 : ((escS A ++ escS B).toList == E.toList) = true := by rw [hq]; simp
        have hc1 : ¬ (9223372036854775807 < (escS A).size + (escS B).size) := by omega
        clear hq
        cases F
        · go_wp2_with fail
          refine wp_region_quiet_below (by kernel_rfl) (by kernel_rfl) ?_
          repeat (go_big_quiet_step ((go_at_call 22; exact Calls.regrown_of (impl_escaped _ _ (by omega)))))
          refine wpQuiet_nil ?_
          intro _ hw'
          obtain ⟨⟨dq, osq⟩, hw''⟩ := hw'
          subst hw''
          go_wp2
          go_ret
          exact ⟨rfl, hB9.trans ((below_regrown w9 dq osq).mono hB9.size)⟩
        · go_wp2_with fail
          refine wp_region_quiet_below (by kernel_rfl) (by kernel_rfl) ?_
          repeat (go_big_quiet_step ((go_at_call 22; exact Calls.regrown_of (impl_escaped _ _ (by omega)))))
          refine wpQuiet_nil ?_
          intro _ hw'
          obtain ⟨⟨dq, osq⟩, hw''⟩ := hw'
          subst hw''
          go_wp2
          go_ret
          exact ⟨rfl, hB9.trans ((below_regrown w9 dq osq).mono hB9.size)⟩
  · go_enter Try.func6, Try.ntmps6
    go_wp2
    go_ret
    exact ⟨rfl, Below.refl _ _⟩
end Go.Proofs.Ytgjngnignjbdlaa

/-
  FnExactFoundOk: the walk.
-/
import Derived.Test.YtnmjcoppbkjogaaL17Ok
import Derived.Test.YtnmjcoppbkjogaaFoundIn
import Derived.Test.YtnmjcoppbkjogaaFoundLaw
namespace Go.Proofs.Ytnmjcoppbkjogaa
open Go.RowKit
set_option linter.unusedVariables false
set_option maxRecDepth 100000
set_option maxHeartbeats 2000000 in
theorem law_FnExactFoundOk (L : List Int) (n : Nat) (a : Option Addr) (cap : Nat) (hL : L.length = n * 3) (hm : n ≤ maxLen) (w : World) (h : Ints w a L) :
    Calls Try.prog 3 #[.slice a n cap] w fun e w' => e = .returned (.bool true) ∧ Below w.heap.size w w' := by
  unfold maxLen at hm
  have HL := Lib.hid hL
  clear hL
  go_enter Try.func3, Try.ntmps3
  go_wp2_with fail
  refine (laws_szFoundS a n cap _ _ (by omega) (by omega) (by omega)).mono ?_
  rintro e w1 ⟨rfl, hb1⟩
  have HB := hb1
  clear hb1
  by_cases hbig : (1048576 : Int) < (n : Int)
  · rw [if_pos hbig]
    go_wp2_with fail
    go_ret
    exact ⟨rfl, HB⟩
  · rw [if_neg hbig]
    have hd : ¬ (1048576 : Int) - (n : Int) < 0 := by omega
    obtain ⟨ok, hok⟩ : ∃ ok, foundOkB L n = ok := ⟨_, rfl⟩
    have HOK := Lib.hid hok
    have e0 : (ok != ok) = false := by simp
    clear hok
    go_wp2_with fail
    refine (laws_toFoundS L a n cap _ HL.out (h.kept HB) (by omega)).mono ?_
    rintro e w2 ⟨a2, cap2, rfl, hO2, hb2⟩
    replace HB := below_step HB hb2
    clear hb2
    go_wp2_with fail
    refine (spec_foundOk L n a2 cap2 _ HL.out hO2.ints (by omega)).mono ?_
    rintro e w3 ⟨rfl, hb3⟩
    rw [HOK.out]
    replace HB := below_step HB hb3
    clear hb3 hO2
    go_wp2_with fail
    refine (laws_toFoundS L a n cap _ HL.out (h.kept HB) (by omega)).mono ?_
    rintro e w4 ⟨a4, cap4, rfl, hO4, hb4⟩
    replace HB := below_step HB hb4
    clear hb4
    go_wp2_with fail
    refine (impl_foundOk L n a4 cap4 _ HL.out hO4.ints (by omega)).mono ?_
    rintro e w5 ⟨rfl, hb5⟩
    rw [HOK.out]
    replace HB := below_step HB hb5
    replace hO4 := hO4.kept hb5
    clear hb5
    go_wp2_with fail
    refine (laws_toFoundS L a n cap _ HL.out (h.kept HB) (by omega)).mono ?_
    rintro e w6 ⟨a6, cap6, rfl, hO6, hb6⟩
    replace HB := below_step HB hb6
    replace hO4 := hO4.kept hb6
    clear hb6
    go_wp2_with fail
    refine (laws_eqFoundS L _ _ n _ _ _ HL.out hO4.ints hO6.ints (by omega)).mono ?_
    rintro e w7 ⟨rfl, hb7⟩
    replace HB := below_step HB hb7
    go_wp2_with fail
    go_ret
    exact ⟨rfl, HB⟩
end Go.Proofs.Ytnmjcoppbkjogaa

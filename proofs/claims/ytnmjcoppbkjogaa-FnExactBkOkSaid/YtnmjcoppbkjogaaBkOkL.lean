/-
  FnExactBkOk: the walk.
-/
import Derived.Test.YtnmjcoppbkjogaaBkOk
import Derived.Test.YtnmjcoppbkjogaaBkIn
namespace Go.Proofs.Ytnmjcoppbkjogaa
open Go.RowKit
set_option linter.unusedVariables false
set_option maxRecDepth 100000
set_option maxHeartbeats 2000000 in
theorem law_FnExactBkOk (T : List BkN) (n : Nat) (a : Option Addr) (cap : Nat) (hL : T.length = n) (hm : n ≤ maxLen) (hts : ∀ i, i < n → (bkAt T i).t.size ≤ maxLen) (w : World) (h : Vals w a (bks T)) :
    Calls Try.prog 12 #[.slice a n cap] w fun e w' => e = .returned (.bool true) ∧ Below w.heap.size w w' := by
  unfold maxLen at hm hts
  have HL := Lib.hid hL
  have HT := Lib.hid hts
  have HV := Lib.hid h
  clear hL hts h
  go_enter Try.func12, Try.ntmps12
  go_wp2_with fail
  refine (laws_szBkS T n a cap _ _ HL.out HV.out (by omega) (fun i hi => by have := HT.out i hi; omega) (by omega) (by omega)).mono ?_
  rintro e w1 ⟨r, rfl, hr, hb1⟩
  have HB := hb1
  clear hb1
  rcases hr with rfl | ⟨hr0, hr1, hr2, hr3⟩
  · go_wp2_with fail
    go_ret
    exact ⟨rfl, HB⟩
  · have hn : n ≤ 1048576 := by omega
    have HS := Lib.hid (fun i (hi : i < n) => show (bkAt T i).t.size ≤ 1048576 by have := hr3 i hi; omega)
    have hd : ¬ r < 0 := by omega
    clear hr3 hr2
    obtain ⟨ok, hok⟩ : ∃ ok, bkOkB T = ok := ⟨_, rfl⟩
    have HOK := Lib.hid hok
    have e0 : (ok != ok) = false := by simp
    clear hok
    go_wp2_with fail
    refine (laws_toBkS T n a cap _ HL.out (HV.out.kept HB) (by omega)).mono ?_
    rintro e w2 ⟨a2, cap2, rfl, hO2, hb2⟩
    replace HB := below_step HB hb2
    clear hb2
    go_wp2_with fail
    refine (spec_bkOk T n a2 cap2 _ HL.out hO2.vals hn HS.out).mono ?_
    rintro e w3 ⟨rfl, hb3⟩
    rw [HOK.out]
    replace HB := below_step HB hb3
    clear hb3 hO2
    go_wp2_with fail
    refine (laws_toBkS T n a cap _ HL.out (HV.out.kept HB) (by omega)).mono ?_
    rintro e w4 ⟨a4, cap4, rfl, hO4, hb4⟩
    replace HB := below_step HB hb4
    clear hb4
    go_wp2_with fail
    refine (impl_bkOk T n a4 cap4 _ HL.out hO4.vals hn HS.out).mono ?_
    rintro e w5 ⟨rfl, hb5⟩
    rw [HOK.out]
    replace HB := below_step HB hb5
    replace hO4 := hO4.kept hb5
    clear hb5
    go_wp2_with fail
    refine (laws_toBkS T n a cap _ HL.out (HV.out.kept HB) (by omega)).mono ?_
    rintro e w6 ⟨a6, cap6, rfl, hO6, hb6⟩
    replace HB := below_step HB hb6
    replace hO4 := hO4.kept hb6
    clear hb6
    go_wp2_with fail
    refine (laws_eqBkS T _ _ n _ _ _ HL.out hO4.vals hO6.vals (by omega)).mono ?_
    rintro e w7 ⟨rfl, hb7⟩
    replace HB := below_step HB hb7
    go_wp2_with fail
    go_ret
    exact ⟨rfl, HB⟩
end Go.Proofs.Ytnmjcoppbkjogaa

/-
  FnExactReadDict's walk.
-/
import Derived.Test.YtodmohepgmhipaaL2DictI
import Derived.Test.YtodmohepgmhipaaL2DictS
import Derived.Test.YtodmohepgmhipaaSesMark2
namespace Go.Proofs.Ytodmohepgmhipaa
open Go.RowKit
set_option linter.unusedVariables false
set_option maxRecDepth 100000
theorem dictR_len : ∀ (f : Nat) (r : ByteArray) (n : Nat) (acc l : List Pt), acc.length ≤ 8 → dictR f r n acc = .ok l → l.length ≤ 8 := by
  intro f
  induction f with
  | zero => intro r n acc l h e; simp only [dictR] at e; cases e; exact h
  | succ f ih =>
    intro r n acc l h e
    simp only [dictR] at e
    split at e
    · cases e; exact h
    · split at e
      · cases e
      · split at e
        · exact ih _ _ _ _ h e
        · split at e
          · cases e
          · split at e
            · cases e
            · exact ih _ _ _ _ (by rw [List.length_append]; simp; omega) e
theorem dAcc_len (s : ByteArray) : (dAcc (dictAll s)).length ≤ 8 := by
  cases h : dictAll s with
  | error x => simp [dAcc]
  | ok l => exact dictR_len _ _ _ _ _ (by simp) h
set_option maxHeartbeats 4000000 in
theorem law_FnExactReadDict (s : ByteArray) (hs : s.size ≤ maxLen) (w : World) :
    Calls Try.prog 3 #[.string s] w fun e w' => e = .returned (.bool true) ∧ Below w.heap.size w w' := by
  unfold maxLen at hs
  by_cases hbig : (s.size : Int) ≤ 1048576
  · have hs2 : s.size ≤ 1048576 := by omega
    have h8 := dAcc_len s
    have HS := Lib.hid (fun w => spec_readDict s w hs2)
    have HI := Lib.hid (fun w => impl_readDict s w hs2)
    have e1 : (dLine (dictAll s) != dLine (dictAll s)) = false := by simp
    have e2 : (dCol (dictAll s) != dCol (dictAll s)) = false := by simp
    generalize dLine (dictAll s) = l at *
    generalize dCol (dictAll s) = c at *
    generalize dAcc (dictAll s) = D at *
    have em : ((1 : Int) + (D.length : Int) * 3 != 1 + (D.length : Int) * 3) = false := by simp
    go_enter Try.func3, Try.ntmps3
    go_wp2_with fail
    refine (HS.out _).mono ?_
    rintro e w1 ⟨a1, cap1, rfl, hP1, hb1⟩
    have HA1 := Lib.hid hb1
    have HP1 := Lib.hid hP1
    clear hb1 hP1
    go_wp2_with fail
    refine (HI.out _).mono ?_
    rintro e w2 ⟨a2, cap2, rfl, hO2, hb2⟩
    have HA2 := Lib.hid (below_step HA1.out hb2)
    have HK2 := Lib.hid hb2
    have HO2 := Lib.hid hO2
    have s12 := hb2.size
    clear hb2 hO2
    go_wp2_with fail
    refine (laws_eqPatternS D _ _ _ _ _ ((patsTo_pats D).pats HO2.out.vals) (HP1.out.kept HK2.out) (by omega)).mono ?_
    rintro e w3 ⟨rfl, hb3⟩
    have HA3 := Lib.hid (below_step HA2.out hb3)
    have HK3 := Lib.hid (below_step HK2.out hb3)
    have HO3 := Lib.hid (HO2.out.kept hb3)
    have s23 := hb3.size
    clear hb3
    go_wp2_with fail
    refine (markPats_w D _ _ _ _ _ (patsTo_pats D) HO3.out.wr (by omega) (by omega) (by omega)).mono ?_
    rintro e w4 ⟨P', rfl, hP', hW4, ht4⟩
    have hgt : ∀ b, blkO a2 D.length = some b → w1.heap.size ≤ b := fun b e => by
      have hn : D.length ≠ 0 := fun h0 => by unfold blkO at e; rw [if_pos h0] at e; cases e
      obtain ⟨g, o, e2, h1, _⟩ := HO3.out.lie hn
      rw [e2, blkO_some hn] at e
      cases e; exact h1
    have sA := HA3.out.size
    have sK := HK3.out.size
    have sw := HA1.out.size
    have HA4 := Lib.hid (HA3.out.trans (ht4.below (fun b e => by have := hgt b e; omega) sA))
    have HK4 := Lib.hid (HK3.out.trans (ht4.below (fun b e => hgt b e) sK))
    have HM4 := Lib.hid (hP'.pats hW4.vals)
    clear ht4 hgt hW4 sA sK
    go_wp2_with fail
    refine (heldPats_w _ _ _ _ _ HM4.out (by omega) (by omega) (by omega)).mono ?_
    rintro e w5 ⟨rfl, hb5⟩
    have HA5 := Lib.hid (below_step HA4.out hb5)
    have HK5 := Lib.hid (below_step HK4.out hb5)
    have HM5 := Lib.hid (HM4.out.kept hb5)
    clear hb5
    go_wp2_with fail
    refine (HI.out _).mono ?_
    rintro e w6 ⟨a6, cap6, rfl, hO6, hb6⟩
    have HA6 := Lib.hid (below_step HA5.out hb6)
    have HK6 := Lib.hid (below_step HK5.out hb6)
    have HM6 := Lib.hid (HM5.out.kept hb6)
    have HO6 := Lib.hid hO6
    clear hb6 hO6
    go_wp2_with fail
    refine (laws_eqPatternS D _ _ _ _ _ ((patsTo_pats D).pats HO6.out.vals) (HP1.out.kept HK6.out) (by omega)).mono ?_
    rintro e w7 ⟨rfl, hb7⟩
    have HA7 := Lib.hid (below_step HA6.out hb7)
    have HM7 := Lib.hid (HM6.out.kept hb7)
    clear hb7
    go_wp2_with fail
    refine (heldPats_w _ _ _ _ _ HM7.out (by omega) (by omega) (by omega)).mono ?_
    rintro e w8 ⟨rfl, hb8⟩
    have HA8 := Lib.hid (below_step HA7.out hb8)
    clear hb8
    go_wp2_with fail
    go_ret
    exact ⟨rfl, HA8.out⟩
  · go_enter Try.func3, Try.ntmps3
    go_wp2_with fail
    go_ret
    exact ⟨rfl, Below.refl _ _⟩
end Go.Proofs.Ytodmohepgmhipaa

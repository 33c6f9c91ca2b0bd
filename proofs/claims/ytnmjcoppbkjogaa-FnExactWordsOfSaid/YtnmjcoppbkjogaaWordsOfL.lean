/-
  FnExactWordsOf: the walk.
-/
import Derived.Test.YtnmjcoppbkjogaaL19S
import Derived.Test.YtnmjcoppbkjogaaSpanLaw
namespace Go.Proofs.Ytnmjcoppbkjogaa
open Go.RowKit
set_option linter.unusedVariables false
set_option maxRecDepth 100000
theorem OwnM.apart {e m : Nat} {w w1 : World} {B : Nat} {a : Option Addr} {n cap : Nat} {L : List Int} {row : Option Nat} (h : OwnM e m w B a n cap L) (hg : w.grownBy w1 row) (hne : ∀ k, (Value.slice a n cap).ownBlock = some k → row ≠ some k) : OwnM e m w1 B a n cap L :=
  ⟨h.1, h.2.kept hg (by
    cases hv : (Value.slice a n cap).ownBlock with
    | none => exact .inl rfl
    | some k => exact .inr fun e2 => hne k hv e2.symm)⟩
set_option maxHeartbeats 2000000 in
theorem law_FnExactWordsOf (r : ByteArray) (hr : r.size ≤ maxLen) (w : World) :
    Calls Try.prog 9 #[.string r] w fun e w' => e = .returned (.bool true) ∧ Below w.heap.size w w' := by
  unfold maxLen at hr
  by_cases hrl : r.size ≤ 1048576
  · have hrd : ¬ (1048576 : Int) < (r.size : Int) := by omega
    have hlen := wordsV_len r
    have HSP := fun W => spec_wordsOf r W hrl
    have HIP := fun W => impl_wordsOf r W hrl
    have hl := spL_length (wordsV r)
    generalize wordsV r = V at *
    generalize V.length = N at *
    generalize spL V = L at *
    have HL := Lib.hid hl
    have HSP := Lib.hid HSP; have HIP := Lib.hid HIP
    have e1 : ((1 : Int) + (N : Int) * 2 != 1 + (N : Int) * 2) = false := by simp
    clear hl
    go_enter Try.func9, Try.ntmps9
    go_wp2_with fail
    refine (HSP.out _).mono ?_
    rintro e w1 ⟨a1, cap1, rfl, hW, hb1⟩
    have hW1 := hW.turn_lt
    have HB := hb1
    go_wp2_with fail
    refine (HIP.out _).mono ?_
    rintro e w2 ⟨a2, cap2, rfl, hG, hb2⟩
    have hG2 : ∀ j, (Value.slice a2 N cap2).ownBlock = some j → w1.heap.size ≤ j := fun j hj => (hG.2.lt j hj).1
    have hz1 := hb1.size
    have hz2 := hb2.size
    replace HB := below_step HB hb2
    replace hW := hW.kept hb2
    clear hb1 hb2
    go_wp2_with fail
    refine (laws_eqSpanS L _ _ N _ _ _ HL.out hG.ints hW.ints (by omega)).mono ?_
    rintro e w3 ⟨rfl, hb3⟩
    have hz3 := hb3.size
    replace HB := below_step HB hb3
    replace hW := hW.kept hb3
    replace hG := hG.kept hb3
    clear hb3
    go_wp2_with fail
    refine (laws_markSpanS L _ N _ _ _ _ hG (by omega) (by omega) (by omega)).mono ?_
    rintro e w4 ⟨M, rfl, hM, hU, hg4⟩
    have hz4 := hg4.size
    replace HB := HB.trans ((hG.turn (by omega) hg4).mono (show w.heap.size ≤ w1.heap.size by omega))
    replace hW := hW.apart hg4 (fun j hj e => by have := hW1 _ hj; have := hG2 _ e; omega)
    have hLM := Lib.hid hM.len
    clear hG hg4
    go_wp2_with fail
    refine (laws_heldSpanS M _ N _ _ _ hLM.out hM.ints hU (by omega) (by omega) (by omega)).mono ?_
    rintro e w5 ⟨rfl, hb5⟩
    replace HB := below_step HB hb5
    replace hW := hW.kept hb5
    replace hM := hM.kept hb5
    clear hb5
    go_wp2_with fail
    refine (HIP.out _).mono ?_
    rintro e w6 ⟨a6, cap6, rfl, hH, hb6⟩
    replace HB := below_step HB hb6
    replace hW := hW.kept hb6
    replace hM := hM.kept hb6
    clear hb6
    go_wp2_with fail
    refine (laws_eqSpanS L _ _ N _ _ _ HL.out hH.ints hW.ints (by omega)).mono ?_
    rintro e w7 ⟨rfl, hb7⟩
    replace HB := below_step HB hb7
    replace hM := hM.kept hb7
    clear hb7
    go_wp2_with fail
    refine (laws_heldSpanS M _ N _ _ _ hLM.out hM.ints hU (by omega) (by omega) (by omega)).mono ?_
    rintro e w8 ⟨rfl, hb8⟩
    replace HB := below_step HB hb8
    clear hb8
    go_wp2_with fail
    go_ret
    exact ⟨rfl, HB⟩
  · have hrd : (1048576 : Int) < (r.size : Int) := by omega
    go_enter Try.func9, Try.ntmps9
    go_wp2_with fail
    go_ret
    exact ⟨rfl, Below.refl _ _⟩
end Go.Proofs.Ytnmjcoppbkjogaa

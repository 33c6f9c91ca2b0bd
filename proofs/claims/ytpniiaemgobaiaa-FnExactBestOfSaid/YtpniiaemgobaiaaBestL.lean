/-
  FnExactBestOf: the walk (by wip/tools/mk_foundlaw.py).
-/
import Derived.Test.YtpniiaemgobaiaaBestI
import Derived.Test.YtpniiaemgobaiaaBestM
import Derived.Test.YtpniiaemgobaiaaFoundLaw
import Derived.Test.YtpniiaemgobaiaaFoundIn
namespace Go.Proofs.Ytpniiaemgobaiaa
open Go.RowKit
set_option linter.unusedVariables false
set_option maxRecDepth 100000
theorem OwnM.apart_FnExactBestOf {e m : Nat} {w w1 : World} {B : Nat} {a : Option Addr} {n cap : Nat} {L : List Int} {row : Option Nat} (h : OwnM e m w B a n cap L) (hg : w.grownBy w1 row) (hne : ∀ k, (Value.slice a n cap).ownBlock = some k → row ≠ some k) : OwnM e m w1 B a n cap L :=
  ⟨h.1, h.2.kept hg (by
    cases hv : (Value.slice a n cap).ownBlock with
    | none => exact .inl rfl
    | some k => exact .inr fun e2 => hne k hv e2.symm)⟩
set_option maxHeartbeats 8000000 in
theorem law_FnExactBestOf (L : List Int) (n : Nat) (a : Option Addr) (cap : Nat) (hL : L.length = n * 3) (hm : n ≤ maxLen) (w : World) (h : Ints w a L) :
    Calls Try.prog 4 #[.slice a n cap] w fun e w' => e = .returned (.bool true) ∧ Below w.heap.size w w' := by
  unfold maxLen at hm
  have HL := Lib.hid hL
  have HV := Lib.hid h
  clear hL h
  go_enter Try.func4, Try.ntmps4
  go_wp2_with fail
  refine (laws_szFoundS a n cap _ _ (by omega) (by omega) (by omega)).mono ?_
  rintro e w1 ⟨rfl, hb1⟩
  have HB := hb1
  clear hb1
  by_cases hbig : (1048576 : Int) < (n : Int)
  · rw [if_pos hbig]
    go_wp2_with fail
    go_ret
    exact ⟨rfl, HB⟩
  · rw [if_neg hbig]
    have hd : ¬ (1048576 : Int) - (n : Int) < 0 := by omega
    have hn : n ≤ 1048576 := by omega
    obtain ⟨l, hl⟩ : ∃ l, fdOf L n = l := ⟨_, rfl⟩
    have hfl : fdI l = L := by rw [← hl]; exact fdI_of HL.out
    have hln : l.length = n := by rw [← hl]; exact fdOf_length L n
    have hl1 := bestV_len l
    have HSP := fun a' cap' W (hv : Ints W a' (fdI l)) => spec_bestOf l n a' cap' W hln hv (by omega)
    have HI := fun a' cap' W (hv : Ints W a' (fdI l)) => impl_bestOf l n a' cap' W hln hv (by omega)
    rw [hfl] at HSP HI
    rw [hln] at hl1
    have hgl : (fdI (bestV l)).length = (bestV l).length * 3 := fdI_length _
    obtain ⟨r, hr⟩ : ∃ r, bestW l = r := ⟨_, rfl⟩
    rw [hr] at HSP HI
    generalize bestV l = G at *
    obtain ⟨N, hN⟩ : ∃ N, G.length = N := ⟨_, rfl⟩
    rw [hN] at HSP HI hl1 hgl
    have HSP := Lib.hid HSP; have HI := Lib.hid HI; have HGL := Lib.hid hgl
    have hN2 : N ≤ 1048576 := by omega
    have e1 : ((1 : Int) + (N : Int) * 3 != 1 + (N : Int) * 3) = false := by simp
    have e3 : decide ((1 : Int) + (n : Int) * 3 < 0) = false := decide_eq_false (by omega)
    have e4 : decide ((1 : Int) + (N : Int) * 3 < 0) = false := decide_eq_false (by omega)
    have e5 : (r != r) = false := by simp
    clear hr
    clear hl hfl hln hgl hN
    go_wp2_with fail
    refine (laws_toFoundS L a n cap _ HL.out (HV.out.kept HB) (by omega)).mono ?_
    rintro e w2 ⟨a2, cap2, rfl, hO2, hb2⟩
    replace HB := below_step HB hb2
    clear hb2
    go_wp2_with fail
    refine (HSP.out _ _ _ hO2.ints).mono ?_
    rintro e w3 ⟨a3, cap3, rfl, hW, hb3⟩
    have hW3 := hW.turn_lt
    replace HB := below_step HB hb3
    clear hb3
    clear hO2
    go_wp2_with fail
    refine (laws_toFoundS L a n cap _ HL.out (HV.out.kept HB) (by omega)).mono ?_
    rintro e w4 ⟨a4, cap4, rfl, hX, hb4⟩
    have hx4 : ∀ j, (Value.slice a4 n cap4).ownBlock = some j → w3.heap.size ≤ j ∧ j < w4.heap.size := fun j hj => hX.2.lt j hj
    have hz3 := HB.size
    have hz4 := hb4.size
    replace HB := below_step HB hb4
    replace hW := hW.kept hb4
    clear hb4
    go_wp2_with fail
    refine (HI.out _ _ _ hX.ints).mono ?_
    rintro e w5 ⟨a5, cap5, rfl, hG, hb5⟩
    have hG5 : ∀ j, (Value.slice a5 N cap5).ownBlock = some j → w4.heap.size ≤ j := fun j hj => (hG.2.lt j hj).1
    have hz5 := hb5.size
    replace HB := below_step HB hb5
    replace hW := hW.kept hb5
    replace hX := hX.kept hb5
    clear hb5
    go_wp2_with fail
    refine (laws_eqFoundS _ _ _ N _ _ _ HGL.out hG.ints hW.ints (by omega)).mono ?_
    rintro e w6 ⟨rfl, hb6⟩
    have hz6 := hb6.size
    replace HB := below_step HB hb6
    replace hW := hW.kept hb6
    replace hX := hX.kept hb6
    replace hG := hG.kept hb6
    clear hb6
    go_wp2_with fail
    refine (laws_toFoundS L a n cap _ HL.out (HV.out.kept HB) (by omega)).mono ?_
    rintro e w7 ⟨a7, cap7, rfl, hO7, hb7⟩
    have hz7 := hb7.size
    replace HB := below_step HB hb7
    replace hW := hW.kept hb7
    replace hX := hX.kept hb7
    replace hG := hG.kept hb7
    clear hb7
    go_wp2_with fail
    refine (laws_eqFoundS _ _ _ n _ _ _ HL.out hX.ints hO7.ints (by omega)).mono ?_
    rintro e w8 ⟨rfl, hb8⟩
    have hz8 := hb8.size
    replace HB := below_step HB hb8
    replace hW := hW.kept hb8
    replace hX := hX.kept hb8
    replace hG := hG.kept hb8
    clear hb8
    clear hO7
    go_wp2_with fail
    refine (laws_markFoundS L _ n _ _ _ _ hX (by omega) (by omega) (by omega)).mono ?_
    rintro e w9 ⟨M9, rfl, _, _, hg9⟩
    have hz9 := hg9.size
    replace HB := HB.trans ((hX.turn (by omega) hg9).mono (show w.heap.size ≤ w3.heap.size from hz3))
    replace hW := hW.apart_FnExactBestOf hg9 (fun j hj e => by have h1 := hx4 _ e; have := hW3 _ hj; omega)
    replace hG := hG.apart_FnExactBestOf hg9 (fun j hj e => by have h1 := hx4 _ e; have := hG5 _ hj; omega)
    clear hX hg9
    go_wp2_with fail
    refine (laws_eqFoundS _ _ _ N _ _ _ HGL.out hG.ints hW.ints (by omega)).mono ?_
    rintro e w10 ⟨rfl, hb10⟩
    have hz10 := hb10.size
    replace HB := below_step HB hb10
    replace hW := hW.kept hb10
    replace hG := hG.kept hb10
    clear hb10
    go_wp2_with fail
    refine (laws_markFoundS _ _ N _ _ _ _ hG (by omega) (by omega) (by omega)).mono ?_
    rintro e w11 ⟨M, rfl, hM, hU, hg11⟩
    replace HB := HB.trans ((hG.turn (by omega) hg11).mono (show w.heap.size ≤ w4.heap.size by omega))
    replace hW := hW.apart_FnExactBestOf hg11 (fun j hj e => by have := hW3 _ hj; have := hG5 _ e; omega)
    have HU := Lib.hid hU
    clear hG hg11 hU
    go_wp2_with fail
    refine (laws_heldFoundS M _ N _ _ _ hM.len hM.ints HU.out (by omega) (by omega) (by omega)).mono ?_
    rintro e w12 ⟨rfl, hb12⟩
    replace HB := below_step HB hb12
    replace hW := hW.kept hb12
    replace hM := hM.kept hb12
    clear hb12
    go_wp2_with fail
    refine (laws_toFoundS L a n cap _ HL.out (HV.out.kept HB) (by omega)).mono ?_
    rintro e w13 ⟨a13, cap13, rfl, hO13, hb13⟩
    replace HB := below_step HB hb13
    replace hW := hW.kept hb13
    replace hM := hM.kept hb13
    clear hb13
    go_wp2_with fail
    refine (HI.out _ _ _ hO13.ints).mono ?_
    rintro e w14 ⟨a14, cap14, rfl, hH, hb14⟩
    replace HB := below_step HB hb14
    replace hW := hW.kept hb14
    replace hM := hM.kept hb14
    clear hb14
    clear hO13
    go_wp2_with fail
    refine (laws_eqFoundS _ _ _ N _ _ _ HGL.out hH.ints hW.ints (by omega)).mono ?_
    rintro e w15 ⟨rfl, hb15⟩
    replace HB := below_step HB hb15
    replace hM := hM.kept hb15
    clear hb15
    go_wp2_with fail
    refine (laws_heldFoundS M _ N _ _ _ hM.len hM.ints HU.out (by omega) (by omega) (by omega)).mono ?_
    rintro e w16 ⟨rfl, hb16⟩
    replace HB := below_step HB hb16
    clear hb16
    go_wp2_with fail
    go_ret
    exact ⟨rfl, HB⟩
end Go.Proofs.Ytpniiaemgobaiaa

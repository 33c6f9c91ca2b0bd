/-
  FnExactNear: the walk (by wip/tools/mk_nearl.py).
-/
import Derived.Test.YtgikjopmijomgaaNearImT
import Derived.Test.YtgikjopmijomgaaBkIn
import Derived.Test.YtgikjopmijomgaaStrLaw
namespace Go.Proofs.Ytgikjopmijomgaa
open Go.RowKit
set_option linter.unusedVariables false
set_option maxRecDepth 100000
theorem OwnV.apart {e m : Nat} {w w1 : World} {B : Nat} {a : Option Addr} {n cap : Nat} {V : List Value} {row : Option Nat} (h : OwnV e m w B a n cap V) (hg : w.grownBy w1 row) (hne : ∀ k, (Value.slice a n cap).ownBlock = some k → row ≠ some k) : OwnV e m w1 B a n cap V :=
  ⟨h.1, h.2.kept hg (by
    cases hv : (Value.slice a n cap).ownBlock with
    | none => exact .inl rfl
    | some k => exact .inr fun e2 => hne k hv e2.symm)⟩
set_option maxHeartbeats 8000000 in
theorem law_FnExactNear (T : List BkN) (n : Nat) (a : Option Addr) (cap : Nat) (hL : T.length = n) (hm : n ≤ maxLen) (hts : ∀ i, i < n → (bkAt T i).t.size ≤ maxLen) (s : ByteArray) (hs : s.size ≤ maxLen) (k : Int) (_wk : (Lit.int .i64 k).wf = true) (w : World) (h : Vals w a (bks T)) :
    Calls Try.prog 6 #[.slice a n cap, .string s, .int .i64 k] w fun e w' => e = .returned (.bool true) ∧ Below w.heap.size w w' := by
  unfold maxLen at hm hts hs
  have HT := Lib.hid hts
  have HL := Lib.hid hL
  have HV := Lib.hid h
  clear hts h hL
  by_cases hsl : s.size ≤ 1048576
  · have hrd : ¬ (1048576 : Int) < (s.size : Int) := by omega
    go_enter Try.func6, Try.ntmps6
    go_wp2_with fail
    refine (laws_szBkS T n a cap _ _ HL.out HV.out (by omega) (fun i hi => by have := HT.out i hi; omega) (by omega) (by omega)).mono ?_
    rintro e w1 ⟨r, rfl, hr, hb1⟩
    rcases hr with rfl | ⟨hr0, hr1, hr2, hr3⟩
    · go_wp2_with fail
      go_ret
      exact ⟨rfl, hb1⟩
    · have hn : n ≤ 1048576 := by omega
      have HS := Lib.hid (fun i (hi : i < n) => show (bkAt T i).t.size ≤ 1048576 by have := hr3 i hi; omega)
      have hl1 := nearT_len T s k
      rw [HL.out] at hl1
      have hst := strs_strL (nearT T s k)
      have HSP := fun a' cap' W (hv : Vals W a' (bks T)) => spec_near T n a' cap' s k W HL.out hv (by omega) HS.out hsl
      have HI := fun a' cap' W (hv : Vals W a' (bks T)) => impl_near T n a' cap' s k W HL.out hv (by omega) HS.out hsl
      generalize nearT T s k = L at hl1 hst HSP HI
      generalize treeOkB T s k = okb at HSP HI
      obtain ⟨u, hu⟩ : ∃ u : Nat → ByteArray, (fun i => txt (L.getD i [])) = u := ⟨_, rfl⟩
      obtain ⟨N, hN⟩ : ∃ N, L.length = N := ⟨_, rfl⟩
      rw [hu, hN] at hst
      rw [hst] at HSP HI
      rw [hN] at HSP HI hl1
      have HSP := Lib.hid HSP; have HI := Lib.hid HI
      have hN2 : N ≤ 1048576 := by omega
      have e1 : ((1 : Int) + (N : Int) != 1 + (N : Int)) = false := by simp
      have e2 : (okb != okb) = false := by simp
      have e3 : decide ((1 : Int) + (n : Int) * 3 < 0) = false := decide_eq_false (by omega)
      have e4 : decide ((1 : Int) + (N : Int) < 0) = false := decide_eq_false (by omega)
      have HB := hb1
      clear hst hu hN hr3 hr2 hb1
      go_wp2_with fail
      refine (laws_toBkS T n a cap _ HL.out (HV.out.kept HB) (by omega)).mono ?_
      rintro e w2 ⟨a2, cap2, rfl, hO2, hb2⟩
      replace HB := below_step HB hb2
      clear hb2
      go_wp2_with fail
      refine (HSP.out _ _ _ hO2.vals).mono ?_
      rintro e w3 ⟨a3, cap3, rfl, hW, hb3⟩
      have hW3 := hW.turn_lt
      replace HB := below_step HB hb3
      clear hb3
      clear hO2
      go_wp2_with fail
      refine (laws_toBkS T n a cap _ HL.out (HV.out.kept HB) (by omega)).mono ?_
      rintro e w4 ⟨a4, cap4, rfl, hX, hb4⟩
      have hX4 := hX.turn_lt
      have hX3 : ∀ j, (Value.slice a4 n cap4).ownBlock = some j → w3.heap.size ≤ j := fun j hj => (hX.2.lt j hj).1
      have hx4 : w3.heap.size ≤ w4.heap.size := hb4.size
      have hz3 := HB.size
      replace HB := below_step HB hb4
      replace hW := hW.kept hb4
      clear hb4
      go_wp2_with fail
      refine (HI.out _ _ _ hX.vals).mono ?_
      rintro e w5 ⟨a5, cap5, rfl, hG, hb5⟩
      have hG5 : ∀ j, (Value.slice a5 N cap5).ownBlock = some j → w4.heap.size ≤ j := fun j hj => (hG.2.lt j hj).1
      have hz5 := hb5.size
      replace HB := below_step HB hb5
      replace hW := hW.kept hb5
      replace hX := hX.kept hb5
      clear hb5
      go_wp2_with fail
      refine (laws_eqStringS u _ _ N _ _ _ hG.vals hW.vals (by omega)).mono ?_
      rintro e w6 ⟨rfl, hb6⟩
      have hz6 := hb6.size
      replace HB := below_step HB hb6
      replace hW := hW.kept hb6
      replace hX := hX.kept hb6
      replace hG := hG.kept hb6
      clear hb6
      go_wp2_with fail
      refine (laws_toBkS T n a cap _ HL.out (HV.out.kept HB) (by omega)).mono ?_
      rintro e w7 ⟨a7, cap7, rfl, hO7, hb7⟩
      have hz7 := hb7.size
      replace HB := below_step HB hb7
      replace hW := hW.kept hb7
      replace hX := hX.kept hb7
      replace hG := hG.kept hb7
      clear hb7
      go_wp2_with fail
      refine (laws_eqBkS T _ _ n _ _ _ HL.out hX.vals hO7.vals (by omega)).mono ?_
      rintro e w8 ⟨rfl, hb8⟩
      have hz8 := hb8.size
      replace HB := below_step HB hb8
      replace hW := hW.kept hb8
      replace hX := hX.kept hb8
      replace hG := hG.kept hb8
      clear hb8
      clear hO7
      go_wp2_with fail
      refine (laws_markBkS T _ n _ _ _ _ HL.out hX (by omega) (by omega) (by omega)).mono ?_
      rintro e w9 ⟨rfl, _, hg9⟩
      have hb9 : Below w4.heap.size w4 w4 := Below.refl _ _
      have hz9 := hg9.size
      replace HB := HB.trans ((hX.turn (by omega) hg9).mono (show w.heap.size ≤ w3.heap.size from hz3))
      replace hW := hW.apart hg9 (fun j hj e => by have := hX3 _ e; have := hW3 _ hj; omega)
      replace hG := hG.apart hg9 (fun j hj e => by have := hX4 _ e; have := hG5 _ hj; omega)
      clear hX hg9 hb9
      go_wp2_with fail
      refine (laws_eqStringS u _ _ N _ _ _ hG.vals hW.vals (by omega)).mono ?_
      rintro e w10 ⟨rfl, hb10⟩
      have hz10 := hb10.size
      replace HB := below_step HB hb10
      replace hW := hW.kept hb10
      replace hG := hG.kept hb10
      clear hb10
      go_wp2_with fail
      refine (laws_markStringS u _ N _ _ _ _ hG (by omega) (by omega) (by omega)).mono ?_
      rintro e w11 ⟨rfl, hM, hg11⟩
      replace HB := HB.trans ((hG.turn (by omega) hg11).mono (show w.heap.size ≤ w4.heap.size by omega))
      replace hW := hW.apart hg11 (fun j hj e => by have := hW3 _ hj; have := hG5 _ e; omega)
      clear hG hg11
      go_wp2_with fail
      refine (laws_heldStringS u _ N _ _ _ hM.vals (by omega) (by omega) (by omega)).mono ?_
      rintro e w12 ⟨rfl, hb12⟩
      replace HB := below_step HB hb12
      replace hW := hW.kept hb12
      replace hM := hM.kept hb12
      clear hb12
      go_wp2_with fail
      refine (laws_toBkS T n a cap _ HL.out (HV.out.kept HB) (by omega)).mono ?_
      rintro e w13 ⟨a13, cap13, rfl, hO13, hb13⟩
      replace HB := below_step HB hb13
      replace hW := hW.kept hb13
      replace hM := hM.kept hb13
      clear hb13
      go_wp2_with fail
      refine (HI.out _ _ _ hO13.vals).mono ?_
      rintro e w14 ⟨a14, cap14, rfl, hH, hb14⟩
      replace HB := below_step HB hb14
      replace hW := hW.kept hb14
      replace hM := hM.kept hb14
      clear hb14
      clear hO13
      go_wp2_with fail
      refine (laws_eqStringS u _ _ N _ _ _ hH.vals hW.vals (by omega)).mono ?_
      rintro e w15 ⟨rfl, hb15⟩
      replace HB := below_step HB hb15
      replace hM := hM.kept hb15
      clear hb15
      go_wp2_with fail
      refine (laws_heldStringS u _ N _ _ _ hM.vals (by omega) (by omega) (by omega)).mono ?_
      rintro e w16 ⟨rfl, hb16⟩
      replace HB := below_step HB hb16
      clear hb16
      go_wp2_with fail
      go_ret
      exact ⟨rfl, HB⟩
  · have hrd : (1048576 : Int) < (s.size : Int) := by omega
    go_enter Try.func6, Try.ntmps6
    go_wp2_with fail
    go_ret
    exact ⟨rfl, (by repeat (first | exact Below.refl _ _ | assumption | (refine Below.drew ?_) | (refine below_drewN ?_ _) | (refine Below.alloc ?_ (by first | omega | (simp; done) | (simp; omega)) _) | (refine Below.setCell ?_ (by first | omega | (simp; done) | (simp; omega)) _)))⟩
end Go.Proofs.Ytgikjopmijomgaa

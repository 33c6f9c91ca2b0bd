/-
  ReadDict, in the program.
-/
import Derived.Test.YtodmohepgmhipaaL2Word
import Derived.Test.YtodmohepgmhipaaL2Num3
import Derived.Test.YtodmohepgmhipaaL2Cut2
import Derived.Test.YtodmohepgmhipaaL2DictC
import Derived.Test.YtodmohepgmhipaaSesMark
import Derived.Test.YtodmohepgmhipaaAppV
import Derived.Test.YtodmohepgmhipaaPatsTo
namespace Go.Proofs.Ytodmohepgmhipaa
open Go.RowKit
set_option linter.unusedVariables false
set_option maxRecDepth 100000
theorem OwnV.low {e m : Nat} {w : World} {B n cap g o : Nat} {a : Option Addr} {V : List Value} (h : OwnV e m w B a n cap V) (hg : g < B) (x : Value) : OwnV e m (w.setCell ⟨g, o, none⟩ x) B a n cap V := by
  refine ⟨h.1, h.2.kept (grownBy_setCell1 w g o x) ?_⟩
  cases hv : (Value.slice a n cap).ownBlock with
  | none => exact .inl rfl
  | some q => exact .inr fun e => by have := (h.2.lt q hv).1; simp only [Option.some.injEq] at e; omega
set_option maxHeartbeats 4000000 in
theorem impl_readDict (s : ByteArray) (w : World) (hs : s.size ≤ 1048576) :
    Calls Try.prog 10 #[.string s] w fun e w' => ∃ a cap, e = .returned (.tuple #[.slice a (dAcc (dictAll s)).length cap, .int .i64 (dLine (dictAll s)), .int .i64 (dCol (dictAll s))]) ∧ OwnV 73 3 w' w.heap.size a (dAcc (dictAll s)).length cap (patsTo (dAcc (dictAll s)) (dAcc (dictAll s)).length) ∧ Below w.heap.size w w' := by
  have hmf : ∀ (fn : Fn) (first cap : Array Value) (w : World), (Instr.makeFunc fn first cap).run Try.prog w = .ok (.func fn first cap) w := fun _ _ _ _ => rfl
  obtain ⟨i0, hi, hz0, hz1, hz2⟩ := info_parts pat_info
  have hR0 : dictR (s.size + 1) s 0 [] = dictAll s := rfl
  generalize dictAll s = R0 at *
  have HR0 := Lib.hid hR0
  clear hR0
  have hw0 : ((w.alloc (.cells #[.slice none 0 0] 22)).alloc (.cells #[.int .i64 0] 2)).heap[w.heap.size]? = some (.cells #[.slice none 0 0] 22 (0, 0)) := heap_alloc2_old _ _ _
  have hw1 : ((w.alloc (.cells #[.slice none 0 0] 22)).alloc (.cells #[.int .i64 0] 2)).heap[w.heap.size + 1]? = some (.cells #[.int .i64 0] 2 (0, 0)) := heap_alloc2_new _ _ _
  have hB0 : Below w.heap.size w ((w.alloc (.cells #[.slice none 0 0] 22)).alloc (.cells #[.int .i64 0] 2)) := (by repeat (first | exact Below.refl _ _ | assumption | (refine Below.drew ?_) | (refine below_drewN ?_ _) | (refine Below.alloc ?_ (by first | omega | (simp; done) | (simp; omega)) _) | (refine Below.setCell ?_ (by first | omega | (simp; done) | (simp; omega)) _)))
  have hS0 : w.heap.size + 2 ≤ ((w.alloc (.cells #[.slice none 0 0] 22)).alloc (.cells #[.int .i64 0] 2)).heap.size := by simp
  have HW0 := Lib.hid hw0
  have HW1 := Lib.hid hw1
  have HB0 := Lib.hid hB0
  have HS0 := Lib.hid hS0
  clear hw0 hw1 hB0 hS0
  go_enter_defers Try.func10, Try.ntmps10
  go_wp2_with fail
  generalize ((w.alloc (.cells #[.slice none 0 0] 22)).alloc (.cells #[.int .i64 0] 2)) = V at *
  go_loopw [3, 5] (fun l x wr => ∃ (f k : Nat) (r : ByteArray) (acc : List Pt) (a : Option Addr) (cap : Nat), l = .int .i64 k ∧ x = .string r ∧ r.size < f ∧ k + r.size ≤ s.size ∧ dictR f r k acc = R0 ∧ acc.length ≤ 8 ∧ wr.heap[w.heap.size]? = some (.cells #[.slice a acc.length cap] 22 (0, 0)) ∧ wr.heap[w.heap.size + 1]? = some (.cells #[.int .i64 0] 2 (0, 0)) ∧ OwnV 73 3 wr (w.heap.size + 2) a acc.length cap (patsTo acc acc.length) ∧ w.heap.size + 2 ≤ wr.heap.size ∧ Below w.heap.size w wr)
    (fun _ x _ => strSz x)
  case atStart => exact ⟨s.size + 1, 0, s, [], none, 0, rfl, rfl, by omega, by omega, HR0.out, by decide, HW0.out, HW1.out, OwnV.nil _ _, HS0.out, HB0.out⟩
  case round =>
    obtain ⟨f, k, r, acc, a, cap, rfl, rfl, hf, hk, hR, h8, hw0, hw1, hO, hsz, hb⟩ := hrel
    have HO := Lib.hid hO
    have HB := Lib.hid hb
    have HW0 := Lib.hid hw0
    have HW1 := Lib.hid hw1
    clear hO hb hw0 hw1
    by_cases h0 : r.size = 0
    · have hr : r = ⟨#[]⟩ := str_empty h0
      subst hr
      have HE := Lib.hid (hR.symm.trans (dictR_end rfl))
      clear hR
      have c0 := cell_of_one HW0.out
      have f0 := free_of_one HW0.out
      have c1 := cell_of_one HW1.out
      have f1 := free_of_one HW1.out
      go_wp2
      refine leaves_cons (f := 46) (args := #[.pointer (some ⟨w.heap.size, 0, none⟩), .pointer (some ⟨w.heap.size + 1, 0, none⟩)]) (by simp) (by simp [go_sem]) ?_
      refine (rd_idle ⟨w.heap.size, 0, none⟩ ⟨w.heap.size + 1, 0, none⟩ _).mono ?_
      rintro e u' w'' ⟨rfl, rfl, rfl⟩
      rw [HE.out]
      simp [Leaves, settle, results, Try.results10, go_sem, c0, c1, dAcc, dLine, dCol]
      exact ⟨a, cap, ⟨rfl, rfl⟩, ((HO.out.low (by omega) _).low (by omega) _).mono (by omega), (HB.out.setCell (p := ⟨w.heap.size, 0, none⟩) (Nat.le_refl _) _).setCell (p := ⟨w.heap.size + 1, 0, none⟩) (by simp) _⟩
    · obtain ⟨f, rfl⟩ : ∃ g, f = g + 1 := ⟨f - 1, by omega⟩
      have hne : (r.toList == []) = false := ne_nil r (by omega)
      have HC := Lib.hid (fun w => cut_byte r 10 w (by omega))
      rw [show (10 : UInt8).toNat = 10 from rfl] at HC
      have hxs : (cutA r 10).size ≤ 1048576 := by have := cutA_size r 10; have := cutI_le r 10; omega
      have hbs := cutB_less (c := 10) h0
      have HRD := Lib.hid (fun w => impl_readPattern (cutA r 10) w (by omega))
      have hkw : k + 1 ≤ 1048577 := by omega
      cases hc : cutF r 10
      · have HE := Lib.hid (hR.symm.trans (dictR_open h0 hc))
        have ha : (cutA r 10).size = r.size := cutA_all hc
        clear hR
        generalize cutF r 10 = fl at *
        subst hc
        generalize cutA r 10 = x at *
        generalize cutB r 10 = y at *
        go_wp2_with fail
        refine (HC.out _).mono ?_
        rintro e w1 ⟨rfl, hb1⟩
        have HB1 := Lib.hid (HB.out.trans (hb1.mono HB.out.size))
        have HO1 := Lib.hid (HO.out.kept hb1)
        have HX0 := Lib.hid ((hb1.block w.heap.size (by omega)).trans HW0.out)
        have HX1 := Lib.hid ((hb1.block (w.heap.size + 1) (by omega)).trans HW1.out)
        have s01 := hb1.size
        clear hb1
        have c0 := cell_of_one HX0.out
        have f0 := free_of_one HX0.out
        have c1 := cell_of_one HX1.out
        have f1 := free_of_one HX1.out
        go_wp2_with fail
        refine leaves_cons (f := 46) (args := #[.pointer (some ⟨w.heap.size, 0, none⟩), .pointer (some ⟨w.heap.size + 1, 0, none⟩)]) (by simp) (by simp [go_sem]) ?_
        refine (rd_panicking ⟨w.heap.size, 0, none⟩ ⟨w.heap.size + 1, 0, none⟩ (.slice a acc.length cap) (.int .i64 0) (r.size : Int) [] _ (by omega) (by omega) c0 f0 ?_ ?_).mono ?_
        · exact (World.cell?_of_block (heap_setCell_other _ _ _ _ (by simp))).trans c1
        · exact (World.frozen?_of_block (heap_setCell_other _ _ _ _ (by simp))).trans f1
        rintro e u' w'' ⟨rfl, rfl, rfl⟩
        rw [HE.out]
        simp [Leaves, settle, results, Try.results10, go_sem, c0, c1, dAcc, dLine, dCol]
        exact ⟨none, 0, ⟨rfl, rfl⟩, OwnV.nil _ _, (HB1.out.setCell (p := ⟨w.heap.size, 0, none⟩) (Nat.le_refl _) _).setCell (p := ⟨w.heap.size + 1, 0, none⟩) (by simp) _⟩
      · by_cases hz : (cutA r 10).size = 0
        · have HE := Lib.hid ((dictR_skip h0 hc (.inl hz)).symm.trans hR)
          have hx := str_empty hz
          clear hR
          generalize cutF r 10 = fl at *
          subst hc
          generalize cutA r 10 = x at *
          subst hx
          generalize cutB r 10 = y at *
          go_wp2_with fail
          refine (HC.out _).mono ?_
          rintro e w1 ⟨rfl, hb1⟩
          have HB1 := Lib.hid (HB.out.trans (hb1.mono HB.out.size))
          have HO1 := Lib.hid (HO.out.kept hb1)
          have HX0 := Lib.hid ((hb1.block w.heap.size (by omega)).trans HW0.out)
          have HX1 := Lib.hid ((hb1.block (w.heap.size + 1) (by omega)).trans HW1.out)
          have s01 := hb1.size
          clear hb1
          go_wp2_with fail
          go_roundw
          case rel => exact ⟨f, k + 1, y, acc, a, cap, by go_num, rfl, by omega, by omega, HE.out, h8, HX0.out, HX1.out, HO1.out, (by omega), HB1.out⟩
          case measure => simp [strSz]; omega
        · have hn2 : ((cutA r 10).toList == []) = false := ne_nil _ (by omega)
          have hp : 0 < (cutA r 10).size := by omega
          have hhd := head_at (cutA r 10) hp
          obtain ⟨c, hcc⟩ : ∃ c, (cutA r 10)[0] = c := ⟨_, rfl⟩
          rw [hcc] at hhd
          by_cases h35 : c.toNat = 35
          · have hc35 : c = 35 := byte_of (n := 35) h35 (by decide)
            have HE := Lib.hid ((dictR_skip h0 hc (.inr (by rw [hhd, hc35]))).symm.trans hR)
            have hb35 : ((c.toNat : Int) == 35) = true := by simp; omega
            clear hR hhd hc35
            generalize cutF r 10 = fl at *
            subst hc
            generalize cutA r 10 = x at *
            generalize cutB r 10 = y at *
            go_wp2_with fail
            refine (HC.out _).mono ?_
            rintro e w1 ⟨rfl, hb1⟩
            have HB1 := Lib.hid (HB.out.trans (hb1.mono HB.out.size))
            have HO1 := Lib.hid (HO.out.kept hb1)
            have HX0 := Lib.hid ((hb1.block w.heap.size (by omega)).trans HW0.out)
            have HX1 := Lib.hid ((hb1.block (w.heap.size + 1) (by omega)).trans HW1.out)
            have s01 := hb1.size
            clear hb1
            go_wp2_with fail
            go_roundw
            case rel => exact ⟨f, k + 1, y, acc, a, cap, by go_num, rfl, by omega, by omega, HE.out, h8, HX0.out, HX1.out, HO1.out, (by omega), HB1.out⟩
            case measure => simp [strSz]; omega
          · have hb35 : ((c.toNat : Int) == 35) = false := by simp; omega
            have hns : ¬ ((cutA r 10).size = 0 ∨ (cutA r 10).data.toList.head? = some 35) := fun h => h.elim hz (fun h2 => by rw [hhd] at h2; have h3 := Option.some.inj h2; exact h35 (by rw [h3]; rfl))
            cases hl : lineR (cutA r 10) with
            | error q =>
              have HE := Lib.hid (hR.symm.trans (dictR_bad h0 hc hns hl))
              have hq := lineR_err hl
              rw [hl] at HRD
              clear hR hhd hns hl
              generalize cutF r 10 = fl at *
              subst hc
              generalize cutA r 10 = x at *
              generalize cutB r 10 = y at *
              go_wp2_with fail
              refine (HC.out _).mono ?_
              rintro e w1 ⟨rfl, hb1⟩
              have HB1 := Lib.hid (HB.out.trans (hb1.mono HB.out.size))
              have HO1 := Lib.hid (HO.out.kept hb1)
              have HX0 := Lib.hid ((hb1.block w.heap.size (by omega)).trans HW0.out)
              have HX1 := Lib.hid ((hb1.block (w.heap.size + 1) (by omega)).trans HW1.out)
              have s01 := hb1.size
              clear hb1
              go_wp2_with fail
              refine (HRD.out _).mono ?_
              rintro e w2 ⟨he, hb2⟩
              obtain rfl : e = .panicked [{ v := .iface 76 (.int .i64 (q : Int)), recovered := false }] := he
              have HB2 := Lib.hid (HB1.out.trans (hb2.mono HB1.out.size))
              have HO2 := Lib.hid (HO1.out.kept hb2)
              have HY0 := Lib.hid ((hb2.block w.heap.size (by omega)).trans HX0.out)
              have HY1 := Lib.hid ((hb2.block (w.heap.size + 1) (by omega)).trans HX1.out)
              have s12 := hb2.size
              clear hb2
              have c0 := cell_of_one HY0.out
              have f0 := free_of_one HY0.out
              have c1 := cell_of_one HY1.out
              have f1 := free_of_one HY1.out
              go_wp2_with fail
              refine leaves_cons (f := 46) (args := #[.pointer (some ⟨w.heap.size, 0, none⟩), .pointer (some ⟨w.heap.size + 1, 0, none⟩)]) (by simp) (by simp [go_sem]) ?_
              refine (rd_panicking ⟨w.heap.size, 0, none⟩ ⟨w.heap.size + 1, 0, none⟩ (.slice a acc.length cap) (.int .i64 0) (q : Int) [] _ (by omega) (by omega) c0 f0 ?_ ?_).mono ?_
              · exact (World.cell?_of_block (heap_setCell_other _ _ _ _ (by simp))).trans c1
              · exact (World.frozen?_of_block (heap_setCell_other _ _ _ _ (by simp))).trans f1
              rintro e u' w'' ⟨rfl, rfl, rfl⟩
              rw [HE.out]
              simp [Leaves, settle, results, Try.results10, go_sem, c0, c1, dAcc, dLine, dCol]
              exact ⟨none, 0, ⟨rfl, rfl⟩, OwnV.nil _ _, (HB2.out.setCell (p := ⟨w.heap.size, 0, none⟩) (Nat.le_refl _) _).setCell (p := ⟨w.heap.size + 1, 0, none⟩) (by simp) _⟩
            | ok p =>
              rw [hl] at HRD
              obtain ⟨pt, pk, pf⟩ := p
              by_cases h88 : acc.length = 8
              · have HE := Lib.hid (hR.symm.trans (dictR_full h0 hc hns hl h88))
                clear hR hhd hns hl
                generalize cutF r 10 = fl at *
                subst hc
                generalize cutA r 10 = x at *
                generalize cutB r 10 = y at *
                go_wp2_with fail
                refine (HC.out _).mono ?_
                rintro e w1 ⟨rfl, hb1⟩
                have HB1 := Lib.hid (HB.out.trans (hb1.mono HB.out.size))
                have HO1 := Lib.hid (HO.out.kept hb1)
                have HX0 := Lib.hid ((hb1.block w.heap.size (by omega)).trans HW0.out)
                have HX1 := Lib.hid ((hb1.block (w.heap.size + 1) (by omega)).trans HW1.out)
                have s01 := hb1.size
                clear hb1
                go_wp2_with fail
                refine (HRD.out _).mono ?_
                rintro e w2 ⟨he, hb2⟩
                obtain rfl : e = .returned (.agg #[.string pt, .int .i64 pk, .bool pf]) := he
                have HB2 := Lib.hid (HB1.out.trans (hb2.mono HB1.out.size))
                have HO2 := Lib.hid (HO1.out.kept hb2)
                have HY0 := Lib.hid ((hb2.block w.heap.size (by omega)).trans HX0.out)
                have HY1 := Lib.hid ((hb2.block (w.heap.size + 1) (by omega)).trans HX1.out)
                have s12 := hb2.size
                clear hb2
                have c0 := cell_of_one HY0.out
                have f0 := free_of_one HY0.out
                have c1 := cell_of_one HY1.out
                have f1 := free_of_one HY1.out
                have y0 : w.heap.size < w2.heap.size := by omega
                have y1 : w.heap.size + 1 < w2.heap.size := by omega
                have hbA : Below w2.heap.size w2 (w2.alloc (.cells #[.string pt, .int .i64 pk, .bool pf] 73)) := (Below.refl _ _).alloc (Nat.le_refl _) _
                have HZ0 := Lib.hid ((hbA.block _ y0).trans HY0.out)
                have HZ1 := Lib.hid ((hbA.block _ y1).trans HY1.out)
                have HBA := Lib.hid (HB2.out.trans (hbA.mono HB2.out.size))
                clear hbA
                go_wp2_with fail
                clear c0 f0 c1 f1
                have c0 := cell_of_one HZ0.out
                have f0 := free_of_one HZ0.out
                have c1 := cell_of_one HZ1.out
                have f1 := free_of_one HZ1.out
                refine leaves_cons (f := 46) (args := #[.pointer (some ⟨w.heap.size, 0, none⟩), .pointer (some ⟨w.heap.size + 1, 0, none⟩)]) (by simp) (by simp [go_sem]) ?_
                refine (rd_panicking ⟨w.heap.size, 0, none⟩ ⟨w.heap.size + 1, 0, none⟩ (.slice a acc.length cap) (.int .i64 0) (0 : Int) [] _ (by omega) (by omega) c0 f0 ?_ ?_).mono ?_
                · exact (World.cell?_of_block (heap_setCell_other _ _ _ _ (by simp))).trans c1
                · exact (World.frozen?_of_block (heap_setCell_other _ _ _ _ (by simp))).trans f1
                rintro e u' w'' ⟨rfl, rfl, rfl⟩
                rw [HE.out]
                simp [Leaves, settle, results, Try.results10, go_sem, c0, c1, dAcc, dLine, dCol]
                exact ⟨none, 0, ⟨rfl, rfl⟩, OwnV.nil _ _, (HBA.out.setCell (p := ⟨w.heap.size, 0, none⟩) (Nat.le_refl _) _).setCell (p := ⟨w.heap.size + 1, 0, none⟩) (by simp) _⟩
              · have HE := Lib.hid ((dictR_more h0 hc hns hl h88).symm.trans hR)
                have HSN := Lib.hid (patsTo_snoc acc ⟨pt, pk, pf⟩)
                clear hR hhd hns hl
                generalize cutF r 10 = fl at *
                subst hc
                generalize cutA r 10 = x at *
                generalize cutB r 10 = y at *
                go_wp2_with fail
                refine (HC.out _).mono ?_
                rintro e w1 ⟨rfl, hb1⟩
                have HB1 := Lib.hid (HB.out.trans (hb1.mono HB.out.size))
                have HO1 := Lib.hid (HO.out.kept hb1)
                have HX0 := Lib.hid ((hb1.block w.heap.size (by omega)).trans HW0.out)
                have HX1 := Lib.hid ((hb1.block (w.heap.size + 1) (by omega)).trans HW1.out)
                have s01 := hb1.size
                clear hb1
                go_wp2_with fail
                refine (HRD.out _).mono ?_
                rintro e w2 ⟨he, hb2⟩
                obtain rfl : e = .returned (.agg #[.string pt, .int .i64 pk, .bool pf]) := he
                have HB2 := Lib.hid (HB1.out.trans (hb2.mono HB1.out.size))
                have HO2 := Lib.hid (HO1.out.kept hb2)
                have HY0 := Lib.hid ((hb2.block w.heap.size (by omega)).trans HX0.out)
                have HY1 := Lib.hid ((hb2.block (w.heap.size + 1) (by omega)).trans HX1.out)
                have s12 := hb2.size
                clear hb2
                have c0 := cell_of_one HY0.out
                have f0 := free_of_one HY0.out
                have c1 := cell_of_one HY1.out
                have f1 := free_of_one HY1.out
                have y0 : w.heap.size < w2.heap.size := by omega
                have y1 : w.heap.size + 1 < w2.heap.size := by omega
                have hBK : Below w2.heap.size w2 ((w2.alloc (.cells #[.string pt, .int .i64 pk, .bool pf] 73)).alloc (.cells #[.string pt, .int .i64 pk, .bool pf] 73)) := ((Below.refl _ _).alloc (Nat.le_refl _) _).alloc (by simp) _
                have HO3 := Lib.hid (HO2.out.kept hBK)
                have HB3 := Lib.hid (HB2.out.trans (hBK.mono HB2.out.size))
                have HCC := Lib.hid (cells_new (w2.alloc (.cells #[.string pt, .int .i64 pk, .bool pf] 73)) #[.string pt, .int .i64 pk, .bool pf] 73)
                have HZ0 := Lib.hid ((hBK.block _ y0).trans HY0.out)
                have HZ1 := Lib.hid ((hBK.block _ y1).trans HY1.out)
                have HSZ := Lib.hid hBK.size
                have HL4 := Lib.hid (show (acc ++ [(⟨pt, pk, pf⟩ : Pt)]).length = acc.length + 1 by rw [List.length_append]; rfl)
                clear hBK
                go_wp2_with (at_builtin; refine wpList_append_own _ rfl _ _ 22 rfl (w.heap.size + 2) 73 i0 (.agg #[.string ⟨#[]⟩, .int .i64 0, .bool false]) 3 32 Try.underlying22 hi hz0 hz1 hz2 rfl (by decide) _ _ _ rfl HO3.out.2 ⟨w2.heap.size + 1, 0, none⟩ 1 1 [.string pt, .int .i64 pk, .bool pf] rfl rfl (by have := HCC.out; simpa using this) (by simp [Value.oneCell']) (by unfold maxLen; omega) (by omega) (by have := HSZ.out; omega) ?_; intro v3 w3 hown3 hg3 _; obtain ⟨a3, cap3, rfl, hO4⟩ := OwnV.shape (show (patsTo (acc ++ [(⟨pt, pk, pf⟩ : Pt)]) (acc ++ [(⟨pt, pk, pf⟩ : Pt)]).length).length = (acc ++ [(⟨pt, pk, pf⟩ : Pt)]).length * 3 from patsTo_length _ _) (show w3.ownsRow (w.heap.size + 2) 73 3 v3 (acc ++ [(⟨pt, pk, pf⟩ : Pt)]).length (patsTo (acc ++ [(⟨pt, pk, pf⟩ : Pt)]) (acc ++ [(⟨pt, pk, pf⟩ : Pt)]).length) by rw [HSN.out, HL4.out]; exact hown3); have hT := HO3.out.turn (by have := HSZ.out; omega) hg3; have hq0 := (hT.block w.heap.size (by omega)).trans HZ0.out; have hq1 := (hT.block (w.heap.size + 1) (by omega)).trans HZ1.out; have HO4 := Lib.hid hO4; have HB4 := Lib.hid (HB3.out.trans (hT.mono (by omega))); have HT := Lib.hid hT; have HQ0 := Lib.hid hq0; have HQ1 := Lib.hid hq1; have k0 := cell_of_one hq0; have kf := free_of_one hq0; clear hown3 hg3 hO4 hT hq0 hq1)
                have HN0 := Lib.hid (heap_setCell_same w3 w.heap.size 0 _ 22 (.slice a3 (acc ++ [(⟨pt, pk, pf⟩ : Pt)]).length cap3) HQ0.out)
                have HN1 := Lib.hid ((heap_setCell_other w3 ⟨w.heap.size, 0, none⟩ (w.heap.size + 1) (.slice a3 (acc ++ [(⟨pt, pk, pf⟩ : Pt)]).length cap3) (by simp)).trans HQ1.out)
                have hs3 : w.heap.size + 2 ≤ w3.heap.size := by have := HT.out.size; have := HSZ.out; omega
                go_roundw
                case rel => exact ⟨f, k + 1, y, acc ++ [(⟨pt, pk, pf⟩ : Pt)], a3, cap3, by go_num, rfl, by omega, by omega, HE.out, by rw [HL4.out]; omega, by simpa using HN0.out, by simpa using HN1.out, HO4.out.low (by omega) _, by simpa using hs3, HB4.out.setCell (p := ⟨w.heap.size, 0, none⟩) (Nat.le_refl _) _⟩
                case measure => simp [strSz]; omega
end Go.Proofs.Ytodmohepgmhipaa

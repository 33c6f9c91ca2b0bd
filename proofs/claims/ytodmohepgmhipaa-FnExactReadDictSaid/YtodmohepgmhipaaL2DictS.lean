/-
  ReadDict, in the model.
-/
import Derived.Test.YtodmohepgmhipaaL2ReadS
import Derived.Test.YtodmohepgmhipaaL2Num3
import Derived.Test.YtodmohepgmhipaaSesMark
import Derived.Test.YtodmohepgmhipaaAppV
import Derived.Test.YtodmohepgmhipaaPatsTo
namespace Go.Proofs.Ytodmohepgmhipaa
open Go.RowKit
set_option linter.unusedVariables false
set_option maxRecDepth 100000
set_option maxHeartbeats 4000000 in
theorem spec_readDict (s : ByteArray) (w : World) (hs : s.size ≤ 1048576) :
    Calls Try.prog 9 #[.string s] w fun e w' => ∃ a cap, e = .returned (.tuple #[.slice a (dAcc (dictAll s)).length cap, .int .i64 (dLine (dictAll s)), .int .i64 (dCol (dictAll s))]) ∧ Pats w' a (dAcc (dictAll s)) ∧ Below w.heap.size w w' := by
  obtain ⟨i0, hi, hz0, hz1, hz2⟩ := info_parts pat_info
  have hR0 : dictR (s.size + 1) s 0 [] = dictAll s := rfl
  generalize dictAll s = R0 at *
  have HR0 := Lib.hid hR0
  clear hR0
  have HO0 := Lib.hid (show OwnV 73 3 (w.alloc (.cells #[] 73)) w.heap.size (some ⟨w.heap.size, 0, none⟩) 0 0 (patsTo [] 0) from ⟨rfl, by have := World.ownsRow_made (base := w.heap.size) (e := 73) (size := 3) w #[] 0 (Nat.le_refl _) (by decide) rfl; exact this⟩)
  have HB0 := Lib.hid ((Below.refl w.heap.size w).alloc (Nat.le_refl _) (.cells #[] 73))
  go_enter Try.func9, Try.ntmps9
  go_wp2
  generalize w.alloc (.cells #[] 73) = V at *
  go_loopw [5, 6, 7] (fun o x l wr => ∃ (f k : Nat) (r : ByteArray) (acc : List Pt) (a : Option Addr) (cap : Nat), l = .int .i64 ((k : Int) + 1) ∧ x = .string r ∧ o = .slice a acc.length cap ∧ r.size < f ∧ k + r.size ≤ s.size ∧ dictR f r k acc = R0 ∧ acc.length ≤ 8 ∧ OwnV 73 3 wr w.heap.size a acc.length cap (patsTo acc acc.length) ∧ Below w.heap.size w wr)
    (fun _ x _ _ => strSz x)
  case atStart => exact ⟨s.size + 1, 0, s, [], _, 0, rfl, rfl, rfl, by omega, by omega, HR0.out, by decide, HO0.out, HB0.out⟩
  case round =>
    obtain ⟨f, k, r, acc, a, cap, rfl, rfl, rfl, hf, hk, hR, h8, hO, hb⟩ := hrel
    have HO := Lib.hid hO
    have HB := Lib.hid hb
    clear hO hb
    by_cases h0 : r.size = 0
    · have hr : r = ⟨#[]⟩ := str_empty h0
      subst hr
      have HE := Lib.hid (hR.symm.trans (dictR_end rfl))
      clear hR
      go_wp2
      go_ret3
      exact ⟨a, cap, by rw [HE.out]; rfl, by rw [HE.out]; exact (patsTo_pats acc).pats HO.out.vals, HB.out⟩
    · obtain ⟨f, rfl⟩ : ∃ g, f = g + 1 := ⟨f - 1, by omega⟩
      have hne : (r.toList == []) = false := ne_nil r (by omega)
      have HC := Lib.hid (fun w => spec_l1Cut r 10 (by omega) w (by omega))
      have hxs : (cutA r 10).size ≤ 1048576 := by have := cutA_size r 10; have := cutI_le r 10; omega
      have hbs := cutB_less (c := 10) h0
      have HRD := Lib.hid (fun w => spec_l2Read (cutA r 10) w (by omega))
      cases hc : cutF r 10
      · have HE := Lib.hid (hR.symm.trans (dictR_open h0 hc))
        have ha : (cutA r 10).size = r.size := cutA_all hc
        clear hR
        generalize cutF r 10 = fl at *
        subst hc
        generalize cutA r 10 = x at *
        generalize cutB r 10 = y at *
        go_wp2_with fail
        refine (HC.out _).mono ?_
        rintro e w1 ⟨rfl, hb1⟩
        have HB1 := Lib.hid (HB.out.trans (hb1.mono HB.out.size))
        clear hb1
        go_wp2_with fail
        go_ret3
        exact ⟨none, 0, by rw [HE.out]; rfl, by rw [HE.out]; exact .inl rfl, HB1.out⟩
      · by_cases hz : (cutA r 10).size = 0
        · have HE := Lib.hid ((dictR_skip h0 hc (.inl hz)).symm.trans hR)
          have hx := str_empty hz
          clear hR
          generalize cutF r 10 = fl at *
          subst hc
          generalize cutA r 10 = x at *
          subst hx
          generalize cutB r 10 = y at *
          go_wp2_with fail
          refine (HC.out _).mono ?_
          rintro e w1 ⟨rfl, hb1⟩
          have HB1 := Lib.hid (HB.out.trans (hb1.mono HB.out.size))
          have HO1 := Lib.hid (HO.out.kept hb1)
          have s01 := hb1.size
          clear hb1
          go_wp2_with fail
          go_roundw
          case rel => exact ⟨f, k + 1, y, acc, a, cap, by go_num, rfl, rfl, by omega, by omega, HE.out, h8, HO1.out, HB1.out⟩
          case measure => simp [strSz]; omega
        · have hn2 : ((cutA r 10).toList == []) = false := ne_nil _ (by omega)
          have hp : 0 < (cutA r 10).size := by omega
          have hhd := head_at (cutA r 10) hp
          obtain ⟨c, hcc⟩ : ∃ c, (cutA r 10)[0] = c := ⟨_, rfl⟩
          rw [hcc] at hhd
          by_cases h35 : c.toNat = 35
          · have hc35 : c = 35 := byte_of (n := 35) h35 (by decide)
            have HE := Lib.hid ((dictR_skip h0 hc (.inr (by rw [hhd, hc35]))).symm.trans hR)
            have hb35 : ((c.toNat : Int) == 35) = true := by simp; omega
            clear hR hhd hc35
            generalize cutF r 10 = fl at *
            subst hc
            generalize cutA r 10 = x at *
            generalize cutB r 10 = y at *
            go_wp2_with fail
            refine (HC.out _).mono ?_
            rintro e w1 ⟨rfl, hb1⟩
            have HB1 := Lib.hid (HB.out.trans (hb1.mono HB.out.size))
            have HO1 := Lib.hid (HO.out.kept hb1)
            have s01 := hb1.size
            clear hb1
            go_wp2_with fail
            go_roundw
            case rel => exact ⟨f, k + 1, y, acc, a, cap, by go_num, rfl, rfl, by omega, by omega, HE.out, h8, HO1.out, HB1.out⟩
            case measure => simp [strSz]; omega
          · have hb35 : ((c.toNat : Int) == 35) = false := by simp; omega
            have hns : ¬ ((cutA r 10).size = 0 ∨ (cutA r 10).data.toList.head? = some 35) := fun h => h.elim hz (fun h2 => by rw [hhd] at h2; have h3 := Option.some.inj h2; exact h35 (by rw [h3]; rfl))
            cases hl : lineR (cutA r 10) with
            | error q =>
              have HE := Lib.hid (hR.symm.trans (dictR_bad h0 hc hns hl))
              have hq := lineR_err hl
              rw [hl] at HRD
              have hq0 : (0 : Int) < (q : Int) + 1 := by omega
              clear hR hhd hns hl
              generalize cutF r 10 = fl at *
              subst hc
              generalize cutA r 10 = x at *
              generalize cutB r 10 = y at *
              go_wp2_with fail
              refine (HC.out _).mono ?_
              rintro e w1 ⟨rfl, hb1⟩
              have HB1 := Lib.hid (HB.out.trans (hb1.mono HB.out.size))
              have HO1 := Lib.hid (HO.out.kept hb1)
              have s01 := hb1.size
              clear hb1
              go_wp2_with fail
              refine (HRD.out _).mono ?_
              rintro e w2 ⟨rfl, hb2⟩
              have HB2 := Lib.hid (HB1.out.trans (hb2.mono HB1.out.size))
              clear hb2
              unfold linePat lineCol
              simp only
              go_wp2_with fail
              go_ret3
              exact ⟨none, 0, by rw [HE.out]; rfl, by rw [HE.out]; exact .inl rfl, by first | exact HB2.out | exact HB2.out.alloc HB2.out.size _⟩
            | ok p =>
              rw [hl] at HRD
              obtain ⟨pt, pk, pf⟩ := p
              by_cases h88 : acc.length = 8
              · have HE := Lib.hid (hR.symm.trans (dictR_full h0 hc hns hl h88))
                clear hR hhd hns hl
                generalize cutF r 10 = fl at *
                subst hc
                generalize cutA r 10 = x at *
                generalize cutB r 10 = y at *
                go_wp2_with fail
                refine (HC.out _).mono ?_
                rintro e w1 ⟨rfl, hb1⟩
                have HB1 := Lib.hid (HB.out.trans (hb1.mono HB.out.size))
                have HO1 := Lib.hid (HO.out.kept hb1)
                have s01 := hb1.size
                clear hb1
                go_wp2_with fail
                refine (HRD.out _).mono ?_
                rintro e w2 ⟨rfl, hb2⟩
                have HB2 := Lib.hid (HB1.out.trans (hb2.mono HB1.out.size))
                clear hb2
                unfold linePat lineCol
                simp only
                go_wp2_with fail
                go_ret3
                exact ⟨none, 0, by rw [HE.out]; rfl, by rw [HE.out]; exact .inl rfl, by first | exact HB2.out | exact HB2.out.alloc HB2.out.size _⟩
              · have HE := Lib.hid ((dictR_more h0 hc hns hl h88).symm.trans hR)
                have HSN := Lib.hid (patsTo_snoc acc ⟨pt, pk, pf⟩)
                clear hR hhd hns hl
                generalize cutF r 10 = fl at *
                subst hc
                generalize cutA r 10 = x at *
                generalize cutB r 10 = y at *
                go_wp2_with fail
                refine (HC.out _).mono ?_
                rintro e w1 ⟨rfl, hb1⟩
                have HB1 := Lib.hid (HB.out.trans (hb1.mono HB.out.size))
                have HO1 := Lib.hid (HO.out.kept hb1)
                have s01 := hb1.size
                clear hb1
                go_wp2_with fail
                refine (HRD.out _).mono ?_
                rintro e w2 ⟨rfl, hb2⟩
                unfold linePat lineCol
                simp only
                have hBK : Below w1.heap.size w1 ((w2.alloc (.cells #[.string pt, .int .i64 pk, .bool pf] 73)).alloc (.cells #[.string pt, .int .i64 pk, .bool pf] 73)) := (hb2.alloc hb2.size _).alloc (by simp; have := hb2.size; omega) _
                have HO2 := Lib.hid (HO1.out.kept hBK)
                have HB2 := Lib.hid (HB1.out.trans (hBK.mono HB1.out.size))
                have HCC := Lib.hid (cells_new (w2.alloc (.cells #[.string pt, .int .i64 pk, .bool pf] 73)) #[.string pt, .int .i64 pk, .bool pf] 73)
                have HSZ := Lib.hid hBK.size
                clear hb2 hBK
                go_wp2_with (at_builtin; refine wpList_append_own _ rfl _ _ 22 rfl w.heap.size 73 i0 (.agg #[.string ⟨#[]⟩, .int .i64 0, .bool false]) 3 32 Try.underlying22 hi hz0 hz1 hz2 rfl (by decide) _ _ _ rfl HO2.out.2 ⟨w2.heap.size + 1, 0, none⟩ 1 1 [.string pt, .int .i64 pk, .bool pf] rfl rfl (by have := HCC.out; simpa using this) (by simp [Value.oneCell']) (by unfold maxLen; omega) (by omega) (by have := HB1.out.size; have := HSZ.out; omega) ?_; intro v3 w3 hown3 hg3 _)
                have HL4 := Lib.hid (show (acc ++ [(⟨pt, pk, pf⟩ : Pt)]).length = acc.length + 1 by rw [List.length_append]; rfl)
                obtain ⟨a3, cap3, rfl, hO3⟩ := OwnV.shape (show (patsTo (acc ++ [(⟨pt, pk, pf⟩ : Pt)]) (acc ++ [(⟨pt, pk, pf⟩ : Pt)]).length).length = (acc ++ [(⟨pt, pk, pf⟩ : Pt)]).length * 3 from patsTo_length _ _) (show w3.ownsRow w.heap.size 73 3 v3 (acc ++ [(⟨pt, pk, pf⟩ : Pt)]).length (patsTo (acc ++ [(⟨pt, pk, pf⟩ : Pt)]) (acc ++ [(⟨pt, pk, pf⟩ : Pt)]).length) by rw [HSN.out, HL4.out]; exact hown3)
                have HO3 := Lib.hid hO3
                have HB3 := Lib.hid (HB2.out.trans (HO2.out.turn (by have := HB1.out.size; have := HSZ.out; omega) hg3))
                clear hown3 hg3 hO3
                go_roundw
                case rel => exact ⟨f, k + 1, y, acc ++ [(⟨pt, pk, pf⟩ : Pt)], a3, cap3, by go_num, rfl, rfl, by omega, by omega, HE.out, by rw [HL4.out]; omega, HO3.out, HB3.out⟩
                case measure => simp [strSz]; omega
end Go.Proofs.Ytodmohepgmhipaa

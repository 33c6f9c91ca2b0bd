/-
  Chapter 17: Marked in the program, by a builder; FnExactMarked's walk.
-/
import Derived.Test.YtpniiaemgobaiacMarkP
import Derived.Test.YtpniiaemgobaiacBuild
import Derived.Test.YtpniiaemgobaiacFoundLaw
import Derived.StillTailTactics
namespace Go.Proofs.Ytpniiaemgobaiac
open Go.RowKit
set_option linter.unusedVariables false
set_option maxRecDepth 100000
set_option maxHeartbeats 4000000 in
theorem impl_marked (s : ByteArray) (l : List Fd) (n : Nat) (a : Option Addr) (cap : Nat) (w : World) (hs : s.size ≤ 1048576) (hl : l.length = n) (h : Ints w a (fdI l)) (hlen : n ≤ 1048576) :
    Calls Try.prog 22 #[.string s, .slice a n cap] w fun e w' => e = .returned (.tuple #[.string (optT (markO s l)), .bool (markO s l).isSome]) ∧ Below w.heap.size w w' := by
  have HF := Lib.hid (show (fdI l).length = n * 3 by rw [fdI_length, hl])
  have HL := Lib.hid hl
  have hV : markO s l = if foundOkB (fdI l) l.length = true ∧ s.size ≤ 200 then markS s l 0 ⟨#[]⟩ else none := rfl
  have hfine := found_fine l
  rw [hl] at hV hfine
  obtain ⟨ok, hok⟩ : ∃ ok, foundOkB (fdI l) n = ok := ⟨_, rfl⟩
  rw [hok] at hV hfine
  have HOK := Lib.hid hok
  have HH := Lib.hid h
  clear hl hok h
  cases ok
  · have HV := Lib.hid (show markO s l = none from hV.trans (if_neg (fun x => Bool.false_ne_true x.1)))
    clear hV hfine
    go_enter Try.func22, Try.ntmps22
    go_wp2_with fail
    refine (impl_foundOk (fdI l) n a cap _ HF.out HH.out (by omega)).mono ?_
    rintro e w1 ⟨rfl, hb1⟩
    rw [HOK.out]
    go_wp2_with fail
    go_ret2
    rw [HV.out]
    exact ⟨rfl, hb1⟩
  · obtain ⟨hf, hn20⟩ := hfine.1 rfl
    have HFI := Lib.hid hf
    by_cases h200 : s.size ≤ 200
    · have HV := Lib.hid (show markO s l = markS s l 0 ⟨#[]⟩ from hV.trans (if_pos ⟨rfl, h200⟩))
      have hd : decide (200 < (s.size : Int)) = false := by simp; omega
      clear hV hfine hf
      go_enter Try.func22, Try.ntmps22
      go_wp2_with fail
      refine (impl_foundOk (fdI l) n a cap _ HF.out HH.out (by omega)).mono ?_
      rintro e w1 ⟨rfl, hb1⟩
      rw [HOK.out]
      have HB1 := Lib.hid hb1
      have HZ1 := Lib.hid hb1.size
      clear hb1
      have HBN := Lib.hid (BldV.new w1)
      go_wp2_with fail
      go_loopw [7, 9, 20] (fun x _ i wr => ∃ (k e0 : Nat) (v : Value) (O : ByteArray), k ≤ n ∧ i = .int .i64 (k : Int) ∧ x = .int .i64 (e0 : Int) ∧ e0 ≤ s.size ∧ BldV wr w1.heap.size w1.heap.size v (O.data.toList) ∧ O.size ≤ e0 + 2 * k ∧ markO s l = markS s (l.drop k) e0 O ∧ Below w1.heap.size w1 wr)
        (fun _ _ i _ => n - (intOf i).toNat)
      case atStart => exact ⟨0, 0, _, ⟨#[]⟩, by omega, rfl, rfl, by omega, HBN.out, by show 0 ≤ _; omega, HV.out, (Below.refl _ _).alloc (Nat.le_refl _) _⟩
      case round =>
        obtain ⟨k, e0, v, O, hk, rfl, rfl, he0, hBv, hO, hp, hb⟩ := hrel
        have HP := Lib.hid hp
        have HBV := Lib.hid hBv
        have hwz := hb.size
        have hbl := hBv.lt
        clear hp hBv
        by_cases hlt : k < n
        · obtain ⟨b, off, rfl, hq⟩ := (HH.out.kept (HB1.out.trans (hb.mono HZ1.out))).at (k * 3) (by rw [HF.out]; omega)
          have c0 := hq (k * 3) (by rw [HF.out]; omega)
          have c1 := hq (k * 3 + 1) (by rw [HF.out]; omega)
          have c2 := hq (k * 3 + 2) (by rw [HF.out]; omega)
          rw [← Nat.add_assoc] at c1 c2
          obtain ⟨q0, q1, q2⟩ := fdI_at l k (by rw [HL.out]; exact hlt)
          rw [q0] at c0; rw [q1] at c1; rw [q2] at c2
          obtain ⟨x0, x1, x2, _⟩ := HFI.out _ (fdAt_mem (l := l) (i := k) (by rw [HL.out]; exact hlt))
          have hno := markS_no (s := s) (l := l) (k := k) (a := e0) (o := O) (by rw [HL.out]; exact hlt)
          have hgo := markS_go (s := s) (l := l) (k := k) (a := e0) (o := O) (by rw [HL.out]; exact hlt)
          generalize (fdAt l k).f = f at *
          generalize (fdAt l k).t = t at *
          generalize (fdAt l k).w = u at *
          obtain ⟨fn, rfl⟩ : ∃ fn : Nat, f = (fn : Int) := ⟨f.toNat, by omega⟩
          obtain ⟨tn, rfl⟩ : ∃ tn : Nat, t = (tn : Int) := ⟨t.toNat, by omega⟩
          rw [Int.toNat_natCast, Int.toNat_natCast] at hgo
          have HBB := Lib.hid ((HB1.out.trans (hb.mono HZ1.out)).alloc (by have := HZ1.out; omega) (.cells #[.int .i64 (fn : Int), .int .i64 (tn : Int), .int .i64 u] 30))
          by_cases hc1 : (fn : Int) < (e0 : Int)
          · have HN := Lib.hid (show markO s l = none by rw [HP.out]; exact hno (.inl hc1))
            have g1 : decide ((fn : Int) < (e0 : Int)) = true := decide_eq_true hc1
            clear hno hgo hq q0 q1 q2
            go_wp2_with fail
            go_ret2
            rw [HN.out]
            exact ⟨rfl, HBB.out⟩
          · by_cases hc2 : (s.size : Int) < (tn : Int)
            · have HN := Lib.hid (show markO s l = none by rw [HP.out]; exact hno (.inr hc2))
              have g1 : decide ((fn : Int) < (e0 : Int)) = false := decide_eq_false hc1
              have g2 : decide ((s.size : Int) < (tn : Int)) = true := decide_eq_true hc2
              clear hno hgo hq q0 q1 q2
              go_wp2_with fail
              go_ret2
              rw [HN.out]
              exact ⟨rfl, HBB.out⟩
            · have HN := Lib.hid (show markO s l = markS s (l.drop (k + 1)) tn (O ++ s.extract e0 fn ++ openB ++ s.extract fn tn ++ shutB) by rw [HP.out]; exact hgo (fun h => h.elim hc1 hc2))
              have g1 : decide ((fn : Int) < (e0 : Int)) = false := decide_eq_false hc1
              have g2 : decide ((s.size : Int) < (tn : Int)) = false := decide_eq_false hc2
              have g3 : (e0 : Int) ≤ (fn : Int) := by omega
              have g4 : (fn : Int) ≤ (s.size : Int) := by omega
              have g5 : (fn : Int) ≤ (tn : Int) := by omega
              have g6 : (tn : Int) ≤ (s.size : Int) := by omega
              have z1 : (s.extract e0 fn).size = fn - e0 := by rw [ByteArray.size_extract]; omega
              have z2 : (s.extract fn tn).size = tn - fn := by rw [ByteArray.size_extract]; omega
              clear hno hgo hq q0 q1 q2 hc1 hc2
              have hA := heap_alloc_new wr (.cells #[.int .i64 (fn : Int), .int .i64 (tn : Int), .int .i64 u] 30)
              have hbA : Below wr.heap.size wr (wr.alloc (.cells #[.int .i64 (fn : Int), .int .i64 (tn : Int), .int .i64 u] 30)) := (Below.refl _ _).alloc (Nat.le_refl _) _
              have HBA := Lib.hid (HBV.out.kept hbA)
              have HWA := Lib.hid (hb.trans (hbA.mono hwz))
              have hzA : (wr.alloc (.cells #[.int .i64 (fn : Int), .int .i64 (tn : Int), .int .i64 u] 30)).heap.size = wr.heap.size + 1 := by simp
              go_wp2_with fail
              have k0 : (wr.alloc (.cells #[.int .i64 (fn : Int), .int .i64 (tn : Int), .int .i64 u] 30)).cell? ⟨wr.heap.size, 0, none⟩ = some (.int .i64 (fn : Int)) := by rw [cell_of_row _ _ 0 _ _ _ hA]; rfl
              have k1 : (wr.alloc (.cells #[.int .i64 (fn : Int), .int .i64 (tn : Int), .int .i64 u] 30)).cell? ⟨wr.heap.size, 1, none⟩ = some (.int .i64 (tn : Int)) := by rw [cell_of_row _ _ 1 _ _ _ hA]; rfl
              have HA := Lib.hid hA; have HZA := Lib.hid hzA
              clear hA hzA hbA c0 c1 c2
              generalize (wr.alloc (.cells #[.int .i64 (fn : Int), .int .i64 (tn : Int), .int .i64 u] 30)) = wA at *
              have hX1 : (s.extract e0 fn ++ (⟨#[91]⟩ : ByteArray) ++ s.extract fn tn ++ (⟨#[93]⟩ : ByteArray)).size ≤ 1000 := by simp only [ByteArray.size_append, z1, z2]; show fn - e0 + 1 + (tn - fn) + 1 ≤ 1000; omega
              have HX1 := Lib.hid hX1
              have j1 : ¬ 9223372036854775807 < fn - e0 + 1 := by omega
              have j2 : ¬ 9223372036854775807 < fn - e0 + 1 + (tn - fn) := by omega
              have j3 : ¬ 9223372036854775807 < fn - e0 + 1 + (tn - fn) + 1 := by omega
              clear hX1
              go_region_law ((go_simp; (go_at_call 57; go_must (refine (bld_write _ _ v O.data.toList (s.extract e0 fn ++ (⟨#[91]⟩ : ByteArray) ++ s.extract fn tn ++ (⟨#[93]⟩ : ByteArray)) _ (HBA.out.kept (by repeat (first | exact Below.refl _ _ | assumption | (refine Below.drew ?_) | (refine below_drewN ?_ _) | (refine Below.alloc ?_ (by first | omega | (simp; done) | (simp; omega)) _) | (refine Below.setCell ?_ (by first | omega | (simp; done) | (simp; omega)) _)))) (by have := HX1.out; show O.size + _ ≤ _; omega) (by have := HZA.out; simp; omega)).mono ?_; rintro e w5 ⟨v', rfl, hB5, hk5, hb5⟩))))
              all_goals
                have hrow := (hk5 wr.heap.size (by have := HZA.out; simp; omega) (by omega) (fun e => by have := (HBV.out.own_lt _ e).2; omega)).trans (show _ = _ from HA.out)
                have c5 : w5.cell? ⟨wr.heap.size, 1, none⟩ = some (.int .i64 (tn : Int)) := by rw [cell_of_row _ _ 1 _ _ _ hrow]; rfl
                have HB5 := Lib.hid hB5
                have HW5 := Lib.hid (HWA.out.trans (show Below w1.heap.size wA w5 from ⟨hb5.os, hb5.tape, hb5.output, hb5.size, hb5.block⟩))
                clear hrow hB5 hk5 hb5
                go_wp2_with fail
                go_roundw
                case rel =>
                  refine ⟨k + 1, tn, v', O ++ s.extract e0 fn ++ openB ++ s.extract fn tn ++ shutB, by omega, by go_num, rfl, by omega, ?_, by (simp only [ByteArray.size_append, z1, z2]; show O.size + (fn - e0) + 1 + (tn - fn) + 1 ≤ tn + 2 * (k + 1); omega), HN.out, HW5.out⟩
                  have e : (O ++ s.extract e0 fn ++ openB ++ s.extract fn tn ++ shutB).data.toList = O.data.toList ++ (s.extract e0 fn ++ (⟨#[91]⟩ : ByteArray) ++ s.extract fn tn ++ (⟨#[93]⟩ : ByteArray)).data.toList := by
                    simp [openB, shutB]
                  rw [e]; exact HB5.out
                case measure => simp [intOf]; omega
        · obtain rfl : k = n := by omega
          have HN := Lib.hid (show markO s l = some (O ++ s.extract e0 s.size) by rw [HP.out, List.drop_eq_nil_of_le (by rw [HL.out]; exact Nat.le_refl _)]; rfl)
          have z1 : (s.extract e0 s.size).size = s.size - e0 := by rw [ByteArray.size_extract]; omega
          have g3 : (e0 : Int) ≤ (s.size : Int) := by omega
          have HWB := Lib.hid (HB1.out.trans (hb.mono HZ1.out))
          clear hb
          go_wp2_with fail
          refine (bld_write _ _ v O.data.toList (s.extract e0 s.size) _ HBV.out (by show O.size + _ ≤ _; omega) (by omega)).mono ?_
          rintro e w5 ⟨v', rfl, hB5, hk5, hb5⟩
          have hz5 := hb5.size
          go_wp2_with fail
          refine (bld_string _ _ v' _ _ hB5 (by omega)).mono ?_
          rintro e w6 ⟨rfl, hb6⟩
          have HW6 := Lib.hid (HWB.out.trans ((hb5.trans hb6).mono HZ1.out))
          clear hB5 hk5 hb5 hb6
          go_wp2_with fail
          go_ret2
          rw [HN.out]
          have e9 : (⟨(O.data.toList ++ List.take (s.size - e0) (List.drop e0 s.data.toList)).toArray⟩ : ByteArray) = O ++ s.extract e0 s.size := by
            apply ByteArray.ext; apply Array.toList_inj.1; simp [List.take_drop]
          exact ⟨by rw [e9]; rfl, HW6.out⟩
    · have HV := Lib.hid (show markO s l = none from hV.trans (if_neg (fun x => h200 x.2)))
      have hd : decide (200 < (s.size : Int)) = true := by simp; omega
      clear hV hfine hf
      go_enter Try.func22, Try.ntmps22
      go_wp2_with fail
      refine (impl_foundOk (fdI l) n a cap _ HF.out HH.out (by omega)).mono ?_
      rintro e w1 ⟨rfl, hb1⟩
      rw [HOK.out]
      go_wp2_with fail
      go_ret2
      rw [HV.out]
      exact ⟨rfl, hb1⟩
end Go.Proofs.Ytpniiaemgobaiac

/-
  Chapter 3: Distance's model; FnExactDistance's walk.
-/
import Derived.Test.YtpniiaemgobaiaaL3Dist
import Derived.Test.YtpniiaemgobaiaaL3NextL
namespace Go.Proofs.Ytpniiaemgobaiaa
open Go.RowKit
set_option linter.unusedVariables false
set_option maxRecDepth 100000
theorem colAt_head (s r : ByteArray) (k : Nat) : colAt s r 1 k 0 = k := by
  induction k with
  | zero => simp [colAt, idI]
  | succ k ih => simp only [colAt, nextAt]; rw [ih]; omega
theorem foldS_byte (r : ByteArray) (k : Nat) (h : k < r.size) : ((byteAt (foldS r) k).toNat : Int) = foldI ((byteAt r k).toNat : Int) := by
  unfold byteAt foldS foldL
  have h2 : k < r.data.toList.length := by simpa using h
  simp only [List.getD_eq_getElem?_getD, List.getElem?_map, List.getElem?_eq_getElem h2]
  simp [foldB_toNat]
/-- the next column, told apart as the model does -/
theorem colAt_next (s r : ByteArray) (f : Bool) (rise : Int) (k : Nat) (hk : k < r.size) (head : Int) (hh : head = colAt (foldIf f s) (foldIf f r) rise k 0 + rise) :
    tab (nextAt (maskG s f (byteAt r k).toNat) (intAt (tab (colAt (foldIf f s) (foldIf f r) rise k) (s.size + 1))) head) (s.size + 1) = tab (colAt (foldIf f s) (foldIf f r) rise (k + 1)) (s.size + 1) := by
  subst hh
  apply tab_congr
  intro i hi
  simp only [colAt]
  refine nextAt_congr (n := s.size) (fun j hj => ?_) (fun j hj => intAt_tab _ _ _ (by omega)) i (by omega)
  cases f
  · rfl
  · have h2 : j < (foldS s).size := by rw [foldS_size]; exact hj
    show maskG s true _ j = eqP (foldS s) _ j
    rw [maskG_fold s _ j h2, eqP_at _ _ _ h2]
    have := foldS_byte r k hk
    simp only [foldIf, if_true]
    rw [this]
set_option maxHeartbeats 2000000 in
theorem spec_distance (s r : ByteArray) (f : Bool) (w : World) (hs : s.size ≤ 1048576) (hr : r.size ≤ 1048576) :
    Calls Try.prog 66 #[.string s, .string r, .bool f] w fun e w' => e = .returned (.int .i64 (distI s r f)) ∧ Below w.heap.size w w' := by
  by_cases h1 : s.size ≤ 200
  · by_cases h2 : r.size ≤ 200
    · have HR := Lib.hid (distI_yes (f := f) ⟨h1, h2⟩)
      go_enter Try.func66, Try.ntmps66
      go_wp2_with fail
      refine (spec_l3First s _ hs).mono ?_
      rintro e w1 ⟨a1, cap1, rfl, hO1, hb1⟩
      have hI1 := hO1.ints
      clear hO1
      go_wp2
      go_loopw [7, 8] (fun v i wr => ∃ (k : Nat) (a : Option Addr) (cap : Nat), k ≤ r.size ∧ i = .int .i64 k ∧ v = .slice a (s.size + 1) cap ∧ Ints wr a (tab (colAt (foldIf f s) (foldIf f r) 1 k) (s.size + 1)) ∧ Below w.heap.size w wr)
        (fun _ i _ => r.size - (intOf i).toNat)
      case atStart => exact ⟨0, a1, cap1, by omega, rfl, rfl, hI1, hb1⟩
      case round =>
        obtain ⟨k, a, cap, hk, rfl, rfl, hI, hb⟩ := hrel
        by_cases hlt : k < r.size
        · have hby := byteAt_eq r k hlt
          have hch := r[k].toNat_lt
          have HB := Lib.hid (colAt_bnd (foldIf f s) (foldIf f r) (rise := 1) (by decide) (by decide) k)
          have HN := Lib.hid (colAt_next s r f 1 k hlt ((k : Int) + 1) (by rw [colAt_head]))
          have HBY := Lib.hid hby
          have HSZ := Lib.hid (foldIf_size f s)
          clear hby hI1
          go_wp2_with fail
          refine (spec_l3Next s f (tab (colAt (foldIf f s) (foldIf f r) 1 k) (s.size + 1)) a (s.size + 1) cap _ _ (s.size + k) _ hs rfl (tab_length _ _) hI (fun i hi => by rw [intAt_tab _ _ _ (by omega)]; have := HB.out i (by rw [HSZ.out]; exact hi); rw [HSZ.out] at this; exact this) (by omega) (by omega) (by omega) (by omega) (by omega)).mono ?_
          rintro e w2 ⟨a2, cap2, rfl, hO2, hb2⟩
          have hI2 : Ints w2 a2 (tab (colAt (foldIf f s) (foldIf f r) 1 (k + 1)) (s.size + 1)) := by
            have := hO2.ints
            rw [← HBY.out, HN.out] at this
            exact this
          have hB2 := below_step hb hb2
          clear hO2 hI
          go_wp2
          go_roundw
          case rel => exact ⟨k + 1, a2, cap2, by omega, by go_num, rfl, hI2, hB2⟩
          case measure => simp [intOf]; omega
        · obtain rfl : k = r.size := by omega
          obtain ⟨b, off, rfl, hp⟩ := hI.at s.size (by rw [tab_length]; omega)
          have c0 := hp s.size (by rw [tab_length]; omega)
          rw [intAt_tab _ _ _ (by omega)] at c0
          have hl : (s.size : Int) < (s.size : Int) + 1 := by omega
          clear hp hI hI1
          go_wp2
          go_ret
          exact ⟨by rw [HR.out]; rfl, hb⟩
    · have HR := Lib.hid (distI_no (f := f) (s := s) (fun h => h2 h.2))
      have hd1 : decide (200 < (s.size : Int)) = false := by simp; omega
      have hd2 : decide (200 < (r.size : Int)) = true := by simp; omega
      go_enter Try.func66, Try.ntmps66
      go_wp2
      go_ret
      exact ⟨by rw [HR.out]; rfl, Below.refl _ _⟩
  · have HR := Lib.hid (distI_no (f := f) (r := r) (fun h => h1 h.1))
    have hd1 : decide (200 < (s.size : Int)) = true := by simp; omega
    go_enter Try.func66, Try.ntmps66
    go_wp2
    go_ret
    exact ⟨by rw [HR.out]; rfl, Below.refl _ _⟩
end Go.Proofs.Ytpniiaemgobaiaa

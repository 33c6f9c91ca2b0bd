/-
  Chapter 17: Marked, plain and in its model.
-/
import Derived.Test.YtpniiaemgobaiacFdI
import Derived.Test.YtpniiaemgobaiacFoundIn
namespace Go.Proofs.Ytpniiaemgobaiac
open Go.RowKit
set_option linter.unusedVariables false
set_option maxRecDepth 100000
def openB : ByteArray := ⟨#[91]⟩
def shutB : ByteArray := ⟨#[93]⟩
/-- the text from a place on, marked, behind what is there -/
def markS (s : ByteArray) : List Fd → Nat → ByteArray → Option ByteArray
  | [], a, o => some (o ++ s.extract a s.size)
  | x :: xs, a, o => if x.f < (a : Int) ∨ (s.size : Int) < x.t then none else markS s xs x.t.toNat (o ++ s.extract a x.f.toNat ++ openB ++ s.extract x.f.toNat x.t.toNat ++ shutB)
def markO (s : ByteArray) (l : List Fd) : Option ByteArray := if foundOkB (fdI l) l.length = true ∧ s.size ≤ 200 then markS s l 0 ⟨#[]⟩ else none
def optT : Option ByteArray → ByteArray
  | none => ⟨#[]⟩
  | some t => t
theorem markS_no {s : ByteArray} {l : List Fd} {k a : Nat} {o : ByteArray} (hk : k < l.length) (h : (fdAt l k).f < (a : Int) ∨ (s.size : Int) < (fdAt l k).t) : markS s (l.drop k) a o = none := by
  rw [fdAt_drop l k hk, markS, if_pos h]
theorem markS_go {s : ByteArray} {l : List Fd} {k a : Nat} {o : ByteArray} (hk : k < l.length) (h : ¬ ((fdAt l k).f < (a : Int) ∨ (s.size : Int) < (fdAt l k).t)) : markS s (l.drop k) a o = markS s (l.drop (k + 1)) (fdAt l k).t.toNat (o ++ s.extract a (fdAt l k).f.toNat ++ openB ++ s.extract (fdAt l k).f.toNat (fdAt l k).t.toNat ++ shutB) := by
  rw [fdAt_drop l k hk, markS, if_neg h]
set_option maxHeartbeats 4000000 in
theorem spec_marked (s : ByteArray) (l : List Fd) (n : Nat) (a : Option Addr) (cap : Nat) (w : World) (hs : s.size ≤ 1048576) (hl : l.length = n) (h : Ints w a (fdI l)) (hlen : n ≤ 1048576) :
    Calls Try.prog 23 #[.string s, .slice a n cap] w fun e w' => e = .returned (.tuple #[.string (optT (markO s l)), .bool (markO s l).isSome]) ∧ Below w.heap.size w w' := by
  have HF := Lib.hid (show (fdI l).length = n * 3 by rw [fdI_length, hl])
  have HL := Lib.hid hl
  have hV : markO s l = if foundOkB (fdI l) l.length = true ∧ s.size ≤ 200 then markS s l 0 ⟨#[]⟩ else none := rfl
  have hfine := found_fine l
  rw [hl] at hV hfine
  obtain ⟨ok, hok⟩ : ∃ ok, foundOkB (fdI l) n = ok := ⟨_, rfl⟩
  rw [hok] at hV hfine
  have HOK := Lib.hid hok
  have HH := Lib.hid h
  clear hl hok h
  cases ok
  · have HV := Lib.hid (show markO s l = none from hV.trans (if_neg (fun x => Bool.false_ne_true x.1)))
    clear hV hfine
    go_enter Try.func23, Try.ntmps23
    go_wp2_with fail
    refine (spec_foundOk (fdI l) n a cap _ HF.out HH.out (by omega)).mono ?_
    rintro e w1 ⟨rfl, hb1⟩
    rw [HOK.out]
    go_wp2_with fail
    go_ret2
    rw [HV.out]
    exact ⟨rfl, hb1⟩
  · obtain ⟨hf, hn20⟩ := hfine.1 rfl
    have HFI := Lib.hid hf
    by_cases h200 : s.size ≤ 200
    · have HV := Lib.hid (show markO s l = markS s l 0 ⟨#[]⟩ from hV.trans (if_pos ⟨rfl, h200⟩))
      have hd : decide (200 < (s.size : Int)) = false := by simp; omega
      clear hV hfine hf
      go_enter Try.func23, Try.ntmps23
      go_wp2_with fail
      refine (spec_foundOk (fdI l) n a cap _ HF.out HH.out (by omega)).mono ?_
      rintro e w1 ⟨rfl, hb1⟩
      rw [HOK.out]
      have HH1 := Lib.hid (HH.out.kept hb1)
      have HB1 := Lib.hid hb1
      clear hb1
      go_wp2_with fail
      go_loopw [6, 7, 8] (fun x o i wr => ∃ (k e0 : Nat) (O : ByteArray), k ≤ n ∧ i = .int .i64 (k : Int) ∧ x = .int .i64 (e0 : Int) ∧ e0 ≤ s.size ∧ o = .string O ∧ O.size ≤ e0 + 2 * k ∧ markO s l = markS s (l.drop k) e0 O ∧ Below w1.heap.size w1 wr)
        (fun _ _ i _ => n - (intOf i).toNat)
      case atStart => exact ⟨0, 0, ⟨#[]⟩, by omega, rfl, rfl, by omega, rfl, by show 0 ≤ _; omega, HV.out, Below.refl _ _⟩
      case round =>
        obtain ⟨k, e0, O, hk, rfl, rfl, he0, rfl, hO, hp, hb⟩ := hrel
        have HP := Lib.hid hp
        clear hp
        by_cases hlt : k < n
        · obtain ⟨b, off, rfl, hq⟩ := (HH1.out.kept hb).at (k * 3) (by rw [HF.out]; omega)
          have c0 := hq (k * 3) (by rw [HF.out]; omega)
          have c1 := hq (k * 3 + 1) (by rw [HF.out]; omega)
          rw [← Nat.add_assoc] at c1
          obtain ⟨q0, q1, _⟩ := fdI_at l k (by rw [HL.out]; exact hlt)
          rw [q0] at c0; rw [q1] at c1
          obtain ⟨x0, x1, x2, _⟩ := HFI.out _ (fdAt_mem (l := l) (i := k) (by rw [HL.out]; exact hlt))
          have hno := markS_no (s := s) (l := l) (k := k) (a := e0) (o := O) (by rw [HL.out]; exact hlt)
          have hgo := markS_go (s := s) (l := l) (k := k) (a := e0) (o := O) (by rw [HL.out]; exact hlt)
          generalize (fdAt l k).f = f at *
          generalize (fdAt l k).t = t at *
          obtain ⟨fn, rfl⟩ : ∃ fn : Nat, f = (fn : Int) := ⟨f.toNat, by omega⟩
          obtain ⟨tn, rfl⟩ : ∃ tn : Nat, t = (tn : Int) := ⟨t.toNat, by omega⟩
          rw [Int.toNat_natCast, Int.toNat_natCast] at hgo
          have HBB := Lib.hid (HB1.out.trans (hb.mono HB1.out.size))
          by_cases hc1 : (fn : Int) < (e0 : Int)
          · have HN := Lib.hid (show markO s l = none by rw [HP.out]; exact hno (.inl hc1))
            have g1 : decide ((fn : Int) < (e0 : Int)) = true := decide_eq_true hc1
            clear hno hgo hq q0 q1
            go_wp2_with fail
            go_ret2
            rw [HN.out]
            exact ⟨rfl, HBB.out⟩
          · by_cases hc2 : (s.size : Int) < (tn : Int)
            · have HN := Lib.hid (show markO s l = none by rw [HP.out]; exact hno (.inr hc2))
              have g1 : decide ((fn : Int) < (e0 : Int)) = false := decide_eq_false hc1
              have g2 : decide ((s.size : Int) < (tn : Int)) = true := decide_eq_true hc2
              clear hno hgo hq q0 q1
              go_wp2_with fail
              go_ret2
              rw [HN.out]
              exact ⟨rfl, HBB.out⟩
            · have HN := Lib.hid (show markO s l = markS s (l.drop (k + 1)) tn (O ++ s.extract e0 fn ++ openB ++ s.extract fn tn ++ shutB) by rw [HP.out]; exact hgo (fun h => h.elim hc1 hc2))
              have g1 : decide ((fn : Int) < (e0 : Int)) = false := decide_eq_false hc1
              have g2 : decide ((s.size : Int) < (tn : Int)) = false := decide_eq_false hc2
              have g3 : (e0 : Int) ≤ (fn : Int) := by omega
              have g4 : (fn : Int) ≤ (s.size : Int) := by omega
              have g5 : (fn : Int) ≤ (tn : Int) := by omega
              have g6 : (tn : Int) ≤ (s.size : Int) := by omega
              have z1 : (s.extract e0 fn).size = fn - e0 := by rw [ByteArray.size_extract]; omega
              have z2 : (s.extract fn tn).size = tn - fn := by rw [ByteArray.size_extract]; omega
              clear hno hgo hq q0 q1 hc1 hc2
              go_wp2_with fail
              go_quiet (fail)
              go_wp2_with fail
              go_roundw
              case rel => exact ⟨k + 1, tn, _, by omega, by go_num, rfl, by omega, rfl, by (simp only [ByteArray.size_append, z1, z2]; show O.size + (fn - e0) + 1 + (tn - fn) + 1 ≤ tn + 2 * (k + 1); omega), HN.out, below_drewN hb _⟩
              case measure => simp [intOf]; omega
        · obtain rfl : k = n := by omega
          have HN := Lib.hid (show markO s l = some (O ++ s.extract e0 s.size) by rw [HP.out, List.drop_eq_nil_of_le (by rw [HL.out]; exact Nat.le_refl _)]; rfl)
          have HBB := Lib.hid (HB1.out.trans (hb.mono HB1.out.size))
          have z1 : (s.extract e0 s.size).size = s.size - e0 := by rw [ByteArray.size_extract]; omega
          have g3 : (e0 : Int) ≤ (s.size : Int) := by omega
          clear hb
          go_wp2_with fail
          go_ret2
          rw [HN.out]
          exact ⟨rfl, HBB.out⟩
    · have HV := Lib.hid (show markO s l = none from hV.trans (if_neg (fun x => h200 x.2)))
      have hd : decide (200 < (s.size : Int)) = true := by simp; omega
      clear hV hfine hf
      go_enter Try.func23, Try.ntmps23
      go_wp2_with fail
      refine (spec_foundOk (fdI l) n a cap _ HF.out HH.out (by omega)).mono ?_
      rintro e w1 ⟨rfl, hb1⟩
      rw [HOK.out]
      go_wp2_with fail
      go_ret2
      rw [HV.out]
      exact ⟨rfl, hb1⟩
end Go.Proofs.Ytpniiaemgobaiac

/-
  Chapter 7, the program: TrieStep.
-/
import Derived.Test.YtodmohepgmhipaaTrieReadT
namespace Go.Proofs.Ytodmohepgmhipaa
open Go.RowKit
set_option linter.unusedVariables false
set_option maxRecDepth 100000
set_option maxHeartbeats 1000000 in
theorem impl_trieStep (L : List Nd) (a : Option Addr) (cap : Nat) (i x : Int) (w : World) (h : Nds w a L) (hlen : L.length ≤ 1048576) (hK : ∀ i, i < L.length → (ndAt L i).K.length ≤ 1048576) :
    Calls Try.prog 17 #[.slice a L.length cap, .int .i64 i, .int .i64 x] w fun e w' => e = .returned (.int .i64 (stepI L i x)) ∧ Below w.heap.size w w' := by
  have HKL := Lib.hid hK
  clear hK
  go_enter Try.func17, Try.ntmps17
  go_wp2_with fail
  refine (impl_readTrie L a cap w h hlen HKL.out).mono ?_
  rintro e w1 ⟨v, rfl, hr, hb⟩
  rcases hr with ⟨rfl, hno⟩ | ⟨hR, a', c', A, rfl, hT, hV⟩
  · have HN := Lib.hid (stepI_no (L := L) (i := i) (x := x) (fun hc => hno hc.1))
    clear hno h
    by_cases hi : i < 0
    · have g1 : decide (i < 0) = true := decide_eq_true hi
      go_wp2_with fail
      go_ret
      exact ⟨by rw [HN.out]; rfl, hb⟩
    · have g1 : decide (i < 0) = false := decide_eq_false hi
      have g2 : decide (0 ≤ i) = true := decide_eq_true (by omega)
      go_wp2_with fail
      go_ret
      exact ⟨by rw [HN.out]; rfl, hb⟩
  · by_cases hi0 : 0 ≤ i
    · by_cases hi1 : i ≤ (L.length : Int) - 1
      · obtain ⟨I, rfl⟩ := Int.eq_ofNat_of_zero_le hi0
        have hI : I < L.length := by omega
        have g1 : decide ((I : Int) < 0) = false := decide_eq_false (by omega)
        have g2 : decide ((L.length : Int) ≤ (I : Int)) = false := decide_eq_false (by omega)
        have g3 : decide (L.length ≤ I) = false := decide_eq_false (by omega)
        cases hq : inB x 0 255
        · have HN := Lib.hid (stepI_no (L := L) (i := (I : Int)) (x := x) (fun hc => by rw [inB_yes hc.2.2] at hq; exact Bool.noConfusion hq))
          have HQ := Lib.hid hq
          clear hq hR hT hV h
          go_wp2_with (go_at_call 57; refine (implT_isByte _ _).mono ?_; rintro e w' ⟨rfl, rfl⟩; rw [HQ.out])
          go_ret
          exact ⟨by rw [HN.out]; rfl, hb⟩
        · have hx : 0 ≤ x ∧ x ≤ 255 := by simpa [inB] using hq
          have HN := Lib.hid (stepI_yes (L := L) (i := (I : Int)) (x := x) ⟨hR, ⟨hi0, hi1⟩, hx⟩)
          have HQ := Lib.hid hq
          obtain ⟨b, off, rfl, hA⟩ := hV.at I (by rw [nodesV_length]; exact hI)
          have d0 := hA I (by rw [nodesV_length]; exact hI)
          rw [nodesV_at _ _ _ hI] at d0
          have hgl : 0 ≤ goN L I x ∧ (goN L I x).toNat < L.length := goN_in hR hI
          have c0 : w1.cell? ⟨A (goN L I x).toNat, 0, none⟩ = some (.int .i64 ((goN L I x).toNat : Nat)) := by
            obtain ⟨ka, kc, hA2, _⟩ := hT _ hgl.2
            rw [cell_of_row _ _ 0 _ _ _ hA2]; rfl
          rw [show (((goN L I x).toNat : Nat) : Int) = goN L I x by omega] at c0
          have HT := Lib.hid hT
          have HR := Lib.hid hR
          have HST := Lib.hid (impl_step L A (parV L A) I x w1 hT hR hI HKL.out)
          rw [Int.toNat_natCast] at HN
          clear hq hR hT hV h hA hgl
          unfold ptrOf at HST
          generalize goN L I x = y at *
          go_wp2_with (go_at_call 57; refine (implT_isByte _ _).mono ?_; rintro e w' ⟨rfl, rfl⟩; rw [HQ.out])
          refine HST.out.mono ?_
          rintro e w2 ⟨rfl, rfl⟩
          go_wp2_with fail
          go_ret
          exact ⟨by rw [HN.out]; rfl, hb⟩
      · have HN := Lib.hid (stepI_no (L := L) (i := i) (x := x) (fun hc => hi1 hc.2.1.2))
        have g1 : decide (i < 0) = false := decide_eq_false (by omega)
        have g2 : decide ((L.length : Int) ≤ i) = true := decide_eq_true (by omega)
        clear hR hT hV h
        go_wp2_with fail
        go_ret
        exact ⟨by rw [HN.out]; rfl, hb⟩
    · have HN := Lib.hid (stepI_no (L := L) (i := i) (x := x) (fun hc => hi0 hc.2.1.1))
      have g1 : decide (i < 0) = true := decide_eq_true (by omega)
      clear hR hT hV h
      go_wp2_with fail
      go_ret
      exact ⟨by rw [HN.out]; rfl, hb⟩
end Go.Proofs.Ytodmohepgmhipaa

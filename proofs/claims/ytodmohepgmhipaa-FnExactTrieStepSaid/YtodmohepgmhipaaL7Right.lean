/-
  Chapter 7, the model: l1Same, l7Right, TrieStep.
-/
import Derived.Test.YtodmohepgmhipaaL7Kid
import Derived.Test.YtodmohepgmhipaaL3Ok
import Derived.Test.YtodmohepgmhipaaOwnMore
namespace Go.Proofs.Ytodmohepgmhipaa
open Go.RowKit
set_option linter.unusedVariables false
set_option maxRecDepth 100000
theorem intAt_ext {K M : List Int} (hl : K.length = M.length) (h : ∀ i, i < K.length → intAt K i = intAt M i) : K = M := by
  apply List.ext_getElem hl
  intro i h1 h2
  have := h i h1
  simpa [intAt, h1, h2] using this
set_option maxHeartbeats 400000 in
theorem spec_l1Same (K M : List Int) (a1 a2 : Option Addr) (cap1 cap2 : Nat) (w : World) (h1 : Ints w a1 K) (h2 : Ints w a2 M) (hlen : K.length ≤ 1048577) :
    Calls Try.prog 96 #[.slice a1 K.length cap1, .slice a2 M.length cap2] w fun e w' => e = .returned (.bool (decide (K = M))) ∧ Below w.heap.size w w' := by
  by_cases hl : K.length = M.length
  · have e0 : ((K.length : Int) != (M.length : Int)) = false := by simp [hl]
    have HL := Lib.hid hl
    clear hl
    go_enter Try.func96, Try.ntmps96
    go_wp2
    go_loopw [5] (fun i wr => ∃ k : Nat, k ≤ K.length ∧ i = .int .i64 k ∧ (∀ i, i < k → intAt K i = intAt M i) ∧ Below w.heap.size w wr)
      (fun i _ => K.length - (intOf i).toNat)
    case atStart => exact ⟨0, by omega, rfl, fun i hi => by omega, Below.refl _ _⟩
    case round =>
      obtain ⟨k, hk, rfl, hv, hb⟩ := hrel
      by_cases hlt : k < K.length
      · have hlt2 : k < M.length := by have := HL.out; omega
        obtain ⟨b1, off1, rfl, hp1⟩ := (h1.kept hb).at k hlt
        obtain ⟨b2, off2, rfl, hp2⟩ := (h2.kept hb).at k hlt2
        have c1 := hp1 k hlt
        have c2 := hp2 k hlt2
        clear h1 h2 hp1 hp2
        by_cases hq : intAt K k = intAt M k
        · have HV := Lib.hid (show ∀ i, i < k + 1 → intAt K i = intAt M i from fun i hi => by
            by_cases e : i = k
            · rw [e, hq]
            · exact hv i (by omega))
          clear hv
          rw [← hq] at c2
          generalize intAt K k = x at c1 c2
          have e1 : (x != x) = false := by simp
          clear hq
          go_wp2_with fail
          go_quiet (fail)
          go_wp2
          go_roundw
          case rel => exact ⟨k + 1, by omega, by go_num, HV.out, below_drewN hb _⟩
          case measure => simp [intOf]; omega
        · have HE := Lib.hid (show decide (K = M) = false from decide_eq_false fun e => hq (by rw [e]))
          clear hv
          generalize intAt K k = x at *
          generalize intAt M k = y at *
          have e1 : (x != y) = true := by simp [hq]
          go_wp2_with fail
          go_quiet (fail)
          go_wp2
          go_ret
          exact ⟨by rw [HE.out]; rfl, below_drewN hb _⟩
      · obtain rfl : k = K.length := by omega
        have HE := Lib.hid (show decide (K = M) = true from decide_eq_true (intAt_ext HL.out hv))
        clear hv
        go_wp2
        go_ret
        exact ⟨by rw [HE.out]; rfl, hb⟩
  · have e0 : ((K.length : Int) != (M.length : Int)) = true := by simp; omega
    have HE := Lib.hid (show decide (K = M) = false from decide_eq_false fun e => hl (by rw [e]))
    go_enter Try.func96, Try.ntmps96
    go_wp2
    go_ret
    exact ⟨by rw [HE.out]; rfl, Below.refl _ _⟩
theorem kidsFrom_length (L : List Nd) (i : Nat) : ∀ (f k : Nat), (kidsFrom L i f k).length ≤ f := by
  intro f
  induction f with
  | zero => intro k; exact Nat.le_refl _
  | succ f ih =>
    intro k
    rw [kidsFrom]
    have := ih (k + 1)
    split
    · simp; omega
    · omega
def WellTo (L : List Nd) (j : Nat) : Prop := ∀ i, 0 < i → i < j → (0 ≤ (ndAt L i).p ∧ (ndAt L i).p ≤ (i : Int) - 1) ∧ 0 ≤ (ndAt L i).b ∧ (ndAt L i).b ≤ 255
def NodeOk (L : List Nd) (i : Nat) : Prop := (ndAt L i).K = kidsL L i ∧ (0 ≤ (ndAt L i).f ∧ (ndAt L i).f ≤ (L.length : Int) - 1) ∧ (0 < i → deepN L (ndAt L i).f.toNat < deepN L i) ∧ (i = 0 → (ndAt L 0).f = 0)
theorem right_of {L : List Nd} (h1 : 1 ≤ L.length) (h2 : L.length ≤ 400) (hW : WellP L) (hN : ∀ i, i < L.length → NodeOk L i) : Right L :=
  ⟨h1, h2, hW, fun i hi => (hN i hi).1, fun i hi => (hN i hi).2.1, fun i h0 hi => (hN i hi).2.2.1 h0, (hN 0 h1).2.2.2 rfl⟩
theorem Right.node {L : List Nd} (h : Right L) (i : Nat) (hi : i < L.length) : NodeOk L i := ⟨h.kids i hi, h.fail i hi, fun h0 => h.deep i h0 hi, fun _ => h.none⟩
end Go.Proofs.Ytodmohepgmhipaa

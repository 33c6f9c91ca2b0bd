/-
  Chapter 7, the program: kidsAre.
-/
import Derived.Test.YtodmohepgmhipaaTrieRead
import Derived.Test.YtodmohepgmhipaaL7Right
namespace Go.Proofs.Ytodmohepgmhipaa
open Go.RowKit
set_option linter.unusedVariables false
set_option maxRecDepth 100000
/-- the kids of a node lie as nodes with their own places -/
def Kin (w : World) (A : Nat → Nat) (K : List Int) : Prop := ∀ k, k ∈ K → 0 < k ∧ ∃ b d p f K', TN w A k.toNat b d p f K'
set_option maxHeartbeats 1000000 in
theorem sl_equalKids (A : Nat → Nat) (K M : List Int) (ka aM : Option Addr) (kc capM : Nat) (w : World) (hV : Vals w ka (K.map (ptrOf A))) (hM : Ints w aM M) (hk : Kin w A K) (hK : K.length ≤ 1048576) :
    Calls Try.prog 128 #[.slice ka K.length kc, .slice aM M.length capM, .func (.func 129) #[] #[]] w fun e w' => e = .returned (.bool (decide (K = M))) ∧ w = w' := by
  by_cases hl : K.length = M.length
  · have e0 : ((K.length : Int) != (M.length : Int)) = false := by simp [hl]
    have HL := Lib.hid hl
    have HV := Lib.hid hV
    have HM := Lib.hid hM
    have HK := Lib.hid hk
    clear hl hV hM hk
    go_enter Try.func128, Try.ntmps128
    go_wp2
    clear e0
    go_loopw [17] (fun i wr => ∃ k : Nat, k ≤ K.length ∧ i = .int .i64 k ∧ (∀ i, i < k → intAt K i = intAt M i) ∧ wr = w)
      (fun i _ => K.length - (intOf i).toNat)
    case atStart => exact ⟨0, by omega, rfl, fun i hi => by omega, rfl⟩
    case round =>
      obtain ⟨k, hk, rfl, hv, rfl⟩ := hrel
      by_cases hlt : k < K.length
      · have hlt2 : k < M.length := by have := HL.out; omega
        obtain ⟨b1, off1, rfl, hp1⟩ := HV.out.at k (by simpa using hlt)
        obtain ⟨b2, off2, rfl, hp2⟩ := HM.out.at k hlt2
        have c1 := hp1 k (by simpa using hlt)
        rw [valAt_ptr A K k hlt] at c1
        have c2 := hp2 k hlt2
        obtain ⟨y0, b', d', p', f', K', hT⟩ := HK.out _ (show intAt K k ∈ K by simp [intAt, hlt])
        have HT := Lib.hid hT
        clear hp1 hp2 hT
        unfold ptrOf at c1
        have hyy : ((intAt K k).toNat : Int) = intAt K k := by omega
        by_cases hq : intAt K k = intAt M k
        · have HQ := Lib.hid (show (((intAt K k).toNat : Int) == intAt M k) = true by rw [hyy, hq]; simp)
          have HV := Lib.hid (show ∀ i, i < k + 1 → intAt K i = intAt M i from fun i hi => by
            by_cases e : i = k
            · rw [e, hq]
            · exact hv i (by omega))
          clear hv hq hyy
          generalize intAt K k = x at *
          generalize intAt M k = y at *
          go_wp2_with (go_at_call 129; refine (impl_kidsAre1 A x.toNat b' d' p' f' K' y _ HT.out).mono ?_; rintro e w2 ⟨rfl, rfl⟩; rw [HQ.out])
          go_roundw
          case rel => exact ⟨k + 1, by omega, by go_num, HV.out, trivial⟩
          case measure => simp [intOf]; omega
        · have HE := Lib.hid (show decide (K = M) = false from decide_eq_false fun e => hq (by rw [e]))
          have HQ := Lib.hid (show (((intAt K k).toNat : Int) == intAt M k) = false by rw [hyy]; simpa using hq)
          clear hv hq hyy
          generalize intAt K k = x at *
          generalize intAt M k = y at *
          go_wp2_with (go_at_call 129; refine (impl_kidsAre1 A x.toNat b' d' p' f' K' y _ HT.out).mono ?_; rintro e w2 ⟨rfl, rfl⟩; rw [HQ.out])
          go_ret
          exact ⟨by rw [HE.out]; rfl, rfl⟩
      · obtain rfl : k = K.length := by omega
        have HE := Lib.hid (show decide (K = M) = true from decide_eq_true (intAt_ext HL.out hv))
        clear hv
        go_wp2
        go_ret
        exact ⟨by rw [HE.out]; rfl, rfl⟩
  · have e0 : ((K.length : Int) != (M.length : Int)) = true := by simp; omega
    have HE := Lib.hid (show decide (K = M) = false from decide_eq_false fun e => hl (by rw [e]))
    clear hV hM hk
    go_enter Try.func128, Try.ntmps128
    go_wp2
    go_ret
    exact ⟨by rw [HE.out]; rfl, rfl⟩
set_option maxHeartbeats 1000000 in
theorem impl_kidsAre (A : Nat → Nat) (i : Nat) (b : Int) (d : Nat) (p f : Value) (K M : List Int) (aM : Option Addr) (capM : Nat) (w : World) (h : TN w A i b d p f K) (hM : Ints w aM M) (hk : Kin w A K) (hK : K.length ≤ 1048576) :
    Calls Try.prog 100 #[.pointer (some ⟨A i, 0, none⟩), .slice aM M.length capM] w fun e w' => e = .returned (.bool (decide (K = M))) ∧ w = w' := by
  obtain ⟨ka, kc, hA, hv⟩ := h
  have c5 : w.cell? ⟨A i, 5, none⟩ = some (.slice ka K.length kc) := by rw [cell_of_row _ _ 5 _ _ _ hA]; rfl
  have HV := Lib.hid hv
  have HM := Lib.hid hM
  have HK := Lib.hid hk
  clear hA hv hM hk
  go_enter Try.func100, Try.ntmps100
  go_wp2_with (go_at_call 128; refine (sl_equalKids A K M ka aM kc capM _ HV.out HM.out HK.out hK).mono ?_; rintro e w2 ⟨rfl, rfl⟩)
  go_ret
  exact ⟨rfl, rfl⟩
end Go.Proofs.Ytodmohepgmhipaa

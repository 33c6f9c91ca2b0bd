/-
  Chapter 14: AlignOk, in the program (by wip/tools/mk_alignok.py).
-/
import Derived.Test.YtelhgpoppgpniaaAlB
import Derived.Test.YtelhgpoppgpniaaL1Folded
namespace Go.Proofs.Ytelhgpoppgpniaa
open Go.RowKit
set_option linter.unusedVariables false
set_option maxRecDepth 100000
set_option maxHeartbeats 4000000 in
theorem impl_alignOk_false (s t o : ByteArray) (w : World) (hs : s.size ≤ 200) (ht : t.size ≤ 200) (ho : o.size ≤ 1048576) :
    Calls Try.prog 16 #[.string s, .string t, .bool false, .string o] w fun e w' => e = .returned (.bool (alOkS s t false o)) ∧ Below w.heap.size w w' := by
  rw [alOk_yes hs ht]
  have d1 : decide (200 < (s.size : Int)) = false := by simp; omega
  have d2 : decide (200 < (t.size : Int)) = false := by simp; omega
  have d3 : ¬ (200 : Int) < (s.size : Int) := by omega
  have d4 : ¬ (200 : Int) < (t.size : Int) := by omega
  have HE : ∀ i j, i < s.size → j < t.size → alE s t false i j = (((byteAt s i).toNat : Int) == ((byteAt t j).toNat : Int)) := fun i j hi hj => alE_fold s t false i j hi hj
  have HE2 := Lib.hid HE; clear HE
  obtain ⟨v, hv⟩ : ∃ v, alB (alE s t false) s.size t.size o.data.toList 0 0 = v := ⟨_, rfl⟩
  rw [hv]
  have HV := Lib.hid hv; clear hv
  obtain ⟨E, hE⟩ : ∃ E, alE s t false = E := ⟨_, rfl⟩
  rw [hE] at HE2 HV; clear hE
  have zs : s.size = s.size := rfl
  have zt : t.size = t.size := rfl
  have LA := Left.zero s
  have LB := Left.zero t
  have ZS := Lib.hid zs; have ZT := Lib.hid zt; have HLA := Lib.hid LA; have HLB := Lib.hid LB; clear zs zt LA LB
  go_enter Try.func16, Try.ntmps16
  go_wp2_with fail
  go_loopw [0, 1, 27] (fun a b x wr => ∃ (k i j : Nat) (A B : ByteArray), k ≤ o.size ∧ x = .int .i64 k ∧ a = .string A ∧ b = .string B ∧ Left s i A ∧ Left t j B ∧ alB E s.size t.size (o.data.toList.drop k) i j = v ∧ Below w.heap.size w wr)
    (fun _ _ x _ => o.size - (intOf x).toNat)
  case atStart => exact ⟨0, 0, 0, _, _, by omega, rfl, rfl, rfl, HLA.out, HLB.out, HV.out, Below.refl _ _⟩
  case round =>
    obtain ⟨k, i, j, A, B, hk, rfl, rfl, rfl, hA, hB, hal, hb⟩ := hrel
    have hAs := hA.size; have hBs := hB.size; have hiA := hA.1; have hjB := hB.1
    skip
    by_cases hlt : k < o.size
    · rw [alDrop_at o k hlt] at hal
      obtain ⟨c, hc⟩ : ∃ c : UInt8, o[k] = c := ⟨_, rfl⟩
      rw [hc] at hal
      by_cases c61 : c.toNat = 61
      · rw [alB_eq c61] at hal
        have z61 : ((c.toNat : Int) == 61) = true := by simp; omega
        have z120 : ((c.toNat : Int) == 120) = false := by simp; omega
        have z45 : ((c.toNat : Int) == 45) = false := by simp; omega
        have z43 : ((c.toNat : Int) == 43) = false := by simp; omega
        clear c61
        by_cases hi : i < s.size
        · have gi : decide (i < s.size) = true := decide_eq_true hi
          have hA0 : 0 < A.size := by omega
          have iA1 : (1 : Int) ≤ (A.size : Int) := by omega
          by_cases hj : j < t.size
          · have gj : decide (j < t.size) = true := decide_eq_true hj
            have hB0 : 0 < B.size := by omega
            have iB1 : (1 : Int) ≤ (B.size : Int) := by omega
            have eA : (A.toList == []) = false := hA.full hi
            have eA2 : ([] == A.toList) = false := by rw [← eA]; exact BEq.comm
            have eB : (B.toList == []) = false := hB.full hj
            have eB2 : ([] == B.toList) = false := by rw [← eB]; exact BEq.comm
            cases he : E i j
            · skip
              have q1 : ((A[0].toNat : Int) == (B[0].toNat : Int)) = false := by rw [hA.head hi hA0, hB.head hj hB0, ← HE2.out i j hi hj]; exact he
              have q2 : ((A[0].toNat : Int) != (B[0].toNat : Int)) = true := by unfold bne; rw [q1]; rfl
              have HF : Hid (v = false) := Lib.hid (by rw [← hal]; rw [gi, gj, he]; rfl)
              clear hal hA hB hAs hBs HV HE2
              go_wp2_with fail
              go_quiet (fail)
              go_wp2
              go_quiet (fail)
              go_wp2
              go_ret
              exact ⟨by rw [HF.out]; rfl, by first | exact hb | exact below_drewN hb _ | exact hb.drew | exact hb.drew.drew⟩
            · skip
              have q1 : ((A[0].toNat : Int) == (B[0].toNat : Int)) = true := by rw [hA.head hi hA0, hB.head hj hB0, ← HE2.out i j hi hj]; exact he
              have q2 : ((A[0].toNat : Int) != (B[0].toNat : Int)) = false := by unfold bne; rw [q1]; rfl
              have HN : Hid (alB E s.size t.size (o.data.toList.drop (k + 1)) (i + 1) (j + 1) = v) := Lib.hid (by rw [← hal]; rw [gi, gj, he]; rfl)
              have HA := Lib.hid (hA.next hi)
              have HB := Lib.hid (hB.next hj)
              clear hal hA hB hAs hBs HV HE2
              go_wp2_with fail
              go_quiet (fail)
              go_wp2
              go_quiet (fail)
              go_wp2
              go_roundw
              case rel => exact ⟨k + 1, (i + 1), (j + 1), _, _, by omega, by go_num, rfl, rfl, HA.out, HB.out, HN.out, by first | exact hb | exact below_drewN hb _⟩
              case measure => simp [intOf]; omega
          · have gj : decide (j < t.size) = false := decide_eq_false hj
            have eA : (A.toList == []) = false := hA.full hi
            have eA2 : ([] == A.toList) = false := by rw [← eA]; exact BEq.comm
            have eB : (B.toList == []) = true := by
              have e : j = t.size := by omega
              rw [e] at hB; exact Left.empty hB
            have eB2 : ([] == B.toList) = true := by rw [← eB]; exact BEq.comm
            have HF : Hid (v = false) := Lib.hid (by rw [← hal]; rw [gi, gj]; rfl)
            clear hal hA hB hAs hBs HV HE2
            go_wp2_with fail
            go_quiet (fail)
            go_wp2
            go_quiet (fail)
            go_wp2
            go_ret
            exact ⟨by rw [HF.out]; rfl, by first | exact hb | exact below_drewN hb _ | exact hb.drew | exact hb.drew.drew⟩
        · have gi : decide (i < s.size) = false := decide_eq_false hi
          by_cases hj : j < t.size
          · have gj : decide (j < t.size) = true := decide_eq_true hj
            have hB0 : 0 < B.size := by omega
            have iB1 : (1 : Int) ≤ (B.size : Int) := by omega
            have eA : (A.toList == []) = true := by
              have e : i = s.size := by omega
              rw [e] at hA; exact Left.empty hA
            have eA2 : ([] == A.toList) = true := by rw [← eA]; exact BEq.comm
            have eB : (B.toList == []) = false := hB.full hj
            have eB2 : ([] == B.toList) = false := by rw [← eB]; exact BEq.comm
            have HF : Hid (v = false) := Lib.hid (by rw [← hal]; rw [gi]; rfl)
            clear hal hA hB hAs hBs HV HE2
            go_wp2_with fail
            go_quiet (fail)
            go_wp2
            go_quiet (fail)
            go_wp2
            go_ret
            exact ⟨by rw [HF.out]; rfl, by first | exact hb | exact below_drewN hb _ | exact hb.drew | exact hb.drew.drew⟩
          · have gj : decide (j < t.size) = false := decide_eq_false hj
            have eA : (A.toList == []) = true := by
              have e : i = s.size := by omega
              rw [e] at hA; exact Left.empty hA
            have eA2 : ([] == A.toList) = true := by rw [← eA]; exact BEq.comm
            have eB : (B.toList == []) = true := by
              have e : j = t.size := by omega
              rw [e] at hB; exact Left.empty hB
            have eB2 : ([] == B.toList) = true := by rw [← eB]; exact BEq.comm
            have HF : Hid (v = false) := Lib.hid (by rw [← hal]; rw [gi]; rfl)
            clear hal hA hB hAs hBs HV HE2
            go_wp2_with fail
            go_quiet (fail)
            go_wp2
            go_quiet (fail)
            go_wp2
            go_ret
            exact ⟨by rw [HF.out]; rfl, by first | exact hb | exact below_drewN hb _ | exact hb.drew | exact hb.drew.drew⟩
      · skip
        by_cases c120 : c.toNat = 120
        · rw [alB_x c120] at hal
          have z61 : ((c.toNat : Int) == 61) = false := by simp; omega
          have z120 : ((c.toNat : Int) == 120) = true := by simp; omega
          have z45 : ((c.toNat : Int) == 45) = false := by simp; omega
          have z43 : ((c.toNat : Int) == 43) = false := by simp; omega
          clear c61 c120
          by_cases hi : i < s.size
          · have gi : decide (i < s.size) = true := decide_eq_true hi
            have hA0 : 0 < A.size := by omega
            have iA1 : (1 : Int) ≤ (A.size : Int) := by omega
            by_cases hj : j < t.size
            · have gj : decide (j < t.size) = true := decide_eq_true hj
              have hB0 : 0 < B.size := by omega
              have iB1 : (1 : Int) ≤ (B.size : Int) := by omega
              have eA : (A.toList == []) = false := hA.full hi
              have eA2 : ([] == A.toList) = false := by rw [← eA]; exact BEq.comm
              have eB : (B.toList == []) = false := hB.full hj
              have eB2 : ([] == B.toList) = false := by rw [← eB]; exact BEq.comm
              cases he : E i j
              · skip
                have q1 : ((A[0].toNat : Int) == (B[0].toNat : Int)) = false := by rw [hA.head hi hA0, hB.head hj hB0, ← HE2.out i j hi hj]; exact he
                have q2 : ((A[0].toNat : Int) != (B[0].toNat : Int)) = true := by unfold bne; rw [q1]; rfl
                have HN : Hid (alB E s.size t.size (o.data.toList.drop (k + 1)) (i + 1) (j + 1) = v) := Lib.hid (by rw [← hal]; rw [gi, gj, he]; rfl)
                have HA := Lib.hid (hA.next hi)
                have HB := Lib.hid (hB.next hj)
                clear hal hA hB hAs hBs HV HE2
                go_wp2_with fail
                go_quiet (fail)
                go_wp2
                go_quiet (fail)
                go_wp2
                go_quiet (fail)
                go_wp2
                go_roundw
                case rel => exact ⟨k + 1, (i + 1), (j + 1), _, _, by omega, by go_num, rfl, rfl, HA.out, HB.out, HN.out, by first | exact hb | exact below_drewN hb _⟩
                case measure => simp [intOf]; omega
              · skip
                have q1 : ((A[0].toNat : Int) == (B[0].toNat : Int)) = true := by rw [hA.head hi hA0, hB.head hj hB0, ← HE2.out i j hi hj]; exact he
                have q2 : ((A[0].toNat : Int) != (B[0].toNat : Int)) = false := by unfold bne; rw [q1]; rfl
                have HF : Hid (v = false) := Lib.hid (by rw [← hal]; rw [gi, gj, he]; rfl)
                clear hal hA hB hAs hBs HV HE2
                go_wp2_with fail
                go_quiet (fail)
                go_wp2
                go_quiet (fail)
                go_wp2
                go_ret
                exact ⟨by rw [HF.out]; rfl, by first | exact hb | exact below_drewN hb _ | exact hb.drew | exact hb.drew.drew⟩
            · have gj : decide (j < t.size) = false := decide_eq_false hj
              have eA : (A.toList == []) = false := hA.full hi
              have eA2 : ([] == A.toList) = false := by rw [← eA]; exact BEq.comm
              have eB : (B.toList == []) = true := by
                have e : j = t.size := by omega
                rw [e] at hB; exact Left.empty hB
              have eB2 : ([] == B.toList) = true := by rw [← eB]; exact BEq.comm
              have HF : Hid (v = false) := Lib.hid (by rw [← hal]; rw [gi, gj]; rfl)
              clear hal hA hB hAs hBs HV HE2
              go_wp2_with fail
              go_quiet (fail)
              go_wp2
              go_quiet (fail)
              go_wp2
              go_ret
              exact ⟨by rw [HF.out]; rfl, by first | exact hb | exact below_drewN hb _ | exact hb.drew | exact hb.drew.drew⟩
          · have gi : decide (i < s.size) = false := decide_eq_false hi
            by_cases hj : j < t.size
            · have gj : decide (j < t.size) = true := decide_eq_true hj
              have hB0 : 0 < B.size := by omega
              have iB1 : (1 : Int) ≤ (B.size : Int) := by omega
              have eA : (A.toList == []) = true := by
                have e : i = s.size := by omega
                rw [e] at hA; exact Left.empty hA
              have eA2 : ([] == A.toList) = true := by rw [← eA]; exact BEq.comm
              have eB : (B.toList == []) = false := hB.full hj
              have eB2 : ([] == B.toList) = false := by rw [← eB]; exact BEq.comm
              have HF : Hid (v = false) := Lib.hid (by rw [← hal]; rw [gi]; rfl)
              clear hal hA hB hAs hBs HV HE2
              go_wp2_with fail
              go_quiet (fail)
              go_wp2
              go_quiet (fail)
              go_wp2
              go_ret
              exact ⟨by rw [HF.out]; rfl, by first | exact hb | exact below_drewN hb _ | exact hb.drew | exact hb.drew.drew⟩
            · have gj : decide (j < t.size) = false := decide_eq_false hj
              have eA : (A.toList == []) = true := by
                have e : i = s.size := by omega
                rw [e] at hA; exact Left.empty hA
              have eA2 : ([] == A.toList) = true := by rw [← eA]; exact BEq.comm
              have eB : (B.toList == []) = true := by
                have e : j = t.size := by omega
                rw [e] at hB; exact Left.empty hB
              have eB2 : ([] == B.toList) = true := by rw [← eB]; exact BEq.comm
              have HF : Hid (v = false) := Lib.hid (by rw [← hal]; rw [gi]; rfl)
              clear hal hA hB hAs hBs HV HE2
              go_wp2_with fail
              go_quiet (fail)
              go_wp2
              go_quiet (fail)
              go_wp2
              go_ret
              exact ⟨by rw [HF.out]; rfl, by first | exact hb | exact below_drewN hb _ | exact hb.drew | exact hb.drew.drew⟩
        · skip
          by_cases c45 : c.toNat = 45
          · rw [alB_drop c45] at hal
            have z61 : ((c.toNat : Int) == 61) = false := by simp; omega
            have z120 : ((c.toNat : Int) == 120) = false := by simp; omega
            have z45 : ((c.toNat : Int) == 45) = true := by simp; omega
            have z43 : ((c.toNat : Int) == 43) = false := by simp; omega
            clear c61 c120 c45
            by_cases hi : i < s.size
            · have gi : decide (i < s.size) = true := decide_eq_true hi
              have hA0 : 0 < A.size := by omega
              have iA1 : (1 : Int) ≤ (A.size : Int) := by omega
              by_cases hj : j < t.size
              · have gj : decide (j < t.size) = true := decide_eq_true hj
                have hB0 : 0 < B.size := by omega
                have iB1 : (1 : Int) ≤ (B.size : Int) := by omega
                have eA : (A.toList == []) = false := hA.full hi
                have eA2 : ([] == A.toList) = false := by rw [← eA]; exact BEq.comm
                have eB : (B.toList == []) = false := hB.full hj
                have eB2 : ([] == B.toList) = false := by rw [← eB]; exact BEq.comm
                have HN : Hid (alB E s.size t.size (o.data.toList.drop (k + 1)) (i + 1) j = v) := Lib.hid (by rw [← hal]; rw [gi]; rfl)
                have HA := Lib.hid (hA.next hi)
                have HB := Lib.hid hB
                clear hal hA hB hAs hBs HV HE2
                go_wp2_with fail
                go_quiet (fail)
                go_wp2
                go_quiet (fail)
                go_wp2
                go_roundw
                case rel => exact ⟨k + 1, (i + 1), j, _, _, by omega, by go_num, rfl, rfl, HA.out, HB.out, HN.out, by first | exact hb | exact below_drewN hb _⟩
                case measure => simp [intOf]; omega
              · have gj : decide (j < t.size) = false := decide_eq_false hj
                have eA : (A.toList == []) = false := hA.full hi
                have eA2 : ([] == A.toList) = false := by rw [← eA]; exact BEq.comm
                have eB : (B.toList == []) = true := by
                  have e : j = t.size := by omega
                  rw [e] at hB; exact Left.empty hB
                have eB2 : ([] == B.toList) = true := by rw [← eB]; exact BEq.comm
                have HN : Hid (alB E s.size t.size (o.data.toList.drop (k + 1)) (i + 1) j = v) := Lib.hid (by rw [← hal]; rw [gi]; rfl)
                have HA := Lib.hid (hA.next hi)
                have HB := Lib.hid hB
                clear hal hA hB hAs hBs HV HE2
                go_wp2_with fail
                go_quiet (fail)
                go_wp2
                go_quiet (fail)
                go_wp2
                go_roundw
                case rel => exact ⟨k + 1, (i + 1), j, _, _, by omega, by go_num, rfl, rfl, HA.out, HB.out, HN.out, by first | exact hb | exact below_drewN hb _⟩
                case measure => simp [intOf]; omega
            · have gi : decide (i < s.size) = false := decide_eq_false hi
              by_cases hj : j < t.size
              · have gj : decide (j < t.size) = true := decide_eq_true hj
                have hB0 : 0 < B.size := by omega
                have iB1 : (1 : Int) ≤ (B.size : Int) := by omega
                have eA : (A.toList == []) = true := by
                  have e : i = s.size := by omega
                  rw [e] at hA; exact Left.empty hA
                have eA2 : ([] == A.toList) = true := by rw [← eA]; exact BEq.comm
                have eB : (B.toList == []) = false := hB.full hj
                have eB2 : ([] == B.toList) = false := by rw [← eB]; exact BEq.comm
                have HF : Hid (v = false) := Lib.hid (by rw [← hal]; rw [gi]; rfl)
                clear hal hA hB hAs hBs HV HE2
                go_wp2_with fail
                go_quiet (fail)
                go_wp2
                go_quiet (fail)
                go_wp2
                go_ret
                exact ⟨by rw [HF.out]; rfl, by first | exact hb | exact below_drewN hb _ | exact hb.drew | exact hb.drew.drew⟩
              · have gj : decide (j < t.size) = false := decide_eq_false hj
                have eA : (A.toList == []) = true := by
                  have e : i = s.size := by omega
                  rw [e] at hA; exact Left.empty hA
                have eA2 : ([] == A.toList) = true := by rw [← eA]; exact BEq.comm
                have eB : (B.toList == []) = true := by
                  have e : j = t.size := by omega
                  rw [e] at hB; exact Left.empty hB
                have eB2 : ([] == B.toList) = true := by rw [← eB]; exact BEq.comm
                have HF : Hid (v = false) := Lib.hid (by rw [← hal]; rw [gi]; rfl)
                clear hal hA hB hAs hBs HV HE2
                go_wp2_with fail
                go_quiet (fail)
                go_wp2
                go_quiet (fail)
                go_wp2
                go_ret
                exact ⟨by rw [HF.out]; rfl, by first | exact hb | exact below_drewN hb _ | exact hb.drew | exact hb.drew.drew⟩
          · skip
            by_cases c43 : c.toNat = 43
            · rw [alB_put c43] at hal
              have z61 : ((c.toNat : Int) == 61) = false := by simp; omega
              have z120 : ((c.toNat : Int) == 120) = false := by simp; omega
              have z45 : ((c.toNat : Int) == 45) = false := by simp; omega
              have z43 : ((c.toNat : Int) == 43) = true := by simp; omega
              clear c61 c120 c45 c43
              by_cases hi : i < s.size
              · have gi : decide (i < s.size) = true := decide_eq_true hi
                have hA0 : 0 < A.size := by omega
                have iA1 : (1 : Int) ≤ (A.size : Int) := by omega
                by_cases hj : j < t.size
                · have gj : decide (j < t.size) = true := decide_eq_true hj
                  have hB0 : 0 < B.size := by omega
                  have iB1 : (1 : Int) ≤ (B.size : Int) := by omega
                  have eA : (A.toList == []) = false := hA.full hi
                  have eA2 : ([] == A.toList) = false := by rw [← eA]; exact BEq.comm
                  have eB : (B.toList == []) = false := hB.full hj
                  have eB2 : ([] == B.toList) = false := by rw [← eB]; exact BEq.comm
                  have HN : Hid (alB E s.size t.size (o.data.toList.drop (k + 1)) i (j + 1) = v) := Lib.hid (by rw [← hal]; rw [gj]; rfl)
                  have HA := Lib.hid hA
                  have HB := Lib.hid (hB.next hj)
                  clear hal hA hB hAs hBs HV HE2
                  go_wp2_with fail
                  go_quiet (fail)
                  go_wp2
                  go_quiet (fail)
                  go_wp2
                  go_roundw
                  case rel => exact ⟨k + 1, i, (j + 1), _, _, by omega, by go_num, rfl, rfl, HA.out, HB.out, HN.out, by first | exact hb | exact below_drewN hb _⟩
                  case measure => simp [intOf]; omega
                · have gj : decide (j < t.size) = false := decide_eq_false hj
                  have eA : (A.toList == []) = false := hA.full hi
                  have eA2 : ([] == A.toList) = false := by rw [← eA]; exact BEq.comm
                  have eB : (B.toList == []) = true := by
                    have e : j = t.size := by omega
                    rw [e] at hB; exact Left.empty hB
                  have eB2 : ([] == B.toList) = true := by rw [← eB]; exact BEq.comm
                  have HF : Hid (v = false) := Lib.hid (by rw [← hal]; rw [gj]; rfl)
                  clear hal hA hB hAs hBs HV HE2
                  go_wp2_with fail
                  go_quiet (fail)
                  go_wp2
                  go_quiet (fail)
                  go_wp2
                  go_ret
                  exact ⟨by rw [HF.out]; rfl, by first | exact hb | exact below_drewN hb _ | exact hb.drew | exact hb.drew.drew⟩
              · have gi : decide (i < s.size) = false := decide_eq_false hi
                by_cases hj : j < t.size
                · have gj : decide (j < t.size) = true := decide_eq_true hj
                  have hB0 : 0 < B.size := by omega
                  have iB1 : (1 : Int) ≤ (B.size : Int) := by omega
                  have eA : (A.toList == []) = true := by
                    have e : i = s.size := by omega
                    rw [e] at hA; exact Left.empty hA
                  have eA2 : ([] == A.toList) = true := by rw [← eA]; exact BEq.comm
                  have eB : (B.toList == []) = false := hB.full hj
                  have eB2 : ([] == B.toList) = false := by rw [← eB]; exact BEq.comm
                  have HN : Hid (alB E s.size t.size (o.data.toList.drop (k + 1)) i (j + 1) = v) := Lib.hid (by rw [← hal]; rw [gj]; rfl)
                  have HA := Lib.hid hA
                  have HB := Lib.hid (hB.next hj)
                  clear hal hA hB hAs hBs HV HE2
                  go_wp2_with fail
                  go_quiet (fail)
                  go_wp2
                  go_quiet (fail)
                  go_wp2
                  go_roundw
                  case rel => exact ⟨k + 1, i, (j + 1), _, _, by omega, by go_num, rfl, rfl, HA.out, HB.out, HN.out, by first | exact hb | exact below_drewN hb _⟩
                  case measure => simp [intOf]; omega
                · have gj : decide (j < t.size) = false := decide_eq_false hj
                  have eA : (A.toList == []) = true := by
                    have e : i = s.size := by omega
                    rw [e] at hA; exact Left.empty hA
                  have eA2 : ([] == A.toList) = true := by rw [← eA]; exact BEq.comm
                  have eB : (B.toList == []) = true := by
                    have e : j = t.size := by omega
                    rw [e] at hB; exact Left.empty hB
                  have eB2 : ([] == B.toList) = true := by rw [← eB]; exact BEq.comm
                  have HF : Hid (v = false) := Lib.hid (by rw [← hal]; rw [gj]; rfl)
                  clear hal hA hB hAs hBs HV HE2
                  go_wp2_with fail
                  go_quiet (fail)
                  go_wp2
                  go_quiet (fail)
                  go_wp2
                  go_ret
                  exact ⟨by rw [HF.out]; rfl, by first | exact hb | exact below_drewN hb _ | exact hb.drew | exact hb.drew.drew⟩
            · skip
              rw [alB_none c61 c120 c45 c43] at hal
              have z61 : ((c.toNat : Int) == 61) = false := by simp; omega
              have z120 : ((c.toNat : Int) == 120) = false := by simp; omega
              have z45 : ((c.toNat : Int) == 45) = false := by simp; omega
              have z43 : ((c.toNat : Int) == 43) = false := by simp; omega
              clear c61 c120 c45 c43
              by_cases hi : i < s.size
              · have gi : decide (i < s.size) = true := decide_eq_true hi
                have hA0 : 0 < A.size := by omega
                have iA1 : (1 : Int) ≤ (A.size : Int) := by omega
                by_cases hj : j < t.size
                · have gj : decide (j < t.size) = true := decide_eq_true hj
                  have hB0 : 0 < B.size := by omega
                  have iB1 : (1 : Int) ≤ (B.size : Int) := by omega
                  have eA : (A.toList == []) = false := hA.full hi
                  have eA2 : ([] == A.toList) = false := by rw [← eA]; exact BEq.comm
                  have eB : (B.toList == []) = false := hB.full hj
                  have eB2 : ([] == B.toList) = false := by rw [← eB]; exact BEq.comm
                  have HF : Hid (v = false) := Lib.hid (by rw [← hal])
                  clear hal hA hB hAs hBs HV HE2
                  go_wp2_with fail
                  go_quiet (fail)
                  go_wp2
                  go_quiet (fail)
                  go_wp2
                  go_ret
                  exact ⟨by rw [HF.out]; rfl, by first | exact hb | exact below_drewN hb _ | exact hb.drew | exact hb.drew.drew⟩
                · have gj : decide (j < t.size) = false := decide_eq_false hj
                  have eA : (A.toList == []) = false := hA.full hi
                  have eA2 : ([] == A.toList) = false := by rw [← eA]; exact BEq.comm
                  have eB : (B.toList == []) = true := by
                    have e : j = t.size := by omega
                    rw [e] at hB; exact Left.empty hB
                  have eB2 : ([] == B.toList) = true := by rw [← eB]; exact BEq.comm
                  have HF : Hid (v = false) := Lib.hid (by rw [← hal])
                  clear hal hA hB hAs hBs HV HE2
                  go_wp2_with fail
                  go_quiet (fail)
                  go_wp2
                  go_quiet (fail)
                  go_wp2
                  go_ret
                  exact ⟨by rw [HF.out]; rfl, by first | exact hb | exact below_drewN hb _ | exact hb.drew | exact hb.drew.drew⟩
              · have gi : decide (i < s.size) = false := decide_eq_false hi
                by_cases hj : j < t.size
                · have gj : decide (j < t.size) = true := decide_eq_true hj
                  have hB0 : 0 < B.size := by omega
                  have iB1 : (1 : Int) ≤ (B.size : Int) := by omega
                  have eA : (A.toList == []) = true := by
                    have e : i = s.size := by omega
                    rw [e] at hA; exact Left.empty hA
                  have eA2 : ([] == A.toList) = true := by rw [← eA]; exact BEq.comm
                  have eB : (B.toList == []) = false := hB.full hj
                  have eB2 : ([] == B.toList) = false := by rw [← eB]; exact BEq.comm
                  have HF : Hid (v = false) := Lib.hid (by rw [← hal])
                  clear hal hA hB hAs hBs HV HE2
                  go_wp2_with fail
                  go_quiet (fail)
                  go_wp2
                  go_quiet (fail)
                  go_wp2
                  go_ret
                  exact ⟨by rw [HF.out]; rfl, by first | exact hb | exact below_drewN hb _ | exact hb.drew | exact hb.drew.drew⟩
                · have gj : decide (j < t.size) = false := decide_eq_false hj
                  have eA : (A.toList == []) = true := by
                    have e : i = s.size := by omega
                    rw [e] at hA; exact Left.empty hA
                  have eA2 : ([] == A.toList) = true := by rw [← eA]; exact BEq.comm
                  have eB : (B.toList == []) = true := by
                    have e : j = t.size := by omega
                    rw [e] at hB; exact Left.empty hB
                  have eB2 : ([] == B.toList) = true := by rw [← eB]; exact BEq.comm
                  have HF : Hid (v = false) := Lib.hid (by rw [← hal])
                  clear hal hA hB hAs hBs HV HE2
                  go_wp2_with fail
                  go_quiet (fail)
                  go_wp2
                  go_quiet (fail)
                  go_wp2
                  go_ret
                  exact ⟨by rw [HF.out]; rfl, by first | exact hb | exact below_drewN hb _ | exact hb.drew | exact hb.drew.drew⟩
    · obtain rfl : k = o.size := by omega
      rw [alDrop_end, alB_nil] at hal
      by_cases hi : i < s.size
      · have gi : decide (i < s.size) = true := decide_eq_true hi
        have hA0 : 0 < A.size := by omega
        have iA1 : (1 : Int) ≤ (A.size : Int) := by omega
        by_cases hj : j < t.size
        · have gj : decide (j < t.size) = true := decide_eq_true hj
          have hB0 : 0 < B.size := by omega
          have iB1 : (1 : Int) ≤ (B.size : Int) := by omega
          have eA : (A.toList == []) = false := hA.full hi
          have eA2 : ([] == A.toList) = false := by rw [← eA]; exact BEq.comm
          have eB : (B.toList == []) = false := hB.full hj
          have eB2 : ([] == B.toList) = false := by rw [← eB]; exact BEq.comm
          have HF : Hid (v = false) := Lib.hid (by rw [← hal]; simp; omega)
          clear hal hA hB HV HE2
          go_wp2_with fail
          go_ret
          exact ⟨by rw [HF.out]; rfl, hb⟩
        · have gj : decide (j < t.size) = false := decide_eq_false hj
          have eA : (A.toList == []) = false := hA.full hi
          have eA2 : ([] == A.toList) = false := by rw [← eA]; exact BEq.comm
          have eB : (B.toList == []) = true := by
            have e : j = t.size := by omega
            rw [e] at hB; exact Left.empty hB
          have eB2 : ([] == B.toList) = true := by rw [← eB]; exact BEq.comm
          have HF : Hid (v = false) := Lib.hid (by rw [← hal]; simp; omega)
          clear hal hA hB HV HE2
          go_wp2_with fail
          go_ret
          exact ⟨by rw [HF.out]; rfl, hb⟩
      · have gi : decide (i < s.size) = false := decide_eq_false hi
        by_cases hj : j < t.size
        · have gj : decide (j < t.size) = true := decide_eq_true hj
          have hB0 : 0 < B.size := by omega
          have iB1 : (1 : Int) ≤ (B.size : Int) := by omega
          have eA : (A.toList == []) = true := by
            have e : i = s.size := by omega
            rw [e] at hA; exact Left.empty hA
          have eA2 : ([] == A.toList) = true := by rw [← eA]; exact BEq.comm
          have eB : (B.toList == []) = false := hB.full hj
          have eB2 : ([] == B.toList) = false := by rw [← eB]; exact BEq.comm
          have HF : Hid (v = false) := Lib.hid (by rw [← hal]; simp; omega)
          clear hal hA hB HV HE2
          go_wp2_with fail
          go_ret
          exact ⟨by rw [HF.out]; rfl, hb⟩
        · have gj : decide (j < t.size) = false := decide_eq_false hj
          have eA : (A.toList == []) = true := by
            have e : i = s.size := by omega
            rw [e] at hA; exact Left.empty hA
          have eA2 : ([] == A.toList) = true := by rw [← eA]; exact BEq.comm
          have eB : (B.toList == []) = true := by
            have e : j = t.size := by omega
            rw [e] at hB; exact Left.empty hB
          have eB2 : ([] == B.toList) = true := by rw [← eB]; exact BEq.comm
          have HF : Hid (v = true) := Lib.hid (by rw [← hal]; simp; omega)
          clear hal hA hB HV HE2
          go_wp2_with fail
          go_ret
          exact ⟨by rw [HF.out]; rfl, hb⟩
set_option maxHeartbeats 4000000 in
theorem impl_alignOk_true (s t o : ByteArray) (w : World) (hs : s.size ≤ 200) (ht : t.size ≤ 200) (ho : o.size ≤ 1048576) :
    Calls Try.prog 16 #[.string s, .string t, .bool true, .string o] w fun e w' => e = .returned (.bool (alOkS s t true o)) ∧ Below w.heap.size w w' := by
  rw [alOk_yes hs ht]
  have d1 : decide (200 < (s.size : Int)) = false := by simp; omega
  have d2 : decide (200 < (t.size : Int)) = false := by simp; omega
  have d3 : ¬ (200 : Int) < (s.size : Int) := by omega
  have d4 : ¬ (200 : Int) < (t.size : Int) := by omega
  have HE : ∀ i j, i < s.size → j < t.size → alE s t true i j = (((byteAt (foldS s) i).toNat : Int) == ((byteAt (foldS t) j).toNat : Int)) := fun i j hi hj => alE_fold s t true i j hi hj
  have HE2 := Lib.hid HE; clear HE
  obtain ⟨v, hv⟩ : ∃ v, alB (alE s t true) s.size t.size o.data.toList 0 0 = v := ⟨_, rfl⟩
  rw [hv]
  have HV := Lib.hid hv; clear hv
  obtain ⟨E, hE⟩ : ∃ E, alE s t true = E := ⟨_, rfl⟩
  rw [hE] at HE2 HV; clear hE
  have zs := foldS_size s
  have zt := foldS_size t
  have LA := Left.zero (foldS s)
  have LB := Left.zero (foldS t)
  obtain ⟨S, hS⟩ : ∃ S, foldS s = S := ⟨_, rfl⟩
  obtain ⟨T, hT⟩ : ∃ T, foldS t = T := ⟨_, rfl⟩
  rw [hS] at zs LA HE2
  rw [hT] at zt LB HE2
  have HS := Lib.hid hS; have HT := Lib.hid hT; have ZS := Lib.hid zs; have ZT := Lib.hid zt; have HLA := Lib.hid LA; have HLB := Lib.hid LB; clear hS hT zs zt LA LB
  go_enter Try.func16, Try.ntmps16
  go_wp2_with fail
  refine (impl_folded s _ (by omega)).mono ?_
  rintro e w1 ⟨rfl, hb1⟩
  rw [HS.out]
  have hB1 : Below w.heap.size w w1 := below_step (Below.refl _ _) hb1
  clear hb1
  go_wp2_with fail
  refine (impl_folded t _ (by omega)).mono ?_
  rintro e w2 ⟨rfl, hb2⟩
  rw [HT.out]
  have hB2 := below_step hB1 hb2
  clear hb2 hB1
  go_wp2
  go_loopw [0, 1, 27] (fun a b x wr => ∃ (k i j : Nat) (A B : ByteArray), k ≤ o.size ∧ x = .int .i64 k ∧ a = .string A ∧ b = .string B ∧ Left S i A ∧ Left T j B ∧ alB E s.size t.size (o.data.toList.drop k) i j = v ∧ Below w.heap.size w wr)
    (fun _ _ x _ => o.size - (intOf x).toNat)
  case atStart => exact ⟨0, 0, 0, _, _, by omega, rfl, rfl, rfl, HLA.out, HLB.out, HV.out, hB2⟩
  case round =>
    obtain ⟨k, i, j, A, B, hk, rfl, rfl, rfl, hA, hB, hal, hb⟩ := hrel
    have hAs := hA.size; have hBs := hB.size; have hiA := hA.1; have hjB := hB.1
    rw [ZS.out] at hAs hiA; rw [ZT.out] at hBs hjB
    by_cases hlt : k < o.size
    · rw [alDrop_at o k hlt] at hal
      obtain ⟨c, hc⟩ : ∃ c : UInt8, o[k] = c := ⟨_, rfl⟩
      rw [hc] at hal
      by_cases c61 : c.toNat = 61
      · rw [alB_eq c61] at hal
        have z61 : ((c.toNat : Int) == 61) = true := by simp; omega
        have z120 : ((c.toNat : Int) == 120) = false := by simp; omega
        have z45 : ((c.toNat : Int) == 45) = false := by simp; omega
        have z43 : ((c.toNat : Int) == 43) = false := by simp; omega
        clear c61
        by_cases hi : i < s.size
        · have gi : decide (i < s.size) = true := decide_eq_true hi
          have hA0 : 0 < A.size := by omega
          have iA1 : (1 : Int) ≤ (A.size : Int) := by omega
          by_cases hj : j < t.size
          · have gj : decide (j < t.size) = true := decide_eq_true hj
            have hB0 : 0 < B.size := by omega
            have iB1 : (1 : Int) ≤ (B.size : Int) := by omega
            have eA : (A.toList == []) = false := hA.full (by rw [ZS.out]; exact hi)
            have eA2 : ([] == A.toList) = false := by rw [← eA]; exact BEq.comm
            have eB : (B.toList == []) = false := hB.full (by rw [ZT.out]; exact hj)
            have eB2 : ([] == B.toList) = false := by rw [← eB]; exact BEq.comm
            cases he : E i j
            · skip
              have q1 : ((A[0].toNat : Int) == (B[0].toNat : Int)) = false := by rw [hA.head (by rw [ZS.out]; exact hi) hA0, hB.head (by rw [ZT.out]; exact hj) hB0, ← HE2.out i j hi hj]; exact he
              have q2 : ((A[0].toNat : Int) != (B[0].toNat : Int)) = true := by unfold bne; rw [q1]; rfl
              have HF : Hid (v = false) := Lib.hid (by rw [← hal]; rw [gi, gj, he]; rfl)
              clear hal hA hB hAs hBs HV HE2
              go_wp2_with fail
              go_quiet (fail)
              go_wp2
              go_quiet (fail)
              go_wp2
              go_ret
              exact ⟨by rw [HF.out]; rfl, by first | exact hb | exact below_drewN hb _ | exact hb.drew | exact hb.drew.drew⟩
            · skip
              have q1 : ((A[0].toNat : Int) == (B[0].toNat : Int)) = true := by rw [hA.head (by rw [ZS.out]; exact hi) hA0, hB.head (by rw [ZT.out]; exact hj) hB0, ← HE2.out i j hi hj]; exact he
              have q2 : ((A[0].toNat : Int) != (B[0].toNat : Int)) = false := by unfold bne; rw [q1]; rfl
              have HN : Hid (alB E s.size t.size (o.data.toList.drop (k + 1)) (i + 1) (j + 1) = v) := Lib.hid (by rw [← hal]; rw [gi, gj, he]; rfl)
              have HA := Lib.hid (hA.next (by rw [ZS.out]; exact hi))
              have HB := Lib.hid (hB.next (by rw [ZT.out]; exact hj))
              clear hal hA hB hAs hBs HV HE2
              go_wp2_with fail
              go_quiet (fail)
              go_wp2
              go_quiet (fail)
              go_wp2
              go_roundw
              case rel => exact ⟨k + 1, (i + 1), (j + 1), _, _, by omega, by go_num, rfl, rfl, HA.out, HB.out, HN.out, by first | exact hb | exact below_drewN hb _⟩
              case measure => simp [intOf]; omega
          · have gj : decide (j < t.size) = false := decide_eq_false hj
            have eA : (A.toList == []) = false := hA.full (by rw [ZS.out]; exact hi)
            have eA2 : ([] == A.toList) = false := by rw [← eA]; exact BEq.comm
            have eB : (B.toList == []) = true := by
              have e : j = t.size := by omega
              rw [e, ← ZT.out] at hB; exact Left.empty hB
            have eB2 : ([] == B.toList) = true := by rw [← eB]; exact BEq.comm
            have HF : Hid (v = false) := Lib.hid (by rw [← hal]; rw [gi, gj]; rfl)
            clear hal hA hB hAs hBs HV HE2
            go_wp2_with fail
            go_quiet (fail)
            go_wp2
            go_quiet (fail)
            go_wp2
            go_ret
            exact ⟨by rw [HF.out]; rfl, by first | exact hb | exact below_drewN hb _ | exact hb.drew | exact hb.drew.drew⟩
        · have gi : decide (i < s.size) = false := decide_eq_false hi
          by_cases hj : j < t.size
          · have gj : decide (j < t.size) = true := decide_eq_true hj
            have hB0 : 0 < B.size := by omega
            have iB1 : (1 : Int) ≤ (B.size : Int) := by omega
            have eA : (A.toList == []) = true := by
              have e : i = s.size := by omega
              rw [e, ← ZS.out] at hA; exact Left.empty hA
            have eA2 : ([] == A.toList) = true := by rw [← eA]; exact BEq.comm
            have eB : (B.toList == []) = false := hB.full (by rw [ZT.out]; exact hj)
            have eB2 : ([] == B.toList) = false := by rw [← eB]; exact BEq.comm
            have HF : Hid (v = false) := Lib.hid (by rw [← hal]; rw [gi]; rfl)
            clear hal hA hB hAs hBs HV HE2
            go_wp2_with fail
            go_quiet (fail)
            go_wp2
            go_quiet (fail)
            go_wp2
            go_ret
            exact ⟨by rw [HF.out]; rfl, by first | exact hb | exact below_drewN hb _ | exact hb.drew | exact hb.drew.drew⟩
          · have gj : decide (j < t.size) = false := decide_eq_false hj
            have eA : (A.toList == []) = true := by
              have e : i = s.size := by omega
              rw [e, ← ZS.out] at hA; exact Left.empty hA
            have eA2 : ([] == A.toList) = true := by rw [← eA]; exact BEq.comm
            have eB : (B.toList == []) = true := by
              have e : j = t.size := by omega
              rw [e, ← ZT.out] at hB; exact Left.empty hB
            have eB2 : ([] == B.toList) = true := by rw [← eB]; exact BEq.comm
            have HF : Hid (v = false) := Lib.hid (by rw [← hal]; rw [gi]; rfl)
            clear hal hA hB hAs hBs HV HE2
            go_wp2_with fail
            go_quiet (fail)
            go_wp2
            go_quiet (fail)
            go_wp2
            go_ret
            exact ⟨by rw [HF.out]; rfl, by first | exact hb | exact below_drewN hb _ | exact hb.drew | exact hb.drew.drew⟩
      · skip
        by_cases c120 : c.toNat = 120
        · rw [alB_x c120] at hal
          have z61 : ((c.toNat : Int) == 61) = false := by simp; omega
          have z120 : ((c.toNat : Int) == 120) = true := by simp; omega
          have z45 : ((c.toNat : Int) == 45) = false := by simp; omega
          have z43 : ((c.toNat : Int) == 43) = false := by simp; omega
          clear c61 c120
          by_cases hi : i < s.size
          · have gi : decide (i < s.size) = true := decide_eq_true hi
            have hA0 : 0 < A.size := by omega
            have iA1 : (1 : Int) ≤ (A.size : Int) := by omega
            by_cases hj : j < t.size
            · have gj : decide (j < t.size) = true := decide_eq_true hj
              have hB0 : 0 < B.size := by omega
              have iB1 : (1 : Int) ≤ (B.size : Int) := by omega
              have eA : (A.toList == []) = false := hA.full (by rw [ZS.out]; exact hi)
              have eA2 : ([] == A.toList) = false := by rw [← eA]; exact BEq.comm
              have eB : (B.toList == []) = false := hB.full (by rw [ZT.out]; exact hj)
              have eB2 : ([] == B.toList) = false := by rw [← eB]; exact BEq.comm
              cases he : E i j
              · skip
                have q1 : ((A[0].toNat : Int) == (B[0].toNat : Int)) = false := by rw [hA.head (by rw [ZS.out]; exact hi) hA0, hB.head (by rw [ZT.out]; exact hj) hB0, ← HE2.out i j hi hj]; exact he
                have q2 : ((A[0].toNat : Int) != (B[0].toNat : Int)) = true := by unfold bne; rw [q1]; rfl
                have HN : Hid (alB E s.size t.size (o.data.toList.drop (k + 1)) (i + 1) (j + 1) = v) := Lib.hid (by rw [← hal]; rw [gi, gj, he]; rfl)
                have HA := Lib.hid (hA.next (by rw [ZS.out]; exact hi))
                have HB := Lib.hid (hB.next (by rw [ZT.out]; exact hj))
                clear hal hA hB hAs hBs HV HE2
                go_wp2_with fail
                go_quiet (fail)
                go_wp2
                go_quiet (fail)
                go_wp2
                go_quiet (fail)
                go_wp2
                go_roundw
                case rel => exact ⟨k + 1, (i + 1), (j + 1), _, _, by omega, by go_num, rfl, rfl, HA.out, HB.out, HN.out, by first | exact hb | exact below_drewN hb _⟩
                case measure => simp [intOf]; omega
              · skip
                have q1 : ((A[0].toNat : Int) == (B[0].toNat : Int)) = true := by rw [hA.head (by rw [ZS.out]; exact hi) hA0, hB.head (by rw [ZT.out]; exact hj) hB0, ← HE2.out i j hi hj]; exact he
                have q2 : ((A[0].toNat : Int) != (B[0].toNat : Int)) = false := by unfold bne; rw [q1]; rfl
                have HF : Hid (v = false) := Lib.hid (by rw [← hal]; rw [gi, gj, he]; rfl)
                clear hal hA hB hAs hBs HV HE2
                go_wp2_with fail
                go_quiet (fail)
                go_wp2
                go_quiet (fail)
                go_wp2
                go_ret
                exact ⟨by rw [HF.out]; rfl, by first | exact hb | exact below_drewN hb _ | exact hb.drew | exact hb.drew.drew⟩
            · have gj : decide (j < t.size) = false := decide_eq_false hj
              have eA : (A.toList == []) = false := hA.full (by rw [ZS.out]; exact hi)
              have eA2 : ([] == A.toList) = false := by rw [← eA]; exact BEq.comm
              have eB : (B.toList == []) = true := by
                have e : j = t.size := by omega
                rw [e, ← ZT.out] at hB; exact Left.empty hB
              have eB2 : ([] == B.toList) = true := by rw [← eB]; exact BEq.comm
              have HF : Hid (v = false) := Lib.hid (by rw [← hal]; rw [gi, gj]; rfl)
              clear hal hA hB hAs hBs HV HE2
              go_wp2_with fail
              go_quiet (fail)
              go_wp2
              go_quiet (fail)
              go_wp2
              go_ret
              exact ⟨by rw [HF.out]; rfl, by first | exact hb | exact below_drewN hb _ | exact hb.drew | exact hb.drew.drew⟩
          · have gi : decide (i < s.size) = false := decide_eq_false hi
            by_cases hj : j < t.size
            · have gj : decide (j < t.size) = true := decide_eq_true hj
              have hB0 : 0 < B.size := by omega
              have iB1 : (1 : Int) ≤ (B.size : Int) := by omega
              have eA : (A.toList == []) = true := by
                have e : i = s.size := by omega
                rw [e, ← ZS.out] at hA; exact Left.empty hA
              have eA2 : ([] == A.toList) = true := by rw [← eA]; exact BEq.comm
              have eB : (B.toList == []) = false := hB.full (by rw [ZT.out]; exact hj)
              have eB2 : ([] == B.toList) = false := by rw [← eB]; exact BEq.comm
              have HF : Hid (v = false) := Lib.hid (by rw [← hal]; rw [gi]; rfl)
              clear hal hA hB hAs hBs HV HE2
              go_wp2_with fail
              go_quiet (fail)
              go_wp2
              go_quiet (fail)
              go_wp2
              go_ret
              exact ⟨by rw [HF.out]; rfl, by first | exact hb | exact below_drewN hb _ | exact hb.drew | exact hb.drew.drew⟩
            · have gj : decide (j < t.size) = false := decide_eq_false hj
              have eA : (A.toList == []) = true := by
                have e : i = s.size := by omega
                rw [e, ← ZS.out] at hA; exact Left.empty hA
              have eA2 : ([] == A.toList) = true := by rw [← eA]; exact BEq.comm
              have eB : (B.toList == []) = true := by
                have e : j = t.size := by omega
                rw [e, ← ZT.out] at hB; exact Left.empty hB
              have eB2 : ([] == B.toList) = true := by rw [← eB]; exact BEq.comm
              have HF : Hid (v = false) := Lib.hid (by rw [← hal]; rw [gi]; rfl)
              clear hal hA hB hAs hBs HV HE2
              go_wp2_with fail
              go_quiet (fail)
              go_wp2
              go_quiet (fail)
              go_wp2
              go_ret
              exact ⟨by rw [HF.out]; rfl, by first | exact hb | exact below_drewN hb _ | exact hb.drew | exact hb.drew.drew⟩
        · skip
          by_cases c45 : c.toNat = 45
          · rw [alB_drop c45] at hal
            have z61 : ((c.toNat : Int) == 61) = false := by simp; omega
            have z120 : ((c.toNat : Int) == 120) = false := by simp; omega
            have z45 : ((c.toNat : Int) == 45) = true := by simp; omega
            have z43 : ((c.toNat : Int) == 43) = false := by simp; omega
            clear c61 c120 c45
            by_cases hi : i < s.size
            · have gi : decide (i < s.size) = true := decide_eq_true hi
              have hA0 : 0 < A.size := by omega
              have iA1 : (1 : Int) ≤ (A.size : Int) := by omega
              by_cases hj : j < t.size
              · have gj : decide (j < t.size) = true := decide_eq_true hj
                have hB0 : 0 < B.size := by omega
                have iB1 : (1 : Int) ≤ (B.size : Int) := by omega
                have eA : (A.toList == []) = false := hA.full (by rw [ZS.out]; exact hi)
                have eA2 : ([] == A.toList) = false := by rw [← eA]; exact BEq.comm
                have eB : (B.toList == []) = false := hB.full (by rw [ZT.out]; exact hj)
                have eB2 : ([] == B.toList) = false := by rw [← eB]; exact BEq.comm
                have HN : Hid (alB E s.size t.size (o.data.toList.drop (k + 1)) (i + 1) j = v) := Lib.hid (by rw [← hal]; rw [gi]; rfl)
                have HA := Lib.hid (hA.next (by rw [ZS.out]; exact hi))
                have HB := Lib.hid hB
                clear hal hA hB hAs hBs HV HE2
                go_wp2_with fail
                go_quiet (fail)
                go_wp2
                go_quiet (fail)
                go_wp2
                go_roundw
                case rel => exact ⟨k + 1, (i + 1), j, _, _, by omega, by go_num, rfl, rfl, HA.out, HB.out, HN.out, by first | exact hb | exact below_drewN hb _⟩
                case measure => simp [intOf]; omega
              · have gj : decide (j < t.size) = false := decide_eq_false hj
                have eA : (A.toList == []) = false := hA.full (by rw [ZS.out]; exact hi)
                have eA2 : ([] == A.toList) = false := by rw [← eA]; exact BEq.comm
                have eB : (B.toList == []) = true := by
                  have e : j = t.size := by omega
                  rw [e, ← ZT.out] at hB; exact Left.empty hB
                have eB2 : ([] == B.toList) = true := by rw [← eB]; exact BEq.comm
                have HN : Hid (alB E s.size t.size (o.data.toList.drop (k + 1)) (i + 1) j = v) := Lib.hid (by rw [← hal]; rw [gi]; rfl)
                have HA := Lib.hid (hA.next (by rw [ZS.out]; exact hi))
                have HB := Lib.hid hB
                clear hal hA hB hAs hBs HV HE2
                go_wp2_with fail
                go_quiet (fail)
                go_wp2
                go_quiet (fail)
                go_wp2
                go_roundw
                case rel => exact ⟨k + 1, (i + 1), j, _, _, by omega, by go_num, rfl, rfl, HA.out, HB.out, HN.out, by first | exact hb | exact below_drewN hb _⟩
                case measure => simp [intOf]; omega
            · have gi : decide (i < s.size) = false := decide_eq_false hi
              by_cases hj : j < t.size
              · have gj : decide (j < t.size) = true := decide_eq_true hj
                have hB0 : 0 < B.size := by omega
                have iB1 : (1 : Int) ≤ (B.size : Int) := by omega
                have eA : (A.toList == []) = true := by
                  have e : i = s.size := by omega
                  rw [e, ← ZS.out] at hA; exact Left.empty hA
                have eA2 : ([] == A.toList) = true := by rw [← eA]; exact BEq.comm
                have eB : (B.toList == []) = false := hB.full (by rw [ZT.out]; exact hj)
                have eB2 : ([] == B.toList) = false := by rw [← eB]; exact BEq.comm
                have HF : Hid (v = false) := Lib.hid (by rw [← hal]; rw [gi]; rfl)
                clear hal hA hB hAs hBs HV HE2
                go_wp2_with fail
                go_quiet (fail)
                go_wp2
                go_quiet (fail)
                go_wp2
                go_ret
                exact ⟨by rw [HF.out]; rfl, by first | exact hb | exact below_drewN hb _ | exact hb.drew | exact hb.drew.drew⟩
              · have gj : decide (j < t.size) = false := decide_eq_false hj
                have eA : (A.toList == []) = true := by
                  have e : i = s.size := by omega
                  rw [e, ← ZS.out] at hA; exact Left.empty hA
                have eA2 : ([] == A.toList) = true := by rw [← eA]; exact BEq.comm
                have eB : (B.toList == []) = true := by
                  have e : j = t.size := by omega
                  rw [e, ← ZT.out] at hB; exact Left.empty hB
                have eB2 : ([] == B.toList) = true := by rw [← eB]; exact BEq.comm
                have HF : Hid (v = false) := Lib.hid (by rw [← hal]; rw [gi]; rfl)
                clear hal hA hB hAs hBs HV HE2
                go_wp2_with fail
                go_quiet (fail)
                go_wp2
                go_quiet (fail)
                go_wp2
                go_ret
                exact ⟨by rw [HF.out]; rfl, by first | exact hb | exact below_drewN hb _ | exact hb.drew | exact hb.drew.drew⟩
          · skip
            by_cases c43 : c.toNat = 43
            · rw [alB_put c43] at hal
              have z61 : ((c.toNat : Int) == 61) = false := by simp; omega
              have z120 : ((c.toNat : Int) == 120) = false := by simp; omega
              have z45 : ((c.toNat : Int) == 45) = false := by simp; omega
              have z43 : ((c.toNat : Int) == 43) = true := by simp; omega
              clear c61 c120 c45 c43
              by_cases hi : i < s.size
              · have gi : decide (i < s.size) = true := decide_eq_true hi
                have hA0 : 0 < A.size := by omega
                have iA1 : (1 : Int) ≤ (A.size : Int) := by omega
                by_cases hj : j < t.size
                · have gj : decide (j < t.size) = true := decide_eq_true hj
                  have hB0 : 0 < B.size := by omega
                  have iB1 : (1 : Int) ≤ (B.size : Int) := by omega
                  have eA : (A.toList == []) = false := hA.full (by rw [ZS.out]; exact hi)
                  have eA2 : ([] == A.toList) = false := by rw [← eA]; exact BEq.comm
                  have eB : (B.toList == []) = false := hB.full (by rw [ZT.out]; exact hj)
                  have eB2 : ([] == B.toList) = false := by rw [← eB]; exact BEq.comm
                  have HN : Hid (alB E s.size t.size (o.data.toList.drop (k + 1)) i (j + 1) = v) := Lib.hid (by rw [← hal]; rw [gj]; rfl)
                  have HA := Lib.hid hA
                  have HB := Lib.hid (hB.next (by rw [ZT.out]; exact hj))
                  clear hal hA hB hAs hBs HV HE2
                  go_wp2_with fail
                  go_quiet (fail)
                  go_wp2
                  go_quiet (fail)
                  go_wp2
                  go_roundw
                  case rel => exact ⟨k + 1, i, (j + 1), _, _, by omega, by go_num, rfl, rfl, HA.out, HB.out, HN.out, by first | exact hb | exact below_drewN hb _⟩
                  case measure => simp [intOf]; omega
                · have gj : decide (j < t.size) = false := decide_eq_false hj
                  have eA : (A.toList == []) = false := hA.full (by rw [ZS.out]; exact hi)
                  have eA2 : ([] == A.toList) = false := by rw [← eA]; exact BEq.comm
                  have eB : (B.toList == []) = true := by
                    have e : j = t.size := by omega
                    rw [e, ← ZT.out] at hB; exact Left.empty hB
                  have eB2 : ([] == B.toList) = true := by rw [← eB]; exact BEq.comm
                  have HF : Hid (v = false) := Lib.hid (by rw [← hal]; rw [gj]; rfl)
                  clear hal hA hB hAs hBs HV HE2
                  go_wp2_with fail
                  go_quiet (fail)
                  go_wp2
                  go_quiet (fail)
                  go_wp2
                  go_ret
                  exact ⟨by rw [HF.out]; rfl, by first | exact hb | exact below_drewN hb _ | exact hb.drew | exact hb.drew.drew⟩
              · have gi : decide (i < s.size) = false := decide_eq_false hi
                by_cases hj : j < t.size
                · have gj : decide (j < t.size) = true := decide_eq_true hj
                  have hB0 : 0 < B.size := by omega
                  have iB1 : (1 : Int) ≤ (B.size : Int) := by omega
                  have eA : (A.toList == []) = true := by
                    have e : i = s.size := by omega
                    rw [e, ← ZS.out] at hA; exact Left.empty hA
                  have eA2 : ([] == A.toList) = true := by rw [← eA]; exact BEq.comm
                  have eB : (B.toList == []) = false := hB.full (by rw [ZT.out]; exact hj)
                  have eB2 : ([] == B.toList) = false := by rw [← eB]; exact BEq.comm
                  have HN : Hid (alB E s.size t.size (o.data.toList.drop (k + 1)) i (j + 1) = v) := Lib.hid (by rw [← hal]; rw [gj]; rfl)
                  have HA := Lib.hid hA
                  have HB := Lib.hid (hB.next (by rw [ZT.out]; exact hj))
                  clear hal hA hB hAs hBs HV HE2
                  go_wp2_with fail
                  go_quiet (fail)
                  go_wp2
                  go_quiet (fail)
                  go_wp2
                  go_roundw
                  case rel => exact ⟨k + 1, i, (j + 1), _, _, by omega, by go_num, rfl, rfl, HA.out, HB.out, HN.out, by first | exact hb | exact below_drewN hb _⟩
                  case measure => simp [intOf]; omega
                · have gj : decide (j < t.size) = false := decide_eq_false hj
                  have eA : (A.toList == []) = true := by
                    have e : i = s.size := by omega
                    rw [e, ← ZS.out] at hA; exact Left.empty hA
                  have eA2 : ([] == A.toList) = true := by rw [← eA]; exact BEq.comm
                  have eB : (B.toList == []) = true := by
                    have e : j = t.size := by omega
                    rw [e, ← ZT.out] at hB; exact Left.empty hB
                  have eB2 : ([] == B.toList) = true := by rw [← eB]; exact BEq.comm
                  have HF : Hid (v = false) := Lib.hid (by rw [← hal]; rw [gj]; rfl)
                  clear hal hA hB hAs hBs HV HE2
                  go_wp2_with fail
                  go_quiet (fail)
                  go_wp2
                  go_quiet (fail)
                  go_wp2
                  go_ret
                  exact ⟨by rw [HF.out]; rfl, by first | exact hb | exact below_drewN hb _ | exact hb.drew | exact hb.drew.drew⟩
            · skip
              rw [alB_none c61 c120 c45 c43] at hal
              have z61 : ((c.toNat : Int) == 61) = false := by simp; omega
              have z120 : ((c.toNat : Int) == 120) = false := by simp; omega
              have z45 : ((c.toNat : Int) == 45) = false := by simp; omega
              have z43 : ((c.toNat : Int) == 43) = false := by simp; omega
              clear c61 c120 c45 c43
              by_cases hi : i < s.size
              · have gi : decide (i < s.size) = true := decide_eq_true hi
                have hA0 : 0 < A.size := by omega
                have iA1 : (1 : Int) ≤ (A.size : Int) := by omega
                by_cases hj : j < t.size
                · have gj : decide (j < t.size) = true := decide_eq_true hj
                  have hB0 : 0 < B.size := by omega
                  have iB1 : (1 : Int) ≤ (B.size : Int) := by omega
                  have eA : (A.toList == []) = false := hA.full (by rw [ZS.out]; exact hi)
                  have eA2 : ([] == A.toList) = false := by rw [← eA]; exact BEq.comm
                  have eB : (B.toList == []) = false := hB.full (by rw [ZT.out]; exact hj)
                  have eB2 : ([] == B.toList) = false := by rw [← eB]; exact BEq.comm
                  have HF : Hid (v = false) := Lib.hid (by rw [← hal])
                  clear hal hA hB hAs hBs HV HE2
                  go_wp2_with fail
                  go_quiet (fail)
                  go_wp2
                  go_quiet (fail)
                  go_wp2
                  go_ret
                  exact ⟨by rw [HF.out]; rfl, by first | exact hb | exact below_drewN hb _ | exact hb.drew | exact hb.drew.drew⟩
                · have gj : decide (j < t.size) = false := decide_eq_false hj
                  have eA : (A.toList == []) = false := hA.full (by rw [ZS.out]; exact hi)
                  have eA2 : ([] == A.toList) = false := by rw [← eA]; exact BEq.comm
                  have eB : (B.toList == []) = true := by
                    have e : j = t.size := by omega
                    rw [e, ← ZT.out] at hB; exact Left.empty hB
                  have eB2 : ([] == B.toList) = true := by rw [← eB]; exact BEq.comm
                  have HF : Hid (v = false) := Lib.hid (by rw [← hal])
                  clear hal hA hB hAs hBs HV HE2
                  go_wp2_with fail
                  go_quiet (fail)
                  go_wp2
                  go_quiet (fail)
                  go_wp2
                  go_ret
                  exact ⟨by rw [HF.out]; rfl, by first | exact hb | exact below_drewN hb _ | exact hb.drew | exact hb.drew.drew⟩
              · have gi : decide (i < s.size) = false := decide_eq_false hi
                by_cases hj : j < t.size
                · have gj : decide (j < t.size) = true := decide_eq_true hj
                  have hB0 : 0 < B.size := by omega
                  have iB1 : (1 : Int) ≤ (B.size : Int) := by omega
                  have eA : (A.toList == []) = true := by
                    have e : i = s.size := by omega
                    rw [e, ← ZS.out] at hA; exact Left.empty hA
                  have eA2 : ([] == A.toList) = true := by rw [← eA]; exact BEq.comm
                  have eB : (B.toList == []) = false := hB.full (by rw [ZT.out]; exact hj)
                  have eB2 : ([] == B.toList) = false := by rw [← eB]; exact BEq.comm
                  have HF : Hid (v = false) := Lib.hid (by rw [← hal])
                  clear hal hA hB hAs hBs HV HE2
                  go_wp2_with fail
                  go_quiet (fail)
                  go_wp2
                  go_quiet (fail)
                  go_wp2
                  go_ret
                  exact ⟨by rw [HF.out]; rfl, by first | exact hb | exact below_drewN hb _ | exact hb.drew | exact hb.drew.drew⟩
                · have gj : decide (j < t.size) = false := decide_eq_false hj
                  have eA : (A.toList == []) = true := by
                    have e : i = s.size := by omega
                    rw [e, ← ZS.out] at hA; exact Left.empty hA
                  have eA2 : ([] == A.toList) = true := by rw [← eA]; exact BEq.comm
                  have eB : (B.toList == []) = true := by
                    have e : j = t.size := by omega
                    rw [e, ← ZT.out] at hB; exact Left.empty hB
                  have eB2 : ([] == B.toList) = true := by rw [← eB]; exact BEq.comm
                  have HF : Hid (v = false) := Lib.hid (by rw [← hal])
                  clear hal hA hB hAs hBs HV HE2
                  go_wp2_with fail
                  go_quiet (fail)
                  go_wp2
                  go_quiet (fail)
                  go_wp2
                  go_ret
                  exact ⟨by rw [HF.out]; rfl, by first | exact hb | exact below_drewN hb _ | exact hb.drew | exact hb.drew.drew⟩
    · obtain rfl : k = o.size := by omega
      rw [alDrop_end, alB_nil] at hal
      by_cases hi : i < s.size
      · have gi : decide (i < s.size) = true := decide_eq_true hi
        have hA0 : 0 < A.size := by omega
        have iA1 : (1 : Int) ≤ (A.size : Int) := by omega
        by_cases hj : j < t.size
        · have gj : decide (j < t.size) = true := decide_eq_true hj
          have hB0 : 0 < B.size := by omega
          have iB1 : (1 : Int) ≤ (B.size : Int) := by omega
          have eA : (A.toList == []) = false := hA.full (by rw [ZS.out]; exact hi)
          have eA2 : ([] == A.toList) = false := by rw [← eA]; exact BEq.comm
          have eB : (B.toList == []) = false := hB.full (by rw [ZT.out]; exact hj)
          have eB2 : ([] == B.toList) = false := by rw [← eB]; exact BEq.comm
          have HF : Hid (v = false) := Lib.hid (by rw [← hal]; simp; omega)
          clear hal hA hB HV HE2
          go_wp2_with fail
          go_ret
          exact ⟨by rw [HF.out]; rfl, hb⟩
        · have gj : decide (j < t.size) = false := decide_eq_false hj
          have eA : (A.toList == []) = false := hA.full (by rw [ZS.out]; exact hi)
          have eA2 : ([] == A.toList) = false := by rw [← eA]; exact BEq.comm
          have eB : (B.toList == []) = true := by
            have e : j = t.size := by omega
            rw [e, ← ZT.out] at hB; exact Left.empty hB
          have eB2 : ([] == B.toList) = true := by rw [← eB]; exact BEq.comm
          have HF : Hid (v = false) := Lib.hid (by rw [← hal]; simp; omega)
          clear hal hA hB HV HE2
          go_wp2_with fail
          go_ret
          exact ⟨by rw [HF.out]; rfl, hb⟩
      · have gi : decide (i < s.size) = false := decide_eq_false hi
        by_cases hj : j < t.size
        · have gj : decide (j < t.size) = true := decide_eq_true hj
          have hB0 : 0 < B.size := by omega
          have iB1 : (1 : Int) ≤ (B.size : Int) := by omega
          have eA : (A.toList == []) = true := by
            have e : i = s.size := by omega
            rw [e, ← ZS.out] at hA; exact Left.empty hA
          have eA2 : ([] == A.toList) = true := by rw [← eA]; exact BEq.comm
          have eB : (B.toList == []) = false := hB.full (by rw [ZT.out]; exact hj)
          have eB2 : ([] == B.toList) = false := by rw [← eB]; exact BEq.comm
          have HF : Hid (v = false) := Lib.hid (by rw [← hal]; simp; omega)
          clear hal hA hB HV HE2
          go_wp2_with fail
          go_ret
          exact ⟨by rw [HF.out]; rfl, hb⟩
        · have gj : decide (j < t.size) = false := decide_eq_false hj
          have eA : (A.toList == []) = true := by
            have e : i = s.size := by omega
            rw [e, ← ZS.out] at hA; exact Left.empty hA
          have eA2 : ([] == A.toList) = true := by rw [← eA]; exact BEq.comm
          have eB : (B.toList == []) = true := by
            have e : j = t.size := by omega
            rw [e, ← ZT.out] at hB; exact Left.empty hB
          have eB2 : ([] == B.toList) = true := by rw [← eB]; exact BEq.comm
          have HF : Hid (v = true) := Lib.hid (by rw [← hal]; simp; omega)
          clear hal hA hB HV HE2
          go_wp2_with fail
          go_ret
          exact ⟨by rw [HF.out]; rfl, hb⟩
theorem impl_alignOk (s t : ByteArray) (f : Bool) (o : ByteArray) (w : World) (hs : s.size ≤ 1048576) (ht : t.size ≤ 1048576) (ho : o.size ≤ 1048576) :
    Calls Try.prog 16 #[.string s, .string t, .bool f, .string o] w fun e w' => e = .returned (.bool (alOkS s t f o)) ∧ Below w.heap.size w w' := by
  by_cases h1 : s.size ≤ 200
  · by_cases h2 : t.size ≤ 200
    · cases f
      · exact impl_alignOk_false s t o w h1 h2 ho
      · exact impl_alignOk_true s t o w h1 h2 ho
    · have HF := Lib.hid (alOk_no (s := s) (t := t) (f := f) (o := o) (fun h => h2 h.2))
      have d3 : ¬ (200 : Int) < (s.size : Int) := by omega
      have d4 : (200 : Int) < (t.size : Int) := by omega
      go_enter Try.func16, Try.ntmps16
      go_wp2_with fail
      go_ret
      exact ⟨by rw [HF.out]; rfl, Below.refl _ _⟩
  · have HF := Lib.hid (alOk_no (s := s) (t := t) (f := f) (o := o) (fun h => h1 h.1))
    have d3 : (200 : Int) < (s.size : Int) := by omega
    go_enter Try.func16, Try.ntmps16
    go_wp2_with fail
    go_ret
    exact ⟨by rw [HF.out]; rfl, Below.refl _ _⟩
end Go.Proofs.Ytelhgpoppgpniaa

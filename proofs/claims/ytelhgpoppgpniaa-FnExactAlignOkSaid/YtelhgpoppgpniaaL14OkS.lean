/-
  Chapter 14: AlignOk, in its model; FnExactAlignOk, the walk (by wip/tools/mk_alignok.py).
-/
import Derived.Test.YtelhgpoppgpniaaL14OkI
import Derived.Test.YtelhgpoppgpniaaL1Alike
namespace Go.Proofs.Ytelhgpoppgpniaa
open Go.RowKit
set_option linter.unusedVariables false
set_option maxRecDepth 100000
theorem spec_l14Ok (s t : ByteArray) (w : World) (hs : s.size ≤ 1048576) (ht : t.size ≤ 1048576) (b : Bool) (hb : b = (decide (s.size ≤ 200) && decide (t.size ≤ 200))) :
    Calls Try.prog 45 #[.string s, .string t] w fun e w' => e = .returned (.bool b) ∧ w = w' := by
  by_cases h1 : s.size ≤ 200
  · by_cases h2 : t.size ≤ 200
    · skip
      have g1 : decide ((s.size : Int) ≤ 200) = true := by simp; omega
      have g2 : decide ((t.size : Int) ≤ 200) = true := by simp; omega
      have HF : Hid (b = true) := Lib.hid (by rw [hb, decide_eq_true h1, decide_eq_true h2]; rfl)
      clear hb
      go_enter Try.func45, Try.ntmps45
      go_wp2
      go_ret
      exact ⟨by rw [HF.out]; rfl, rfl⟩
    · skip
      have g1 : decide ((s.size : Int) ≤ 200) = true := by simp; omega
      have g2 : decide ((t.size : Int) ≤ 200) = false := by simp; omega
      have HF : Hid (b = false) := Lib.hid (by rw [hb, decide_eq_true h1, decide_eq_false h2]; rfl)
      clear hb
      go_enter Try.func45, Try.ntmps45
      go_wp2
      go_ret
      exact ⟨by rw [HF.out]; rfl, rfl⟩
  · skip
    have g1 : decide ((s.size : Int) ≤ 200) = false := by simp; omega
    have HF : Hid (b = false) := Lib.hid (by rw [hb, decide_eq_false h1]; rfl)
    clear hb
    go_enter Try.func45, Try.ntmps45
    go_wp2
    go_ret
    exact ⟨by rw [HF.out]; rfl, rfl⟩
set_option maxHeartbeats 4000000 in
theorem spec_alignOk (s t : ByteArray) (f : Bool) (o : ByteArray) (w : World) (hs : s.size ≤ 1048576) (ht : t.size ≤ 1048576) (ho : o.size ≤ 1048576) :
    Calls Try.prog 15 #[.string s, .string t, .bool f, .string o] w fun e w' => e = .returned (.bool (alOkS s t f o)) ∧ Below w.heap.size w w' := by
  by_cases hz : s.size ≤ 200 ∧ t.size ≤ 200
  · obtain ⟨h1, h2⟩ := hz
    rw [alOk_yes h1 h2]
    obtain ⟨v, hv⟩ : ∃ v, alB (alE s t f) s.size t.size o.data.toList 0 0 = v := ⟨_, rfl⟩
    rw [hv]
    have HV := Lib.hid hv; clear hv
    have HO : Hid (true = (decide (s.size ≤ 200) && decide (t.size ≤ 200))) := Lib.hid (by rw [decide_eq_true h1, decide_eq_true h2]; rfl)
    go_enter Try.func15, Try.ntmps15
    go_wp2_with (go_at_call 45; refine (spec_l14Ok _ _ _ (by omega) (by omega) true HO.out).mono ?_; rintro e w1 ⟨rfl, rfl⟩)
    go_loopw [9, 10, 11] (fun a b x wr => ∃ (k i j : Nat), k ≤ o.size ∧ x = .int .i64 k ∧ a = .int .i64 i ∧ b = .int .i64 j ∧ i ≤ s.size ∧ j ≤ t.size ∧ alB (alE s t f) s.size t.size (o.data.toList.drop k) i j = v ∧ Below w.heap.size w wr)
      (fun _ _ x _ => o.size - (intOf x).toNat)
    case atStart => exact ⟨0, 0, 0, by omega, rfl, rfl, rfl, by omega, by omega, HV.out, Below.refl _ _⟩
    case round =>
      obtain ⟨k, i, j, hk, rfl, rfl, rfl, hi0, hj0, hal, hb⟩ := hrel
      by_cases hlt : k < o.size
      · rw [alDrop_at o k hlt] at hal
        obtain ⟨c, hc⟩ : ∃ c : UInt8, o[k] = c := ⟨_, rfl⟩
        rw [hc] at hal
        by_cases c61 : c.toNat = 61
        · rw [alB_eq c61] at hal
          have z61 : ((c.toNat : Int) == 61) = true := by simp; omega
          have y61 : ((c.toNat : Int) != 61) = false := by simp; omega
          have z120 : ((c.toNat : Int) == 120) = false := by simp; omega
          have y120 : ((c.toNat : Int) != 120) = true := by simp; omega
          have z45 : ((c.toNat : Int) == 45) = false := by simp; omega
          have y45 : ((c.toNat : Int) != 45) = true := by simp; omega
          have z43 : ((c.toNat : Int) == 43) = false := by simp; omega
          have y43 : ((c.toNat : Int) != 43) = true := by simp; omega
          clear c61
          by_cases hi : i < s.size
          · by_cases hj : j < t.size
            · have gi : decide (i < s.size) = true := decide_eq_true hi
              have gj : decide (j < t.size) = true := decide_eq_true hj
              have ei : ((i : Int) == (s.size : Int)) = false := by simp; omega
              have ej : ((j : Int) == (t.size : Int)) = false := by simp; omega
              have ha := s[i].toNat_lt; have hb2 := t[j].toNat_lt
              have hE : alE s t f i j = eqI s[i].toNat t[j].toNat f := by unfold alE; rw [byteAt_eq s i hi, byteAt_eq t j hj]
              cases he : eqI s[i].toNat t[j].toNat f
              · rw [he] at hE
                have HF : Hid (v = false) := Lib.hid (by rw [← hal]; rw [gi, gj, hE]; rfl)
                clear hal HV
                go_wp2_with fail
                go_quiet ((go_at_call 47; exact quiet_of_eq (spec_l1Eq _ _ _ _ (by omega) (by omega) (by omega) (by omega))))
                go_wp2
                go_ret
                exact ⟨by rw [HF.out]; rfl, by first | exact hb | exact below_drewN hb _⟩
              · rw [he] at hE
                have HN : Hid (alB (alE s t f) s.size t.size (o.data.toList.drop (k + 1)) (i + 1) (j + 1) = v) := Lib.hid (by rw [← hal]; rw [gi, gj, hE]; rfl)
                clear hal HV
                go_wp2_with fail
                go_quiet ((go_at_call 47; exact quiet_of_eq (spec_l1Eq _ _ _ _ (by omega) (by omega) (by omega) (by omega))))
                go_wp2
                go_roundw
                case rel => exact ⟨k + 1, (i + 1), (j + 1), by omega, by go_num, by go_num, by go_num, by omega, by omega, HN.out, by first | exact hb | exact below_drewN hb _⟩
                case measure => simp [intOf]; omega
            · have gi : decide (i < s.size) = true := decide_eq_true hi
              have gj : decide (j < t.size) = false := decide_eq_false hj
              have ei : ((i : Int) == (s.size : Int)) = false := by simp; omega
              have ej : ((j : Int) == (t.size : Int)) = true := by simp; omega
              have HF : Hid (v = false) := Lib.hid (by rw [← hal]; rw [gi, gj]; rfl)
              clear hal HV
              go_wp2_with fail
              go_ret
              exact ⟨by rw [HF.out]; rfl, by first | exact hb | exact below_drewN hb _⟩
          · by_cases hj : j < t.size
            · have gi : decide (i < s.size) = false := decide_eq_false hi
              have gj : decide (j < t.size) = true := decide_eq_true hj
              have ei : ((i : Int) == (s.size : Int)) = true := by simp; omega
              have ej : ((j : Int) == (t.size : Int)) = false := by simp; omega
              have HF : Hid (v = false) := Lib.hid (by rw [← hal]; rw [gi]; rfl)
              clear hal HV
              go_wp2_with fail
              go_ret
              exact ⟨by rw [HF.out]; rfl, by first | exact hb | exact below_drewN hb _⟩
            · have gi : decide (i < s.size) = false := decide_eq_false hi
              have gj : decide (j < t.size) = false := decide_eq_false hj
              have ei : ((i : Int) == (s.size : Int)) = true := by simp; omega
              have ej : ((j : Int) == (t.size : Int)) = true := by simp; omega
              have HF : Hid (v = false) := Lib.hid (by rw [← hal]; rw [gi]; rfl)
              clear hal HV
              go_wp2_with fail
              go_ret
              exact ⟨by rw [HF.out]; rfl, by first | exact hb | exact below_drewN hb _⟩
        · skip
          by_cases c120 : c.toNat = 120
          · rw [alB_x c120] at hal
            have z61 : ((c.toNat : Int) == 61) = false := by simp; omega
            have y61 : ((c.toNat : Int) != 61) = true := by simp; omega
            have z120 : ((c.toNat : Int) == 120) = true := by simp; omega
            have y120 : ((c.toNat : Int) != 120) = false := by simp; omega
            have z45 : ((c.toNat : Int) == 45) = false := by simp; omega
            have y45 : ((c.toNat : Int) != 45) = true := by simp; omega
            have z43 : ((c.toNat : Int) == 43) = false := by simp; omega
            have y43 : ((c.toNat : Int) != 43) = true := by simp; omega
            clear c61 c120
            by_cases hi : i < s.size
            · by_cases hj : j < t.size
              · have gi : decide (i < s.size) = true := decide_eq_true hi
                have gj : decide (j < t.size) = true := decide_eq_true hj
                have ei : ((i : Int) == (s.size : Int)) = false := by simp; omega
                have ej : ((j : Int) == (t.size : Int)) = false := by simp; omega
                have ha := s[i].toNat_lt; have hb2 := t[j].toNat_lt
                have hE : alE s t f i j = eqI s[i].toNat t[j].toNat f := by unfold alE; rw [byteAt_eq s i hi, byteAt_eq t j hj]
                cases he : eqI s[i].toNat t[j].toNat f
                · rw [he] at hE
                  have HN : Hid (alB (alE s t f) s.size t.size (o.data.toList.drop (k + 1)) (i + 1) (j + 1) = v) := Lib.hid (by rw [← hal]; rw [gi, gj, hE]; rfl)
                  clear hal HV
                  go_wp2_with fail
                  go_quiet ((go_at_call 47; exact quiet_of_eq (spec_l1Eq _ _ _ _ (by omega) (by omega) (by omega) (by omega))))
                  go_wp2
                  go_roundw
                  case rel => exact ⟨k + 1, (i + 1), (j + 1), by omega, by go_num, by go_num, by go_num, by omega, by omega, HN.out, by first | exact hb | exact below_drewN hb _⟩
                  case measure => simp [intOf]; omega
                · rw [he] at hE
                  have HF : Hid (v = false) := Lib.hid (by rw [← hal]; rw [gi, gj, hE]; rfl)
                  clear hal HV
                  go_wp2_with fail
                  go_quiet ((go_at_call 47; exact quiet_of_eq (spec_l1Eq _ _ _ _ (by omega) (by omega) (by omega) (by omega))))
                  go_wp2
                  go_ret
                  exact ⟨by rw [HF.out]; rfl, by first | exact hb | exact below_drewN hb _⟩
              · have gi : decide (i < s.size) = true := decide_eq_true hi
                have gj : decide (j < t.size) = false := decide_eq_false hj
                have ei : ((i : Int) == (s.size : Int)) = false := by simp; omega
                have ej : ((j : Int) == (t.size : Int)) = true := by simp; omega
                have HF : Hid (v = false) := Lib.hid (by rw [← hal]; rw [gi, gj]; rfl)
                clear hal HV
                go_wp2_with fail
                go_ret
                exact ⟨by rw [HF.out]; rfl, by first | exact hb | exact below_drewN hb _⟩
            · by_cases hj : j < t.size
              · have gi : decide (i < s.size) = false := decide_eq_false hi
                have gj : decide (j < t.size) = true := decide_eq_true hj
                have ei : ((i : Int) == (s.size : Int)) = true := by simp; omega
                have ej : ((j : Int) == (t.size : Int)) = false := by simp; omega
                have HF : Hid (v = false) := Lib.hid (by rw [← hal]; rw [gi]; rfl)
                clear hal HV
                go_wp2_with fail
                go_ret
                exact ⟨by rw [HF.out]; rfl, by first | exact hb | exact below_drewN hb _⟩
              · have gi : decide (i < s.size) = false := decide_eq_false hi
                have gj : decide (j < t.size) = false := decide_eq_false hj
                have ei : ((i : Int) == (s.size : Int)) = true := by simp; omega
                have ej : ((j : Int) == (t.size : Int)) = true := by simp; omega
                have HF : Hid (v = false) := Lib.hid (by rw [← hal]; rw [gi]; rfl)
                clear hal HV
                go_wp2_with fail
                go_ret
                exact ⟨by rw [HF.out]; rfl, by first | exact hb | exact below_drewN hb _⟩
          · skip
            by_cases c45 : c.toNat = 45
            · rw [alB_drop c45] at hal
              have z61 : ((c.toNat : Int) == 61) = false := by simp; omega
              have y61 : ((c.toNat : Int) != 61) = true := by simp; omega
              have z120 : ((c.toNat : Int) == 120) = false := by simp; omega
              have y120 : ((c.toNat : Int) != 120) = true := by simp; omega
              have z45 : ((c.toNat : Int) == 45) = true := by simp; omega
              have y45 : ((c.toNat : Int) != 45) = false := by simp; omega
              have z43 : ((c.toNat : Int) == 43) = false := by simp; omega
              have y43 : ((c.toNat : Int) != 43) = true := by simp; omega
              clear c61 c120 c45
              by_cases hi : i < s.size
              · by_cases hj : j < t.size
                · have gi : decide (i < s.size) = true := decide_eq_true hi
                  have gj : decide (j < t.size) = true := decide_eq_true hj
                  have ei : ((i : Int) == (s.size : Int)) = false := by simp; omega
                  have ej : ((j : Int) == (t.size : Int)) = false := by simp; omega
                  have HN : Hid (alB (alE s t f) s.size t.size (o.data.toList.drop (k + 1)) (i + 1) j = v) := Lib.hid (by rw [← hal]; rw [gi]; rfl)
                  clear hal HV
                  go_wp2_with fail
                  go_quiet (fail)
                  go_wp2
                  go_roundw
                  case rel => exact ⟨k + 1, (i + 1), j, by omega, by go_num, by go_num, by go_num, by omega, by omega, HN.out, by first | exact hb | exact below_drewN hb _⟩
                  case measure => simp [intOf]; omega
                · have gi : decide (i < s.size) = true := decide_eq_true hi
                  have gj : decide (j < t.size) = false := decide_eq_false hj
                  have ei : ((i : Int) == (s.size : Int)) = false := by simp; omega
                  have ej : ((j : Int) == (t.size : Int)) = true := by simp; omega
                  have HN : Hid (alB (alE s t f) s.size t.size (o.data.toList.drop (k + 1)) (i + 1) j = v) := Lib.hid (by rw [← hal]; rw [gi]; rfl)
                  clear hal HV
                  go_wp2_with fail
                  go_quiet (fail)
                  go_wp2
                  go_roundw
                  case rel => exact ⟨k + 1, (i + 1), j, by omega, by go_num, by go_num, by go_num, by omega, by omega, HN.out, by first | exact hb | exact below_drewN hb _⟩
                  case measure => simp [intOf]; omega
              · by_cases hj : j < t.size
                · have gi : decide (i < s.size) = false := decide_eq_false hi
                  have gj : decide (j < t.size) = true := decide_eq_true hj
                  have ei : ((i : Int) == (s.size : Int)) = true := by simp; omega
                  have ej : ((j : Int) == (t.size : Int)) = false := by simp; omega
                  have HF : Hid (v = false) := Lib.hid (by rw [← hal]; rw [gi]; rfl)
                  clear hal HV
                  go_wp2_with fail
                  go_ret
                  exact ⟨by rw [HF.out]; rfl, by first | exact hb | exact below_drewN hb _⟩
                · have gi : decide (i < s.size) = false := decide_eq_false hi
                  have gj : decide (j < t.size) = false := decide_eq_false hj
                  have ei : ((i : Int) == (s.size : Int)) = true := by simp; omega
                  have ej : ((j : Int) == (t.size : Int)) = true := by simp; omega
                  have HF : Hid (v = false) := Lib.hid (by rw [← hal]; rw [gi]; rfl)
                  clear hal HV
                  go_wp2_with fail
                  go_ret
                  exact ⟨by rw [HF.out]; rfl, by first | exact hb | exact below_drewN hb _⟩
            · skip
              by_cases c43 : c.toNat = 43
              · rw [alB_put c43] at hal
                have z61 : ((c.toNat : Int) == 61) = false := by simp; omega
                have y61 : ((c.toNat : Int) != 61) = true := by simp; omega
                have z120 : ((c.toNat : Int) == 120) = false := by simp; omega
                have y120 : ((c.toNat : Int) != 120) = true := by simp; omega
                have z45 : ((c.toNat : Int) == 45) = false := by simp; omega
                have y45 : ((c.toNat : Int) != 45) = true := by simp; omega
                have z43 : ((c.toNat : Int) == 43) = true := by simp; omega
                have y43 : ((c.toNat : Int) != 43) = false := by simp; omega
                clear c61 c120 c45 c43
                by_cases hi : i < s.size
                · by_cases hj : j < t.size
                  · have gi : decide (i < s.size) = true := decide_eq_true hi
                    have gj : decide (j < t.size) = true := decide_eq_true hj
                    have ei : ((i : Int) == (s.size : Int)) = false := by simp; omega
                    have ej : ((j : Int) == (t.size : Int)) = false := by simp; omega
                    have HN : Hid (alB (alE s t f) s.size t.size (o.data.toList.drop (k + 1)) i (j + 1) = v) := Lib.hid (by rw [← hal]; rw [gj]; rfl)
                    clear hal HV
                    go_wp2_with fail
                    go_quiet (fail)
                    go_wp2
                    go_roundw
                    case rel => exact ⟨k + 1, i, (j + 1), by omega, by go_num, by go_num, by go_num, by omega, by omega, HN.out, by first | exact hb | exact below_drewN hb _⟩
                    case measure => simp [intOf]; omega
                  · have gi : decide (i < s.size) = true := decide_eq_true hi
                    have gj : decide (j < t.size) = false := decide_eq_false hj
                    have ei : ((i : Int) == (s.size : Int)) = false := by simp; omega
                    have ej : ((j : Int) == (t.size : Int)) = true := by simp; omega
                    have HF : Hid (v = false) := Lib.hid (by rw [← hal]; rw [gj]; rfl)
                    clear hal HV
                    go_wp2_with fail
                    go_ret
                    exact ⟨by rw [HF.out]; rfl, by first | exact hb | exact below_drewN hb _⟩
                · by_cases hj : j < t.size
                  · have gi : decide (i < s.size) = false := decide_eq_false hi
                    have gj : decide (j < t.size) = true := decide_eq_true hj
                    have ei : ((i : Int) == (s.size : Int)) = true := by simp; omega
                    have ej : ((j : Int) == (t.size : Int)) = false := by simp; omega
                    have HN : Hid (alB (alE s t f) s.size t.size (o.data.toList.drop (k + 1)) i (j + 1) = v) := Lib.hid (by rw [← hal]; rw [gj]; rfl)
                    clear hal HV
                    go_wp2_with fail
                    go_quiet (fail)
                    go_wp2
                    go_roundw
                    case rel => exact ⟨k + 1, i, (j + 1), by omega, by go_num, by go_num, by go_num, by omega, by omega, HN.out, by first | exact hb | exact below_drewN hb _⟩
                    case measure => simp [intOf]; omega
                  · have gi : decide (i < s.size) = false := decide_eq_false hi
                    have gj : decide (j < t.size) = false := decide_eq_false hj
                    have ei : ((i : Int) == (s.size : Int)) = true := by simp; omega
                    have ej : ((j : Int) == (t.size : Int)) = true := by simp; omega
                    have HF : Hid (v = false) := Lib.hid (by rw [← hal]; rw [gj]; rfl)
                    clear hal HV
                    go_wp2_with fail
                    go_ret
                    exact ⟨by rw [HF.out]; rfl, by first | exact hb | exact below_drewN hb _⟩
              · skip
                rw [alB_none c61 c120 c45 c43] at hal
                have z61 : ((c.toNat : Int) == 61) = false := by simp; omega
                have y61 : ((c.toNat : Int) != 61) = true := by simp; omega
                have z120 : ((c.toNat : Int) == 120) = false := by simp; omega
                have y120 : ((c.toNat : Int) != 120) = true := by simp; omega
                have z45 : ((c.toNat : Int) == 45) = false := by simp; omega
                have y45 : ((c.toNat : Int) != 45) = true := by simp; omega
                have z43 : ((c.toNat : Int) == 43) = false := by simp; omega
                have y43 : ((c.toNat : Int) != 43) = true := by simp; omega
                clear c61 c120 c45 c43
                by_cases hi : i < s.size
                · by_cases hj : j < t.size
                  · have gi : decide (i < s.size) = true := decide_eq_true hi
                    have gj : decide (j < t.size) = true := decide_eq_true hj
                    have ei : ((i : Int) == (s.size : Int)) = false := by simp; omega
                    have ej : ((j : Int) == (t.size : Int)) = false := by simp; omega
                    have HF : Hid (v = false) := Lib.hid (by rw [← hal])
                    clear hal HV
                    go_wp2_with fail
                    go_ret
                    exact ⟨by rw [HF.out]; rfl, by first | exact hb | exact below_drewN hb _⟩
                  · have gi : decide (i < s.size) = true := decide_eq_true hi
                    have gj : decide (j < t.size) = false := decide_eq_false hj
                    have ei : ((i : Int) == (s.size : Int)) = false := by simp; omega
                    have ej : ((j : Int) == (t.size : Int)) = true := by simp; omega
                    have HF : Hid (v = false) := Lib.hid (by rw [← hal])
                    clear hal HV
                    go_wp2_with fail
                    go_ret
                    exact ⟨by rw [HF.out]; rfl, by first | exact hb | exact below_drewN hb _⟩
                · by_cases hj : j < t.size
                  · have gi : decide (i < s.size) = false := decide_eq_false hi
                    have gj : decide (j < t.size) = true := decide_eq_true hj
                    have ei : ((i : Int) == (s.size : Int)) = true := by simp; omega
                    have ej : ((j : Int) == (t.size : Int)) = false := by simp; omega
                    have HF : Hid (v = false) := Lib.hid (by rw [← hal])
                    clear hal HV
                    go_wp2_with fail
                    go_ret
                    exact ⟨by rw [HF.out]; rfl, by first | exact hb | exact below_drewN hb _⟩
                  · have gi : decide (i < s.size) = false := decide_eq_false hi
                    have gj : decide (j < t.size) = false := decide_eq_false hj
                    have ei : ((i : Int) == (s.size : Int)) = true := by simp; omega
                    have ej : ((j : Int) == (t.size : Int)) = true := by simp; omega
                    have HF : Hid (v = false) := Lib.hid (by rw [← hal])
                    clear hal HV
                    go_wp2_with fail
                    go_ret
                    exact ⟨by rw [HF.out]; rfl, by first | exact hb | exact below_drewN hb _⟩
      · obtain rfl : k = o.size := by omega
        rw [alDrop_end, alB_nil] at hal
        by_cases hi : i < s.size
        · by_cases hj : j < t.size
          · have gi : decide (i < s.size) = true := decide_eq_true hi
            have gj : decide (j < t.size) = true := decide_eq_true hj
            have ei : ((i : Int) == (s.size : Int)) = false := by simp; omega
            have ej : ((j : Int) == (t.size : Int)) = false := by simp; omega
            have HF : Hid (v = false) := Lib.hid (by rw [← hal]; simp; omega)
            clear hal HV
            go_wp2_with fail
            go_ret
            exact ⟨by rw [HF.out]; rfl, hb⟩
          · have gi : decide (i < s.size) = true := decide_eq_true hi
            have gj : decide (j < t.size) = false := decide_eq_false hj
            have ei : ((i : Int) == (s.size : Int)) = false := by simp; omega
            have ej : ((j : Int) == (t.size : Int)) = true := by simp; omega
            have HF : Hid (v = false) := Lib.hid (by rw [← hal]; simp; omega)
            clear hal HV
            go_wp2_with fail
            go_ret
            exact ⟨by rw [HF.out]; rfl, hb⟩
        · by_cases hj : j < t.size
          · have gi : decide (i < s.size) = false := decide_eq_false hi
            have gj : decide (j < t.size) = true := decide_eq_true hj
            have ei : ((i : Int) == (s.size : Int)) = true := by simp; omega
            have ej : ((j : Int) == (t.size : Int)) = false := by simp; omega
            have HF : Hid (v = false) := Lib.hid (by rw [← hal]; simp; omega)
            clear hal HV
            go_wp2_with fail
            go_ret
            exact ⟨by rw [HF.out]; rfl, hb⟩
          · have gi : decide (i < s.size) = false := decide_eq_false hi
            have gj : decide (j < t.size) = false := decide_eq_false hj
            have ei : ((i : Int) == (s.size : Int)) = true := by simp; omega
            have ej : ((j : Int) == (t.size : Int)) = true := by simp; omega
            have HF : Hid (v = true) := Lib.hid (by rw [← hal]; simp; omega)
            clear hal HV
            go_wp2_with fail
            go_ret
            exact ⟨by rw [HF.out]; rfl, hb⟩
  · have HF := Lib.hid (alOk_no (s := s) (t := t) (f := f) (o := o) hz)
    have HO : Hid (false = (decide (s.size ≤ 200) && decide (t.size ≤ 200))) := Lib.hid (by
      by_cases h1 : s.size ≤ 200
      · rw [decide_eq_false (fun h2 => hz ⟨h1, h2⟩), Bool.and_false]
      · rw [decide_eq_false h1, Bool.false_and])
    clear hz
    go_enter Try.func15, Try.ntmps15
    go_wp2_with (go_at_call 45; refine (spec_l14Ok _ _ _ (by omega) (by omega) false HO.out).mono ?_; rintro e w1 ⟨rfl, rfl⟩)
    go_ret
    exact ⟨by rw [HF.out]; rfl, Below.refl _ _⟩
theorem law_FnExactAlignOk (s : ByteArray) (hs : s.size ≤ maxLen) (t : ByteArray) (ht : t.size ≤ maxLen) (f : Bool) (o : ByteArray) (ho : o.size ≤ maxLen) (w : World) :
    Calls Try.prog 4 #[.string s, .string t, .bool f, .string o] w fun e w' => e = .returned (.bool true) ∧ Below w.heap.size w w' := by
  unfold maxLen at hs ht ho
  by_cases h1 : s.size ≤ 1048576
  · by_cases h2 : t.size ≤ 1048576
    · by_cases h3 : o.size ≤ 1048576
      · obtain ⟨v, hv⟩ : ∃ v, alOkS s t f o = v := ⟨_, rfl⟩
        have HV := Lib.hid hv; clear hv
        have e0 : (v == v) = true := by simp
        have e1 : (v != v) = false := by simp
        go_enter Try.func4, Try.ntmps4
        go_wp2_with fail
        refine (spec_alignOk _ _ _ _ _ (by omega) (by omega) (by omega)).mono ?_
        rintro e w1 ⟨rfl, hb1⟩
        rw [HV.out]
        go_wp2_with fail
        refine (impl_alignOk _ _ _ _ _ (by omega) (by omega) (by omega)).mono ?_
        rintro e w2 ⟨rfl, hb2⟩
        rw [HV.out]
        have hB := below_step hb1 hb2
        clear hb1 hb2
        go_wp2
        go_ret
        exact ⟨rfl, hB⟩
      · go_enter Try.func4, Try.ntmps4
        go_wp2
        go_ret
        exact ⟨rfl, Below.refl _ _⟩
    · go_enter Try.func4, Try.ntmps4
      go_wp2
      go_ret
      exact ⟨rfl, Below.refl _ _⟩
  · go_enter Try.func4, Try.ntmps4
    go_wp2
    go_ret
    exact ⟨rfl, Below.refl _ _⟩
end Go.Proofs.Ytelhgpoppgpniaa

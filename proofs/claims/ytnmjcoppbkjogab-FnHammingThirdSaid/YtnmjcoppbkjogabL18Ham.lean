/-
  Chapter 18: Hamming, in the program and in its model.
-/
import Derived.Test.YtnmjcoppbkjogabL18P
import Derived.Test.YtnmjcoppbkjogabL1Alike
namespace Go.Proofs.Ytnmjcoppbkjogab
open Go.RowKit
set_option linter.unusedVariables false
set_option maxRecDepth 100000
def fB (f : Bool) (b : UInt8) : UInt8 := if f then foldB b else b
theorem fl_take (f : Bool) (s : ByteArray) (k : Nat) (h : k < s.size) : (fl f s).take (k + 1) = (fl f s).take k ++ [fB f (byteAt s k)] := by
  cases f
  · exact bl_take s k h
  · show (foldL (bl s)).take (k + 1) = (foldL (bl s)).take k ++ [foldB (byteAt s k)]
    unfold foldL
    rw [← List.map_take, ← List.map_take, bl_take s k h, List.map_append]; rfl
theorem fB_eqI (x y : UInt8) (f : Bool) : eqI x.toNat y.toNat f = decide (fB f x = fB f y) := by
  rw [eqI_foldB]; cases f <;> simp [fB] <;> rfl
/-- how many of the first k bytes are unlike -/
def hamT (s r : ByteArray) (f : Bool) (k : Nat) : Nat := hamL ((fl f s).take k) ((fl f r).take k)
theorem hamT_zero (s r : ByteArray) (f : Bool) : hamT s r f 0 = 0 := by simp [hamT, hamL]
theorem hamT_succ (s r : ByteArray) (f : Bool) (k : Nat) (h : k < s.size) (h2 : k < r.size) : hamT s r f (k + 1) = hamT s r f k + df (fB f (byteAt s k)) (fB f (byteAt r k)) := by
  unfold hamT
  rw [fl_take f s k h, fl_take f r k h2, hamL_snoc _ _ _ _ (by rw [List.length_take, List.length_take, fl_len, fl_len]; omega)]
theorem hamT_le (s r : ByteArray) (f : Bool) (k : Nat) : hamT s r f k ≤ k := by
  unfold hamT
  have := hamL_le ((fl f s).take k) ((fl f r).take k)
  rw [List.length_take] at this; omega
theorem hamT_foldIf (s r : ByteArray) (f : Bool) (k : Nat) : hamT (foldIf f s) (foldIf f r) false k = hamT s r f k := by
  unfold hamT
  rw [← bl_foldIf f s, ← bl_foldIf f r]; rfl
def hamI (s r : ByteArray) (f : Bool) : Int := if s.size = r.size ∧ s.size ≤ 200 then (hamT s r f s.size : Nat) else -1
theorem hamI_yes {s r : ByteArray} {f : Bool} (h : s.size = r.size) (h2 : s.size ≤ 200) : hamI s r f = (hamT s r f s.size : Nat) := if_pos ⟨h, h2⟩
theorem hamI_no {s r : ByteArray} {f : Bool} (h : ¬ (s.size = r.size ∧ s.size ≤ 200)) : hamI s r f = -1 := if_neg h
theorem hamI_all {s r : ByteArray} {f : Bool} (h : s.size = r.size) (h2 : s.size ≤ 200) : hamI s r f = (hamL (fl f s) (fl f r) : Nat) := by
  rw [hamI_yes h h2, hamT, List.take_of_length_le (by rw [fl_len]; exact Nat.le_refl _), List.take_of_length_le (by rw [fl_len]; omega)]
set_option maxHeartbeats 1000000 in
theorem spec_hamming (s r : ByteArray) (f : Bool) (w : World) (hs : s.size ≤ 1048576) (hr : r.size ≤ 1048576) :
    Calls Try.prog 38 #[.string s, .string r, .bool f] w fun e w' => e = .returned (.int .i64 (hamI s r f)) ∧ Below w.heap.size w w' := by
  by_cases h1 : s.size = r.size
  · have hl2 : ((s.size : Int) != (r.size : Int)) = false := by simp [h1]
    by_cases h2 : s.size ≤ 200
    · have hd : decide ((200 : Int) < (s.size : Int)) = false := by simp; omega
      have HH := Lib.hid (hamI_yes (f := f) h1 h2)
      have HL := Lib.hid h1
      clear h1
      go_enter Try.func38, Try.ntmps38
      go_wp2
      go_loopw [7, 8] (fun c i wr => ∃ k : Nat, k ≤ s.size ∧ i = .int .i64 k ∧ c = .int .i64 (hamT s r f k : Nat) ∧ Below w.heap.size w wr)
        (fun _ i _ => s.size - (intOf i).toNat)
      case atStart => exact ⟨0, by omega, rfl, by rw [hamT_zero]; rfl, Below.refl _ _⟩
      case round =>
        obtain ⟨k, hk, rfl, rfl, hb⟩ := hrel
        by_cases hlt : k < s.size
        · have hlb : k < r.size := by have := HL.out; omega
          have hca := s[k].toNat_lt
          have hcb := r[k].toNat_lt
          have hst := hamT_succ s r f k hlt hlb
          rw [byteAt_eq s k hlt, byteAt_eq r k hlb] at hst
          have hle := hamT_le s r f k
          cases he : eqI s[k].toNat r[k].toNat f
          · have HS := Lib.hid (show hamT s r f (k + 1) = hamT s r f k + 1 by
              rw [hst, df_ne]; rw [fB_eqI] at he; exact of_decide_eq_false he)
            clear hst
            generalize hamT s r f k = m at *
            go_wp2_with fail
            go_quiet ((go_at_call 73; exact quiet_of_eq (spec_l1Eq _ _ _ _ (by omega) (by omega) (by omega) (by omega))))
            go_wp2
            go_roundw
            case rel => exact ⟨k + 1, by omega, by go_num, by rw [HS.out]; go_num, below_drewN hb _⟩
            case measure => simp [intOf]; omega
          · have HS := Lib.hid (show hamT s r f (k + 1) = hamT s r f k by
              rw [fB_eqI] at he; rw [hst, of_decide_eq_true he, df_self]; rfl)
            clear hst
            generalize hamT s r f k = m at *
            go_wp2_with fail
            go_quiet ((go_at_call 73; exact quiet_of_eq (spec_l1Eq _ _ _ _ (by omega) (by omega) (by omega) (by omega))))
            go_wp2
            go_roundw
            case rel => exact ⟨k + 1, by omega, by go_num, by rw [HS.out], below_drewN hb _⟩
            case measure => simp [intOf]; omega
        · obtain rfl : k = s.size := by omega
          go_wp2
          go_ret
          exact ⟨by rw [HH.out]; rfl, hb⟩
    · have hd : decide ((200 : Int) < (s.size : Int)) = true := by simp; omega
      have HH := Lib.hid (hamI_no (s := s) (r := r) (f := f) (fun h => h2 h.2))
      clear h1
      go_enter Try.func38, Try.ntmps38
      go_wp2
      go_ret
      exact ⟨by rw [HH.out]; rfl, Below.refl _ _⟩
  · have hl2 : ((s.size : Int) != (r.size : Int)) = true := by simp; omega
    have HH := Lib.hid (hamI_no (s := s) (r := r) (f := f) (fun h => h1 h.1))
    clear h1
    go_enter Try.func38, Try.ntmps38
    go_wp2
    go_ret
    exact ⟨by rw [HH.out]; rfl, Below.refl _ _⟩
set_option maxHeartbeats 1000000 in
theorem impl_hamming (s r : ByteArray) (f : Bool) (w : World) (hs : s.size ≤ 1048576) (hr : r.size ≤ 1048576) :
    Calls Try.prog 37 #[.string s, .string r, .bool f] w fun e w' => e = .returned (.int .i64 (hamI s r f)) ∧ Below w.heap.size w w' := by
  by_cases h1 : s.size = r.size
  · have hl2 : ((s.size : Int) != (r.size : Int)) = false := by simp [h1]
    by_cases h2 : s.size ≤ 200
    · have hd : decide ((200 : Int) < (s.size : Int)) = false := by simp; omega
      have HH := hamI_yes (f := f) h1 h2
      rw [← hamT_foldIf] at HH
      have za := foldIf_size f s
      have zb := foldIf_size f r
      cases f
      · have HH := Lib.hid HH
        have HL := Lib.hid h1
        clear h1 za zb
        go_enter Try.func37, Try.ntmps37
        go_wp2
        go_loopw [7, 26] (fun c i wr => ∃ k : Nat, k ≤ s.size ∧ i = .int .i64 k ∧ c = .int .i64 (hamT s r false k : Nat) ∧ Below w.heap.size w wr)
          (fun _ i _ => s.size - (intOf i).toNat)
        case atStart => exact ⟨0, by omega, rfl, by rw [hamT_zero]; rfl, Below.refl _ _⟩
        case round =>
          obtain ⟨k, hk, rfl, rfl, hb⟩ := hrel
          by_cases hlt : k < s.size
          · have hlb : k < r.size := by have := HL.out; omega
            have hst := hamT_succ s r false k hlt hlb
            rw [byteAt_eq s k hlt, byteAt_eq r k hlb] at hst
            have hle := hamT_le s r false k
            by_cases he : s[k] = r[k]
            · have hne : ((s[k].toNat : Int) != (r[k].toNat : Int)) = false := by rw [he]; simp
              have HS := Lib.hid (show hamT s r false (k + 1) = hamT s r false k by rw [hst, he, df_self]; rfl)
              clear hst he
              generalize hamT s r false k = m at *
              go_wp2_with fail
              go_quiet (fail)
              go_wp2
              go_roundw
              case rel => exact ⟨k + 1, by omega, by go_num, by rw [HS.out], below_drewN hb _⟩
              case measure => simp [intOf]; omega
            · have hne : ((s[k].toNat : Int) != (r[k].toNat : Int)) = true := by
                simp only [bne_iff_ne, ne_eq]; intro e; exact he (UInt8.toNat_inj.1 (by omega))
              have HS := Lib.hid (show hamT s r false (k + 1) = hamT s r false k + 1 by rw [hst]; show _ + df s[k] r[k] = _; rw [df_ne he])
              clear hst he
              generalize hamT s r false k = m at *
              go_wp2_with fail
              go_quiet (fail)
              go_wp2
              go_roundw
              case rel => exact ⟨k + 1, by omega, by go_num, by rw [HS.out]; go_num, below_drewN hb _⟩
              case measure => simp [intOf]; omega
          · obtain rfl : k = s.size := by omega
            go_wp2
            go_ret
            exact ⟨by rw [HH.out]; rfl, hb⟩
      · simp only [foldIf, if_true] at HH za zb
        go_enter Try.func37, Try.ntmps37
        go_wp2_with fail
        refine (impl_folded s _ (by omega)).mono ?_
        rintro e w1 ⟨rfl, hb1⟩
        go_wp2_with fail
        refine (impl_folded r _ (by omega)).mono ?_
        rintro e w2 ⟨rfl, hb2⟩
        have hB2 := below_step hb1 hb2
        clear hb1 hb2
        generalize foldS s = A at *
        generalize foldS r = B at *
        rw [← za] at HH
        have HH := Lib.hid HH
        have HL := Lib.hid (show A.size = B.size by omega)
        have hA : A.size ≤ 200 := by omega
        clear za zb h1 hl2 hd h2
        go_wp2
        go_loopw [7, 26] (fun c i wr => ∃ k : Nat, k ≤ A.size ∧ i = .int .i64 k ∧ c = .int .i64 (hamT A B false k : Nat) ∧ Below w.heap.size w wr)
          (fun _ i _ => A.size - (intOf i).toNat)
        case atStart => exact ⟨0, by omega, rfl, by rw [hamT_zero]; rfl, hB2⟩
        case round =>
          clear hB2
          obtain ⟨k, hk, rfl, rfl, hb⟩ := hrel
          by_cases hlt : k < A.size
          · have hlb : k < B.size := by have := HL.out; omega
            have hst := hamT_succ A B false k hlt hlb
            rw [byteAt_eq A k hlt, byteAt_eq B k hlb] at hst
            have hle := hamT_le A B false k
            by_cases he : A[k] = B[k]
            · have hne : ((A[k].toNat : Int) != (B[k].toNat : Int)) = false := by rw [he]; simp
              have HS := Lib.hid (show hamT A B false (k + 1) = hamT A B false k by rw [hst, he, df_self]; rfl)
              clear hst he
              generalize hamT A B false k = m at *
              go_wp2_with fail
              go_quiet (fail)
              go_wp2
              go_roundw
              case rel => exact ⟨k + 1, by omega, by go_num, by rw [HS.out], below_drewN hb _⟩
              case measure => simp [intOf]; omega
            · have hne : ((A[k].toNat : Int) != (B[k].toNat : Int)) = true := by
                simp only [bne_iff_ne, ne_eq]; intro e; exact he (UInt8.toNat_inj.1 (by omega))
              have HS := Lib.hid (show hamT A B false (k + 1) = hamT A B false k + 1 by rw [hst]; show _ + df A[k] B[k] = _; rw [df_ne he])
              clear hst he
              generalize hamT A B false k = m at *
              go_wp2_with fail
              go_quiet (fail)
              go_wp2
              go_roundw
              case rel => exact ⟨k + 1, by omega, by go_num, by rw [HS.out]; go_num, below_drewN hb _⟩
              case measure => simp [intOf]; omega
          · obtain rfl : k = A.size := by omega
            go_wp2
            go_ret
            exact ⟨by rw [HH.out]; rfl, hb⟩
    · have hd : decide ((200 : Int) < (s.size : Int)) = true := by simp; omega
      have HH := Lib.hid (hamI_no (s := s) (r := r) (f := f) (fun h => h2 h.2))
      clear h1
      go_enter Try.func37, Try.ntmps37
      go_wp2
      go_ret
      exact ⟨by rw [HH.out]; rfl, Below.refl _ _⟩
  · have hl2 : ((s.size : Int) != (r.size : Int)) = true := by simp; omega
    have HH := Lib.hid (hamI_no (s := s) (r := r) (f := f) (fun h => h1 h.1))
    clear h1
    go_enter Try.func37, Try.ntmps37
    go_wp2
    go_ret
    exact ⟨by rw [HH.out]; rfl, Below.refl _ _⟩
end Go.Proofs.Ytnmjcoppbkjogab

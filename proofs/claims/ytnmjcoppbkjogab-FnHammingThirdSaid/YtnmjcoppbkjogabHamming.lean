/-
  FnHamming and FnHammingThird: the walks.
-/
import Derived.Test.YtnmjcoppbkjogabL18Ham
import Derived.Test.YtnmjcoppbkjogabL3Dist
namespace Go.Proofs.Ytnmjcoppbkjogab
open Go.RowKit
set_option linter.unusedVariables false
set_option maxRecDepth 100000
theorem ham_symm (s r : ByteArray) (f : Bool) : hamI r s f = hamI s r f := by
  by_cases h : s.size = r.size ∧ s.size ≤ 200
  · rw [hamI_all h.1 h.2, hamI_all h.1.symm (by omega), hamL_symm]
  · rw [hamI_no h, hamI_no (fun e => h ⟨e.1.symm, by omega⟩)]
theorem ham_self (s : ByteArray) (f : Bool) (h : s.size ≤ 200) : hamI s s f = 0 := by
  rw [hamI_all rfl h, hamL_self]; rfl
theorem ham_dist {s r : ByteArray} {f : Bool} (h : s.size = r.size) (h2 : s.size ≤ 200) : distI s r f ≤ hamI s r f := by
  rw [hamI_all h h2, distI_ed h2 (by omega)]
  have := hamL_ed (fl f s) (fl f r) (by rw [fl_len, fl_len, h])
  omega
theorem ham_bnd {s r : ByteArray} {f : Bool} (h : s.size = r.size) (h2 : s.size ≤ 200) : 0 ≤ hamI s r f ∧ hamI s r f ≤ s.size := by
  rw [hamI_all h h2]
  have := hamL_le (fl f s) (fl f r)
  rw [fl_len] at this
  omega
theorem ham_zero {s r : ByteArray} {f : Bool} (h : s.size = r.size) (h2 : s.size ≤ 200) : (hamI s r f == 0) = alikeS s r f := by
  rw [hamI_all h h2, alikeS_fl]
  have hz := hamL_zero (fl f s) (fl f r) (by rw [fl_len, fl_len, h])
  rw [Bool.eq_iff_iff]
  simp only [beq_iff_eq]
  rw [← hz]; omega
theorem ham_tri {s c r : ByteArray} {f : Bool} (h : s.size = c.size) (h2 : c.size = r.size) (h3 : s.size ≤ 200) : hamI s r f ≤ hamI s c f + hamI c r f := by
  rw [hamI_all (by omega) h3, hamI_all h h3, hamI_all h2 (by omega)]
  have := hamL_tri (fl f s) (fl f c) (fl f r) (by rw [fl_len, fl_len, h]) (by rw [fl_len, fl_len, h2])
  omega
theorem drawHamming (a : Option Addr) (len cap : Nat) (z : List Int) (w : World) (hr : IsRow .u8 w a len cap z) (hl : len ≤ 1048576) :
    Calls Try.prog 36 #[.slice a len cap] w fun e w' => ∃ (s t : ByteArray) (f : Bool), e = .returned (.tuple #[.string s, .string t, .bool f]) ∧ s.size ≤ 14 ∧ t.size ≤ 14 ∧ Below w.heap.size w w' := by
  go_enter Try.func36, Try.ntmps36
  go_wp2_with fail
  refine (drawAlike _ _ _ _ _ hr hl).mono ?_
  rintro e w1 ⟨s, t, f, rfl, hs, ht, hb1⟩
  go_wp2_with fail
  go_ret3
  exact ⟨_, _, _, rfl, hs, ht, hb1⟩
set_option maxHeartbeats 2000000 in
theorem law_FnHamming (a : Option Addr) (len cap : Nat) (z : List Int) (w : World) (hr : IsRow .u8 w a len cap z) :
    Calls Try.prog 8 #[.slice a len cap] w fun e w' => e = .returned (.bool true) ∧ Below w.heap.size w w' := by
  by_cases hl : len ≤ 1048576
  · have hbig : decide (1048576 < (len : Int)) = false := by simp; omega
    go_enter Try.func8, Try.ntmps8
    go_wp2_with (go_at_call 35; refine (laws_big _ _ _ _ (by omega)).mono ?_; rintro e w' ⟨rfl, rfl⟩)
    refine (drawHamming _ _ _ _ _ hr hl).mono ?_
    rintro e w1 ⟨s, t, f, rfl, hs, ht, hb1⟩
    have HSY := ham_symm s t f
    have HSE := Lib.hid (ham_self s f (by omega))
    by_cases hst : s.size = t.size
    · have hd := ham_dist (f := f) hst (by omega)
      have hb := ham_bnd (f := f) hst (by omega)
      have hz := ham_zero (f := f) hst (by omega)
      have bd := dist_bnd s t f (by omega) (by omega)
      obtain ⟨n, hn⟩ : ∃ n, hamI s t f = n := ⟨_, rfl⟩
      obtain ⟨d, hdd⟩ : ∃ d, distI s t f = d := ⟨_, rfl⟩
      obtain ⟨al, hal⟩ : ∃ al, alikeS s t f = al := ⟨_, rfl⟩
      rw [hn] at HSY hd hb hz
      rw [hdd] at hd bd
      rw [hal] at hz
      have HSY := Lib.hid HSY
      have HN := Lib.hid hn; have HD := Lib.hid hdd; have HAL := Lib.hid hal
      have e0 : (n != n) = false := by simp
      have e1 : (al == al) = true := by simp
      have e2 : decide (d ≤ n) = true := by simpa using hd
      have e3 : decide (n ≤ (s.size : Int)) = true := by simpa using hb.2
      have e4 : decide (n < 0) = false := by simpa using hb.1
      obtain ⟨hb0, hb9⟩ := hb
      clear hn hdd hal hst bd
      go_wp2_with fail
      refine (impl_hamming s t f _ (by omega) (by omega)).mono ?_
      rintro e w2 ⟨rfl, hb2⟩
      rw [HN.out]
      have hB2 := below_step hb1 hb2
      go_wp2_with fail
      refine (spec_hamming s t f _ (by omega) (by omega)).mono ?_
      rintro e w3 ⟨rfl, hb3⟩
      rw [HN.out]
      have hB3 := below_step hB2 hb3
      go_wp2_with fail
      refine (impl_hamming t s f _ (by omega) (by omega)).mono ?_
      rintro e w4 ⟨rfl, hb4⟩
      rw [HSY.out]
      have hB4 := below_step hB3 hb4
      go_wp2_with fail
      refine (impl_hamming s s f _ (by omega) (by omega)).mono ?_
      rintro e w5 ⟨rfl, hb5⟩
      rw [HSE.out]
      have hB5 := below_step hB4 hb5
      clear hb1 hb2 hb3 hb4 hb5 hB2 hB3 hB4
      go_wp2_with fail
      refine (impl_distance s t f _ (by omega) (by omega)).mono ?_
      rintro e w6 ⟨rfl, hb6⟩
      rw [HD.out]
      have hB6 := below_step hB5 hb6
      go_wp2_with fail
      refine (impl_alike s t f _ (by omega) (by omega)).mono ?_
      rintro e w7 ⟨rfl, hb7⟩
      rw [HAL.out]
      have hB7 := below_step hB6 hb7
      clear hb6 hb7 hB5 hB6
      go_wp2_with fail
      go_ret
      exact ⟨rfl, hB7⟩
    · have hn : hamI s t f = -1 := hamI_no (fun h => hst h.1)
      rw [hn] at HSY
      have HSY := Lib.hid HSY
      have HN := Lib.hid hn
      clear hn hst
      go_wp2_with fail
      refine (impl_hamming s t f _ (by omega) (by omega)).mono ?_
      rintro e w2 ⟨rfl, hb2⟩
      rw [HN.out]
      have hB2 := below_step hb1 hb2
      go_wp2_with fail
      refine (spec_hamming s t f _ (by omega) (by omega)).mono ?_
      rintro e w3 ⟨rfl, hb3⟩
      rw [HN.out]
      have hB3 := below_step hB2 hb3
      go_wp2_with fail
      refine (impl_hamming t s f _ (by omega) (by omega)).mono ?_
      rintro e w4 ⟨rfl, hb4⟩
      rw [HSY.out]
      have hB4 := below_step hB3 hb4
      go_wp2_with fail
      refine (impl_hamming s s f _ (by omega) (by omega)).mono ?_
      rintro e w5 ⟨rfl, hb5⟩
      rw [HSE.out]
      have hB5 := below_step hB4 hb5
      clear hb1 hb2 hb3 hb4 hb5 hB2 hB3 hB4
      go_wp2_with fail
      go_ret
      exact ⟨rfl, hB5⟩
  · have hbig : decide (1048576 < (len : Int)) = true := by simp; omega
    go_enter Try.func8, Try.ntmps8
    go_wp2_with (go_at_call 35; go_in)
    go_ret
    exact ⟨rfl, Below.refl _ _⟩
set_option maxHeartbeats 2000000 in
theorem law_FnHammingThird (a : Option Addr) (len cap : Nat) (z : List Int) (w : World) (hr : IsRow .u8 w a len cap z) :
    Calls Try.prog 9 #[.slice a len cap] w fun e w' => e = .returned (.bool true) ∧ Below w.heap.size w w' := by
  by_cases hl : len ≤ 1048576
  · have hbig : decide (1048576 < (len : Int)) = false := by simp; omega
    go_enter Try.func9, Try.ntmps9
    go_wp2_with (go_at_call 35; refine (laws_big _ _ _ _ (by omega)).mono ?_; rintro e w' ⟨rfl, rfl⟩)
    refine (drawHamming _ _ _ _ _ hr hl).mono ?_
    rintro e w1 ⟨s, t, f, rfl, hs, ht, hb1⟩
    by_cases hst : s.size = t.size
    · have zc := backS_size s
      have htri := ham_tri (s := s) (c := backS s) (r := t) (f := f) zc.symm (by omega) (by omega)
      have hb := ham_bnd (f := f) hst (by omega)
      have hc1 := ham_bnd (s := s) (r := backS s) (f := f) zc.symm (by omega)
      have hc2 := ham_bnd (s := backS s) (r := t) (f := f) (by omega) (by omega)
      have HA := backTo_all s
      generalize backS s = c at *
      obtain ⟨n, hn⟩ : ∃ n, hamI s t f = n := ⟨_, rfl⟩
      obtain ⟨d1, hd1⟩ : ∃ d, hamI s c f = d := ⟨_, rfl⟩
      obtain ⟨d2, hd2⟩ : ∃ d, hamI c t f = d := ⟨_, rfl⟩
      rw [hn] at htri hb
      rw [hd1] at htri hc1
      rw [hd2] at htri hc2
      have HN := Lib.hid hn; have HD1 := Lib.hid hd1; have HD2 := Lib.hid hd2; have HA := Lib.hid HA; have HZC := Lib.hid zc
      have e0 : (n != n) = false := by simp
      have e2 : decide (n ≤ d1 + d2) = true := by simpa using htri
      have e4 : decide (n < 0) = false := by simpa using hb.1
      have l1 : d1 ≤ 14 := by omega
      have l2 : d2 ≤ 14 := by omega
      have hcz : c.size ≤ 14 := by omega
      obtain ⟨hb0, hb9⟩ := hb; obtain ⟨hc10, _⟩ := hc1; obtain ⟨hc20, _⟩ := hc2
      clear hn hd1 hd2 hst zc
      go_wp2_with fail
      refine (impl_hamming s t f _ (by omega) (by omega)).mono ?_
      rintro e w2 ⟨rfl, hb2⟩
      rw [HN.out]
      have hB2 := below_step hb1 hb2
      go_wp2_with fail
      refine (spec_hamming s t f _ (by omega) (by omega)).mono ?_
      rintro e w3 ⟨rfl, hb3⟩
      rw [HN.out]
      have hB3 := below_step hB2 hb3
      clear hb1 hb2 hb3 hB2
      go_wp2_with fail
      go_loopw [7, 8] (fun v i wr => ∃ k : Nat, k ≤ s.size ∧ i = .int .i64 k ∧ v = .string (backTo s k) ∧ Below w.heap.size w wr)
        (fun _ i _ => s.size - (intOf i).toNat)
      case atStart => exact ⟨0, by omega, rfl, rfl, hB3⟩
      case round =>
        clear hB3
        obtain ⟨k, hk, rfl, rfl, hb⟩ := hrel
        by_cases hlt : k < s.size
        · have hS := backTo_succ s k hlt
          have hB1 : (backTo s k).size ≤ 2000 := by rw [backTo_size s k hk]; omega
          have hA1 : (s.extract k (k + 1)).size ≤ 2000 := by rw [ByteArray.size_extract]; omega
          obtain ⟨A, hA⟩ : ∃ A, s.extract k (k + 1) = A := ⟨_, rfl⟩
          rw [hA] at hS hA1
          generalize backTo s k = B at *
          have HS := Lib.hid hS; clear hS
          go_wp2
          go_roundw
          case rel => exact ⟨k + 1, by omega, by go_num, by rw [← HS.out], hb⟩
          case measure => simp [intOf]; omega
        · obtain rfl : k = s.size := by omega
          rw [HA.out]
          go_wp2_with fail
          refine (impl_hamming s c f _ (by omega) (by omega)).mono ?_
          rintro e w4 ⟨rfl, hb4⟩
          rw [HD1.out]
          have hB4 := below_step hb hb4
          go_wp2_with fail
          refine (impl_hamming c t f _ (by omega) (by omega)).mono ?_
          rintro e w5 ⟨rfl, hb5⟩
          rw [HD2.out]
          have hB5 := below_step hB4 hb5
          clear hb4 hb5 hb hB4
          go_wp2_with fail
          go_ret
          exact ⟨rfl, hB5⟩
    · have hn : hamI s t f = -1 := hamI_no (fun h => hst h.1)
      have HN := Lib.hid hn
      clear hn hst
      go_wp2_with fail
      refine (impl_hamming s t f _ (by omega) (by omega)).mono ?_
      rintro e w2 ⟨rfl, hb2⟩
      rw [HN.out]
      have hB2 := below_step hb1 hb2
      go_wp2_with fail
      refine (spec_hamming s t f _ (by omega) (by omega)).mono ?_
      rintro e w3 ⟨rfl, hb3⟩
      rw [HN.out]
      have hB3 := below_step hB2 hb3
      go_wp2_with fail
      refine (spec_hamming s t f _ (by omega) (by omega)).mono ?_
      rintro e w4 ⟨rfl, hb4⟩
      rw [HN.out]
      have hB4 := below_step hB3 hb4
      clear hb1 hb2 hb3 hb4 hB2 hB3
      go_wp2_with fail
      go_ret
      exact ⟨rfl, hB4⟩
  · have hbig : decide (1048576 < (len : Int)) = true := by simp; omega
    go_enter Try.func9, Try.ntmps9
    go_wp2_with (go_at_call 35; go_in)
    go_ret
    exact ⟨rfl, Below.refl _ _⟩
end Go.Proofs.Ytnmjcoppbkjogab

/-
  FnMayBe: texts that differ by no more than so much may be such, whatever the pieces' length: the walk.
-/
import Derived.Test.YtelhgpoppgpniabL16L
import Derived.Test.YtelhgpoppgpniabL3DrawD
namespace Go.Proofs.Ytelhgpoppgpniab
open Go.RowKit
set_option linter.unusedVariables false
set_option maxRecDepth 100000
theorem comI_symm (s t : ByteArray) (q : Int) : comI t s q = comI s t q := by
  unfold comI comN
  by_cases h : gramOk s q = true ∧ gramOk t q = true
  · rw [if_pos h, if_pos ⟨h.2, h.1⟩, pairN_symm]
  · rw [if_neg h, if_neg (fun h2 => h ⟨h2.2, h2.1⟩)]
theorem mayB_symm (s t : ByteArray) (k q : Int) : mayB t s k q = mayB s t k q := by
  unfold mayB
  rw [comI_symm s t, Nat.max_comm, Nat.min_comm]
  exact decide_eq_decide.2 ⟨fun h => ⟨h.2.1, h.1, h.2.2⟩, fun h => ⟨h.2.1, h.1, h.2.2⟩⟩
theorem mayB_dist (s t : ByteArray) (n : Nat) (hs : s.size ≤ 100) (ht : t.size ≤ 100) (h1 : 1 ≤ n) (h2 : n ≤ 10) : mayB s t (distI s t false) (n : Int) = true := by
  have g1 := gramOk_iff (s := s) (q := (n : Int)).2 ⟨by omega, by omega, by omega⟩
  have g2 := gramOk_iff (s := t) (q := (n : Int)).2 ⟨by omega, by omega, by omega⟩
  have hd := distI_ed (s := s) (r := t) (f := false) (by omega) (by omega)
  have hl := grams_left h1 (bl s) (bl t)
  have hr := grams_right h1 (bl s) (bl t)
  have hc : pairN (gramsL n (bl s)) (gramsL n (bl t)) = comN n s t := rfl
  rw [gramsL_len h1, bl_len, hc] at hl
  rw [gramsL_len h1, bl_len, hc] at hr
  have he := ed_len (bl s) (bl t)
  rw [bl_len, bl_len] at he
  have hf : ed (fl false s) (fl false t) = ed (bl s) (bl t) := rfl
  rw [hf] at hd
  generalize ed (bl s) (bl t) = d at *
  have hz : distI s t false * (n : Int) = ((n * d : Nat) : Int) := by rw [hd, Int.mul_comm]; simp
  generalize n * d = z at *
  unfold mayB
  rw [hz, comI_yes g1 g2, hd]
  refine decide_eq_true ⟨g1, g2, by omega, by omega, ?_, ?_⟩
  · omega
  · omega
theorem mayB_more {s t : ByteArray} {d k q : Int} (h : mayB s t d q = true) (hd : d ≤ k) (h0 : 0 ≤ k) (h1 : k ≤ 200) : mayB s t k q = true := by
  unfold mayB at h ⊢
  obtain ⟨a1, a2, a3, a4, a5, a6⟩ := of_decide_eq_true h
  obtain ⟨b1, _, _⟩ := gramOk_iff.1 a1
  have hm : d * q ≤ k * q := Int.mul_le_mul_of_nonneg_right hd (by omega)
  exact decide_eq_true ⟨a1, a2, h0, h1, by omega, by omega⟩
theorem drawMayBe (a : Option Addr) (len cap : Nat) (z : List Int) (w : World) (hr : IsRow .u8 w a len cap z) (hl : len ≤ 1048576) :
    Calls Try.prog 40 #[.slice a len cap] w fun e w' => ∃ (s t : ByteArray) (k : Int) (q : Nat), e = .returned (.tuple #[.string s, .string t, .int .i64 k, .int .i64 (q : Int)]) ∧ s.size ≤ 14 ∧ t.size ≤ 14 ∧ 1 ≤ q ∧ q ≤ 3 ∧ Below w.heap.size w w' := by
  go_enter Try.func40, Try.ntmps40
  go_wp2_with fail
  refine (l1Open_any _ _ _ _ _ hr hl).mono ?_
  rintro e w1 ⟨rfl, hok, hb⟩
  go_wp2_with fail
  refine (rd_term _ _ _ _ _ _ hok 9 (by omega)).mono ?_
  rintro e w2 ⟨s, rfl, hs, hok2, hg2⟩
  go_wp2_with fail
  refine (rd_term _ _ _ _ _ _ hok2 9 (by omega)).mono ?_
  rintro e w3 ⟨t, rfl, ht, hok3, hg3⟩
  go_wp2_with fail
  refine (rd_once _ _ _ _ _ _ hok3 _ (by omega) (by omega)).mono ?_
  rintro e w4 ⟨m, rfl, hok4, hg4⟩
  have hg := grownBy_trans hg2 (grownBy_trans hg3 hg4)
  cases m
  · go_wp2_with fail
    refine (rd_nearly _ _ _ _ _ _ hok4 s (by omega)).mono ?_
    rintro e w5 ⟨u, rfl, hu, hok5, hg5⟩
    go_wp2_with fail
    refine (rd_off _ _ _ _ _ _ hok5 _ _ (by omega) (by omega) (by omega) (by omega)).mono ?_
    rintro e w6 ⟨k, rfl, hk, hok6, hg6⟩
    go_wp2_with fail
    refine (rd_below _ _ _ _ _ _ hok6 _).mono ?_
    rintro e w7 ⟨j, rfl, ⟨hj0, _, hj1, _⟩, hok7, hg7⟩
    have hj2 : j < 3 := hj1 (by omega)
    clear hj1
    obtain ⟨n, rfl⟩ := Int.eq_ofNat_of_zero_le hj0
    go_wp2
    refine bodyPost_ret (v := .tuple #[.string s, .string u, .int .i64 k, .int .i64 (1 + (n : Int))]) (by simp [results, Try.results40, go_sem]) rfl ⟨s, u, k, n + 1, by rw [show ((n + 1 : Nat) : Int) = 1 + (n : Int) by omega], by omega, by omega, by omega, by omega, below_rd hb (grownBy_trans hg (grownBy_trans hg5 (grownBy_trans hg6 hg7)))⟩
  · go_wp2_with fail
    refine (rd_off _ _ _ _ _ _ hok4 _ _ (by omega) (by omega) (by omega) (by omega)).mono ?_
    rintro e w6 ⟨k, rfl, hk, hok6, hg6⟩
    go_wp2_with fail
    refine (rd_below _ _ _ _ _ _ hok6 _).mono ?_
    rintro e w7 ⟨j, rfl, ⟨hj0, _, hj1, _⟩, hok7, hg7⟩
    have hj2 : j < 3 := hj1 (by omega)
    clear hj1
    obtain ⟨n, rfl⟩ := Int.eq_ofNat_of_zero_le hj0
    go_wp2
    refine bodyPost_ret (v := .tuple #[.string s, .string t, .int .i64 k, .int .i64 (1 + (n : Int))]) (by simp [results, Try.results40, go_sem]) rfl ⟨s, t, k, n + 1, by rw [show ((n + 1 : Nat) : Int) = 1 + (n : Int) by omega], by omega, by omega, by omega, by omega, below_rd hb (grownBy_trans hg (grownBy_trans hg6 hg7))⟩
set_option maxHeartbeats 2000000 in
theorem law_FnMayBe (a : Option Addr) (len cap : Nat) (z : List Int) (w : World) (hr : IsRow .u8 w a len cap z) :
    Calls Try.prog 8 #[.slice a len cap] w fun e w' => e = .returned (.bool true) ∧ Below w.heap.size w w' := by
  by_cases hl : len ≤ 1048576
  · have hbig : decide (1048576 < (len : Int)) = false := by simp; omega
    go_enter Try.func8, Try.ntmps8
    go_wp2_with (go_at_call 10; refine (laws_big _ _ _ _ (by omega)).mono ?_; rintro e w' ⟨rfl, rfl⟩)
    refine (drawMayBe _ _ _ _ _ hr hl).mono ?_
    rintro e w1 ⟨s, t, k, q, rfl, hs, ht, hq1, hq2, hb1⟩
    have HT := Lib.hid (mayB_dist s t q (by omega) (by omega) hq1 (by omega))
    have HS := Lib.hid (mayB_symm s t k (q : Int))
    have HMO := fun (h1 : distI s t false ≤ k) (h2 : 0 ≤ k) (h3 : k ≤ 200) => mayB_more (s := s) (t := t) (q := (q : Int)) HT.out h1 h2 h3
    obtain ⟨v, hv⟩ : ∃ v, mayB s t k (q : Int) = v := ⟨_, rfl⟩
    obtain ⟨d, hd⟩ : ∃ d, distI s t false = d := ⟨_, rfl⟩
    rw [hv] at HMO HS
    rw [hd] at HMO HT
    have HV := Lib.hid hv; have HD := Lib.hid hd; have HM := Lib.hid HMO
    have e0 : (v == v) = true := by simp
    have e1 : (v != v) = false := by simp
    clear hv hd HMO
    go_wp2_with fail
    refine (impl_mayBe s t k _ _ (by omega) (by omega)).mono ?_
    rintro e w2 ⟨rfl, hb2⟩
    rw [HV.out]
    have hB2 := below_step hb1 hb2
    go_wp2_with fail
    refine (impl_distance s t false _ (by omega) (by omega)).mono ?_
    rintro e w3 ⟨rfl, hb3⟩
    rw [HD.out]
    have hB3 := below_step hB2 hb3
    go_wp2_with fail
    refine (spec_mayBe s t k _ _ (by omega) (by omega)).mono ?_
    rintro e w4 ⟨rfl, hb4⟩
    rw [HV.out]
    have hB4 := below_step hB3 hb4
    go_wp2_with fail
    refine (impl_mayBe t s k _ _ (by omega) (by omega)).mono ?_
    rintro e w5 ⟨rfl, hb5⟩
    rw [HS.out]
    have hB5 := below_step hB4 hb5
    go_wp2_with fail
    refine (impl_mayBe s t d _ _ (by omega) (by omega)).mono ?_
    rintro e w6 ⟨rfl, hb6⟩
    rw [HT.out]
    have hB6 := below_step hB5 hb6
    clear hb1 hb2 hb3 hb4 hb5 hb6 hB2 hB3 hB4 hB5
    by_cases c1 : k < d
    · have f1 : decide (k < d) = true := decide_eq_true c1
      go_wp2
      go_ret
      exact ⟨rfl, hB6⟩
    · have f1 : decide (k < d) = false := decide_eq_false c1
      by_cases c2 : k < 0
      · have f2 : decide (k < 0) = true := decide_eq_true c2
        go_wp2
        go_ret
        exact ⟨rfl, hB6⟩
      · have f2 : decide (k < 0) = false := decide_eq_false c2
        by_cases c3 : 200 < k
        · have f3 : decide ((200 : Int) < k) = true := decide_eq_true c3
          go_wp2
          go_ret
          exact ⟨rfl, hB6⟩
        · have f3 : decide ((200 : Int) < k) = false := decide_eq_false c3
          have hvt := HM.out (by omega) (by omega) (by omega)
          subst hvt
          go_wp2
          go_ret
          exact ⟨rfl, hB6⟩
  · have hbig : decide (1048576 < (len : Int)) = true := by simp; omega
    go_enter Try.func8, Try.ntmps8
    go_wp2_with (go_at_call 10; go_in)
    go_ret
    exact ⟨rfl, Below.refl _ _⟩
end Go.Proofs.Ytelhgpoppgpniab

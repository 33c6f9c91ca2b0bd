/-
  Chapter 16: how many pieces two texts have in common, and whether they may be near, in the program (by wip/tools/mk_maybe.py).
-/
import Derived.Test.YtpniiaemgobaiabL16M
namespace Go.Proofs.Ytpniiaemgobaiab
open Go.RowKit
set_option linter.unusedVariables false
set_option maxRecDepth 100000
theorem impl_gramLengthOk (q : Int) (w : World) :
    Calls Try.prog 62 #[.int .i64 q] w fun e w' => e = .returned (.bool (inB q 1 10)) ∧ w = w' := by
  by_cases h1 : 1 ≤ q
  · by_cases h2 : q ≤ 10
    · have H := Lib.hid (inB_yes ⟨h1, h2⟩)
      go_enter Try.func62, Try.ntmps62
      go_wp2
      go_ret
      exact ⟨by rw [H.out]; rfl, rfl⟩
    · have H := Lib.hid (inB_no (n := q) (lo := 1) (hi := 10) (by omega))
      go_enter Try.func62, Try.ntmps62
      go_wp2
      go_ret
      exact ⟨by rw [H.out]; rfl, rfl⟩
  · have H := Lib.hid (inB_no (n := q) (lo := 1) (hi := 10) (by omega))
    go_enter Try.func62, Try.ntmps62
    go_wp2
    go_ret
    exact ⟨by rw [H.out]; rfl, rfl⟩
theorem impl_gramsOk (s : ByteArray) (q : Int) (w : World) (hs : s.size ≤ 1048576) :
    Calls Try.prog 91 #[.string s, .int .i64 q] w fun e w' => e = .returned (.bool (gramOk s q)) ∧ w = w' := by
  by_cases h1 : 1 ≤ q ∧ q ≤ 10
  · have HI := Lib.hid (inB_yes h1)
    by_cases h2 : s.size ≤ 200
    · have d1 : decide ((s.size : Int) ≤ 200) = true := by simp; omega
      have HF := Lib.hid (gramOk_iff.2 ⟨h1.1, h1.2, h2⟩)
      clear h1
      go_enter Try.func91, Try.ntmps91
      go_wp2_with (go_at_call 62; refine (impl_gramLengthOk _ _).mono ?_; rintro e w1 ⟨rfl, rfl⟩; rw [HI.out])
      go_ret
      exact ⟨by rw [HF.out]; rfl, rfl⟩
    · have d1 : decide ((s.size : Int) ≤ 200) = false := by simp; omega
      have HF := Lib.hid (gramOk_no (s := s) (q := q) (fun h => h2 h.2.2))
      clear h1
      go_enter Try.func91, Try.ntmps91
      go_wp2_with (go_at_call 62; refine (impl_gramLengthOk _ _).mono ?_; rintro e w1 ⟨rfl, rfl⟩; rw [HI.out])
      go_ret
      exact ⟨by rw [HF.out]; rfl, rfl⟩
  · have HI := Lib.hid (inB_no h1)
    have HF := Lib.hid (gramOk_no (s := s) (q := q) (fun h => h1 ⟨h.1, h.2.1⟩))
    clear h1
    go_enter Try.func91, Try.ntmps91
    go_wp2_with (go_at_call 62; refine (impl_gramLengthOk _ _).mono ?_; rintro e w1 ⟨rfl, rfl⟩; rw [HI.out])
    go_ret
    exact ⟨by rw [HF.out]; rfl, rfl⟩
set_option maxHeartbeats 2000000 in
theorem impl_common_yes (s t : ByteArray) (q : Nat) (w : World) (hs : s.size ≤ 200) (ht : t.size ≤ 200) (hq1 : 1 ≤ q) (hq2 : q ≤ 10) :
    Calls Try.prog 64 #[.string s, .string t, .int .i64 (q : Int)] w fun e w' => e = .returned (.int .i64 (comN q s t : Nat)) ∧ Below w.heap.size w w' := by
  have G1 := Lib.hid (gramOk_iff (s := s) (q := q).2 ⟨by omega, by omega, hs⟩)
  have G2 := Lib.hid (gramOk_iff (s := t) (q := q).2 ⟨by omega, by omega, ht⟩)
  have HC : Hid (pairN (gramsL q (bl s)) (gramsL q (bl t)) = comN q s t) := Lib.hid rfl
  have l1 : (gramsL q (bl s)).length ≤ 10000 := by rw [gramsL_len hq1, bl_len]; omega
  have l2 : (gramsL q (bl t)).length ≤ 10000 := by rw [gramsL_len hq1, bl_len]; omega
  go_enter Try.func64, Try.ntmps64
  go_wp2_with (go_at_call 91; first | (with_reducible refine (impl_gramsOk s _ _ (by omega)).mono ?_; rintro e w1 ⟨rfl, rfl⟩; rw [G1.out]) | (with_reducible refine (impl_gramsOk t _ _ (by omega)).mono ?_; rintro e w1 ⟨rfl, rfl⟩; rw [G2.out]))
  refine (impl_gramsIn s q _ (by omega) hq1 hq2).mono ?_
  rintro e w2 ⟨rfl, hA, hb1⟩
  have hz1 : w.heap.size < w2.heap.size := by obtain ⟨n, D, _, hbg⟩ := hA; exact hbg.1.lt
  go_wp2_with fail
  refine (impl_gramsIn t q _ (by omega) hq1 hq2).mono ?_
  rintro e w3 ⟨rfl, hB, hb2⟩
  have hBB := below_step hb1 hb2
  obtain ⟨n, D, hn, hA⟩ := hA
  obtain ⟨m, E, hm, hB⟩ := hB
  have hA3 := hA.below hb2
  go_wp2_with fail
  refine (impl_paired _ _ _ _ _ _ _ _ _ hA3 hB (by omega) l1 l2).mono ?_
  rintro e w4 ⟨rfl, hb3⟩
  rw [HC.out]
  have hB2 := below_step hBB hb3
  clear hb1 hb2 hb3 hA hB hA3 hBB
  go_wp2
  go_ret
  exact ⟨rfl, hB2⟩
set_option maxHeartbeats 2000000 in
theorem impl_common (s t : ByteArray) (q : Int) (w : World) (hs : s.size ≤ 1048576) (ht : t.size ≤ 1048576) :
    Calls Try.prog 64 #[.string s, .string t, .int .i64 q] w fun e w' => e = .returned (.int .i64 (comI s t q)) ∧ Below w.heap.size w w' := by
  by_cases h : gramOk s q = true ∧ gramOk t q = true
  · obtain ⟨h1, h2⟩ := h
    obtain ⟨a1, a2, a3⟩ := gramOk_iff.1 h1
    obtain ⟨_, _, a4⟩ := gramOk_iff.1 h2
    obtain ⟨k, rfl⟩ : ∃ k : Nat, q = (k : Int) := ⟨q.toNat, by omega⟩
    rw [comI_yes h1 h2]
    exact impl_common_yes s t k w a3 a4 (by omega) (by omega)
  · rw [comI_else h]
    rcases comI_no s t q h with h1 | ⟨h1, h2⟩
    · have G1 := Lib.hid h1
      clear h h1
      go_enter Try.func64, Try.ntmps64
      go_wp2_with (go_at_call 91; refine (impl_gramsOk s _ _ (by omega)).mono ?_; rintro e w1 ⟨rfl, rfl⟩; rw [G1.out])
      go_ret
      exact ⟨rfl, Below.refl _ _⟩
    · have G1 := Lib.hid h1; have G2 := Lib.hid h2
      clear h h1 h2
      go_enter Try.func64, Try.ntmps64
      go_wp2_with fail
      refine (impl_gramsOk s _ _ (by omega)).mono ?_
      rintro e w1 ⟨rfl, rfl⟩
      rw [G1.out]
      go_wp2_with fail
      refine (impl_gramsOk t _ _ (by omega)).mono ?_
      rintro e w1 ⟨rfl, rfl⟩
      rw [G2.out]
      go_wp2
      go_ret
      exact ⟨rfl, Below.refl _ _⟩
/-- may two texts be near by their pieces? -/
def mayB (s t : ByteArray) (k q : Int) : Bool := decide (gramOk s q = true ∧ gramOk t q = true ∧ 0 ≤ k ∧ k ≤ 200 ∧ (max s.size t.size : Nat) - (min s.size t.size : Nat) ≤ k ∧ (max s.size t.size : Nat) - q + 1 - k * q ≤ comI s t q)
theorem mayB_no {s t : ByteArray} {k q : Int} (h : ¬ (gramOk s q = true ∧ gramOk t q = true ∧ 0 ≤ k ∧ k ≤ 200)) : mayB s t k q = false := decide_eq_false fun h2 => h ⟨h2.1, h2.2.1, h2.2.2.1, h2.2.2.2.1⟩
theorem mayB_in {s t : ByteArray} {k q z c : Int} (h1 : gramOk s q = true) (h2 : gramOk t q = true) (h3 : 0 ≤ k) (h4 : k ≤ 200) (hz : k * q = z) (hc : comI s t q = c) : mayB s t k q = (decide (((max s.size t.size : Nat) : Int) - (min s.size t.size : Nat) ≤ k) && decide (((max s.size t.size : Nat) : Int) - q + 1 - z ≤ c)) := by
  unfold mayB
  rw [hz, hc, h1, h2]
  by_cases a : ((max s.size t.size : Nat) : Int) - (min s.size t.size : Nat) ≤ k
  · by_cases b : ((max s.size t.size : Nat) : Int) - q + 1 - z ≤ c
    · rw [decide_eq_true a, decide_eq_true b]; simp [h3, h4, a, b]
    · rw [decide_eq_true a, decide_eq_false b]; simp [b]
  · rw [decide_eq_false a]; simp [a]
theorem mul_bnd {k q : Int} (h1 : 0 ≤ k) (h2 : k ≤ 200) (h3 : 1 ≤ q) (h4 : q ≤ 10) : 0 ≤ k * q ∧ k * q ≤ 2000 := by
  refine ⟨Int.mul_nonneg h1 (by omega), ?_⟩
  have := Int.mul_le_mul h2 h4 (by omega) (by omega)
  omega
theorem comN_le (q : Nat) (s t : ByteArray) (hq : 1 ≤ q) : comN q s t ≤ s.size := by
  have h := pairN_le (gramsL q (bl s)) (gramsL q (bl t))
  rw [gramsL_len hq, bl_len] at h
  unfold comN; omega
set_option maxHeartbeats 4000000 in
theorem impl_mayBe (s t : ByteArray) (k q : Int) (w : World) (hs : s.size ≤ 1048576) (ht : t.size ≤ 1048576) :
    Calls Try.prog 25 #[.string s, .string t, .int .i64 k, .int .i64 q] w fun e w' => e = .returned (.bool (mayB s t k q)) ∧ Below w.heap.size w w' := by
  by_cases hg : gramOk s q = true ∧ gramOk t q = true
  · obtain ⟨h1, h2⟩ := hg
    obtain ⟨a1, a2, a3⟩ := gramOk_iff.1 h1
    obtain ⟨_, _, a4⟩ := gramOk_iff.1 h2
    obtain ⟨n, rfl⟩ : ∃ n : Nat, q = (n : Int) := ⟨q.toNat, by omega⟩
    have hci := comI_yes h1 h2
    have hcl := comN_le n s t (by omega)
    obtain ⟨c, hc⟩ : ∃ c, comN n s t = c := ⟨_, rfl⟩
    rw [hc] at hci hcl
    by_cases h3 : 0 ≤ k
    · by_cases h4 : k ≤ 200
      · obtain ⟨m1, m2⟩ := mul_bnd h3 h4 a1 a2
        obtain ⟨z, hz⟩ : ∃ z, k * (n : Int) = z := ⟨_, rfl⟩
        have hM := mayB_in h1 h2 h3 h4 hz hci
        rw [hz] at m1 m2
        have d1 : decide (((c : Nat) : Int) < 0) = false := by simp
        have d2 : decide (k < 0) = false := by simp; omega
        have d3 : decide ((200 : Int) < k) = false := by simp; omega
        have HCI := Lib.hid hci
        have w4 : IntKind.i64.wrap (k * (n : Int)) = z := by rw [hz, IntKind.wrap_i64]; omega
        clear h1 h2 hc hci
        by_cases hst : s.size ≤ t.size
        · have hmx : max s.size t.size = t.size := by omega
          have hmn : min s.size t.size = s.size := by omega
          rw [hmx, hmn] at hM
          have p1 : (s.size : Int) ≤ (t.size : Int) := by omega
          have w1 : IntKind.i64.wrap ((t.size : Int) - (s.size : Int)) = (t.size : Int) - (s.size : Int) := by rw [IntKind.wrap_i64]; omega
          have w2 : IntKind.i64.wrap ((t.size : Int) - (n : Int)) = (t.size : Int) - (n : Int) := by rw [IntKind.wrap_i64]; omega
          have w3 : IntKind.i64.wrap ((t.size : Int) - (n : Int) + 1) = (t.size : Int) - (n : Int) + 1 := by rw [IntKind.wrap_i64]; omega
          have w5 : IntKind.i64.wrap ((t.size : Int) - (n : Int) + 1 - z) = (t.size : Int) - (n : Int) + 1 - z := by rw [IntKind.wrap_i64]; omega
          have x1 : max (s.size : Int) (t.size : Int) = (t.size : Int) := by omega
          have x2 : min (s.size : Int) (t.size : Int) = (s.size : Int) := by omega
          clear hmx hmn hz
          by_cases b1 : (t.size : Int) - (s.size : Int) ≤ k
          · have g1 : decide ((t.size : Int) - (s.size : Int) ≤ k) = true := decide_eq_true b1
            by_cases b2 : (t.size : Int) - (n : Int) + 1 - z ≤ (c : Int)
            · have g2 : decide ((t.size : Int) - (n : Int) + 1 - z ≤ (c : Int)) = true := decide_eq_true b2
              have HF : Hid (mayB s t k (n : Int) = true) := Lib.hid (by rw [hM, g1, g2]; rfl)
              clear hM
              go_enter Try.func25, Try.ntmps25
              go_wp2_with (go_at_call 64; refine (impl_common _ _ _ _ hs ht).mono ?_; rintro e w1 ⟨rfl, hb1⟩; rw [HCI.out])
              go_ret
              exact ⟨by rw [HF.out]; rfl, hb1⟩
            · have g2 : decide ((t.size : Int) - (n : Int) + 1 - z ≤ (c : Int)) = false := decide_eq_false b2
              have HF : Hid (mayB s t k (n : Int) = false) := Lib.hid (by rw [hM, g1, g2]; rfl)
              clear hM
              go_enter Try.func25, Try.ntmps25
              go_wp2_with (go_at_call 64; refine (impl_common _ _ _ _ hs ht).mono ?_; rintro e w1 ⟨rfl, hb1⟩; rw [HCI.out])
              go_ret
              exact ⟨by rw [HF.out]; rfl, hb1⟩
          · have g1 : decide ((t.size : Int) - (s.size : Int) ≤ k) = false := decide_eq_false b1
            have HF : Hid (mayB s t k (n : Int) = false) := Lib.hid (by rw [hM, g1]; rfl)
            clear hM
            go_enter Try.func25, Try.ntmps25
            go_wp2_with (go_at_call 64; refine (impl_common _ _ _ _ hs ht).mono ?_; rintro e w1 ⟨rfl, hb1⟩; rw [HCI.out])
            go_ret
            exact ⟨by rw [HF.out]; rfl, hb1⟩
        · have hts : t.size ≤ s.size := by omega
          have hmx : max s.size t.size = s.size := by omega
          have hmn : min s.size t.size = t.size := by omega
          rw [hmx, hmn] at hM
          have p2 : (t.size : Int) ≤ (s.size : Int) := by omega
          by_cases heq : s.size = t.size
          · exact absurd (Nat.le_of_eq heq) hst
          have p1 : ¬ (s.size : Int) ≤ (t.size : Int) := by omega
          have p3 : (t.size : Int) < (s.size : Int) := by omega
          have w1 : IntKind.i64.wrap ((s.size : Int) - (t.size : Int)) = (s.size : Int) - (t.size : Int) := by rw [IntKind.wrap_i64]; omega
          have w2 : IntKind.i64.wrap ((s.size : Int) - (n : Int)) = (s.size : Int) - (n : Int) := by rw [IntKind.wrap_i64]; omega
          have w3 : IntKind.i64.wrap ((s.size : Int) - (n : Int) + 1) = (s.size : Int) - (n : Int) + 1 := by rw [IntKind.wrap_i64]; omega
          have w5 : IntKind.i64.wrap ((s.size : Int) - (n : Int) + 1 - z) = (s.size : Int) - (n : Int) + 1 - z := by rw [IntKind.wrap_i64]; omega
          have x1 : max (s.size : Int) (t.size : Int) = (s.size : Int) := by omega
          have x2 : min (s.size : Int) (t.size : Int) = (t.size : Int) := by omega
          clear hmx hmn hz
          by_cases b1 : (s.size : Int) - (t.size : Int) ≤ k
          · have g1 : decide ((s.size : Int) - (t.size : Int) ≤ k) = true := decide_eq_true b1
            by_cases b2 : (s.size : Int) - (n : Int) + 1 - z ≤ (c : Int)
            · have g2 : decide ((s.size : Int) - (n : Int) + 1 - z ≤ (c : Int)) = true := decide_eq_true b2
              have HF : Hid (mayB s t k (n : Int) = true) := Lib.hid (by rw [hM, g1, g2]; rfl)
              clear hM
              go_enter Try.func25, Try.ntmps25
              go_wp2_with (go_at_call 64; refine (impl_common _ _ _ _ hs ht).mono ?_; rintro e w1 ⟨rfl, hb1⟩; rw [HCI.out])
              go_ret
              exact ⟨by rw [HF.out]; rfl, hb1⟩
            · have g2 : decide ((s.size : Int) - (n : Int) + 1 - z ≤ (c : Int)) = false := decide_eq_false b2
              have HF : Hid (mayB s t k (n : Int) = false) := Lib.hid (by rw [hM, g1, g2]; rfl)
              clear hM
              go_enter Try.func25, Try.ntmps25
              go_wp2_with (go_at_call 64; refine (impl_common _ _ _ _ hs ht).mono ?_; rintro e w1 ⟨rfl, hb1⟩; rw [HCI.out])
              go_ret
              exact ⟨by rw [HF.out]; rfl, hb1⟩
          · have g1 : decide ((s.size : Int) - (t.size : Int) ≤ k) = false := decide_eq_false b1
            have HF : Hid (mayB s t k (n : Int) = false) := Lib.hid (by rw [hM, g1]; rfl)
            clear hM
            go_enter Try.func25, Try.ntmps25
            go_wp2_with (go_at_call 64; refine (impl_common _ _ _ _ hs ht).mono ?_; rintro e w1 ⟨rfl, hb1⟩; rw [HCI.out])
            go_ret
            exact ⟨by rw [HF.out]; rfl, hb1⟩
      · have HF := Lib.hid (mayB_no (s := s) (t := t) (k := k) (q := (n : Int)) (fun h => h4 h.2.2.2))
        have HCI := Lib.hid hci
        have d1 : decide (((c : Nat) : Int) < 0) = false := by simp
        have d2 : decide (k < 0) = false := by simp; omega
        have d3 : decide ((200 : Int) < k) = true := by simp; omega
        clear h1 h2 hc hci
        go_enter Try.func25, Try.ntmps25
        go_wp2_with (go_at_call 64; refine (impl_common _ _ _ _ hs ht).mono ?_; rintro e w1 ⟨rfl, hb1⟩; rw [HCI.out])
        go_ret
        exact ⟨by rw [HF.out]; rfl, hb1⟩
    · have HF := Lib.hid (mayB_no (s := s) (t := t) (k := k) (q := (n : Int)) (fun h => h3 h.2.2.1))
      have HCI := Lib.hid hci
      have d1 : decide (((c : Nat) : Int) < 0) = false := by simp
      have d2 : decide (k < 0) = true := by simp; omega
      clear h1 h2 hc hci
      go_enter Try.func25, Try.ntmps25
      go_wp2_with (go_at_call 64; refine (impl_common _ _ _ _ hs ht).mono ?_; rintro e w1 ⟨rfl, hb1⟩; rw [HCI.out])
      go_ret
      exact ⟨by rw [HF.out]; rfl, hb1⟩
  · have HF := Lib.hid (mayB_no (s := s) (t := t) (k := k) (q := q) (fun h => hg ⟨h.1, h.2.1⟩))
    have HCI := Lib.hid (comI_else hg)
    clear hg
    go_enter Try.func25, Try.ntmps25
    go_wp2_with (go_at_call 64; refine (impl_common _ _ _ _ hs ht).mono ?_; rintro e w1 ⟨rfl, hb1⟩; rw [HCI.out])
    go_ret
    exact ⟨by rw [HF.out]; rfl, hb1⟩
end Go.Proofs.Ytpniiaemgobaiab

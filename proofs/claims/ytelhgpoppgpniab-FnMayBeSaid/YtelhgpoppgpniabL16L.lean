/-
  Chapter 16's model: whether two texts may be near; FnExactCommon and FnExactMayBe: the walks (by wip/tools/mk_maybe.py).
-/
import Derived.Test.YtelhgpoppgpniabL16P
namespace Go.Proofs.Ytelhgpoppgpniab
open Go.RowKit
set_option linter.unusedVariables false
set_option maxRecDepth 100000
set_option maxHeartbeats 4000000 in
theorem spec_l16MayBe (s t : ByteArray) (k : Int) (n : Nat) (w : World) (h1 : gramOk s (n : Int) = true) (h2 : gramOk t (n : Int) = true) (h3 : 0 ≤ k) (h4 : k ≤ 200) :
    Calls Try.prog 87 #[.string s, .string t, .int .i64 k, .int .i64 (n : Int)] w fun e w' => e = .returned (.bool (mayB s t k (n : Int))) ∧ Below w.heap.size w w' := by
        obtain ⟨a1, a2, a3⟩ := gramOk_iff.1 h1
        obtain ⟨_, _, a4⟩ := gramOk_iff.1 h2
        have hn1 : 1 ≤ n := by omega
        have hn2 : n ≤ 10 := by omega
        have hci := comI_yes h1 h2
        have hcl := comN_le n s t hn1
        have hcc := comL_gramsS hn1 s t
        obtain ⟨c, hc⟩ : ∃ c, comN n s t = c := ⟨_, rfl⟩
        rw [hc] at hci hcl hcc
        have HC := Lib.hid hcc
        obtain ⟨m1, m2⟩ := mul_bnd h3 h4 a1 a2
        obtain ⟨z, hz⟩ : ∃ z, k * (n : Int) = z := ⟨_, rfl⟩
        have hM := mayB_in h1 h2 h3 h4 hz hci
        rw [hz] at m1 m2
        have w4 : IntKind.i64.wrap (k * (n : Int)) = z := by rw [hz, IntKind.wrap_i64]; omega
        clear h1 h2 hc hci hcc
        by_cases hst : s.size ≤ t.size
        · have hmx : max s.size t.size = t.size := by omega
          have hmn : min s.size t.size = s.size := by omega
          rw [hmx, hmn] at hM
          have p1 : (s.size : Int) ≤ (t.size : Int) := by omega
          have w1 : IntKind.i64.wrap ((t.size : Int) - (s.size : Int)) = (t.size : Int) - (s.size : Int) := by rw [IntKind.wrap_i64]; omega
          have w2 : IntKind.i64.wrap ((t.size : Int) - (n : Int)) = (t.size : Int) - (n : Int) := by rw [IntKind.wrap_i64]; omega
          have w3 : IntKind.i64.wrap ((t.size : Int) - (n : Int) + 1) = (t.size : Int) - (n : Int) + 1 := by rw [IntKind.wrap_i64]; omega
          have w5 : IntKind.i64.wrap ((t.size : Int) - (n : Int) + 1 - z) = (t.size : Int) - (n : Int) + 1 - z := by rw [IntKind.wrap_i64]; omega
          have w6 : IntKind.i64.wrap ((s.size : Int) - (t.size : Int)) = (s.size : Int) - (t.size : Int) := by rw [IntKind.wrap_i64]; omega
          have g9 : decide (k < (s.size : Int) - (t.size : Int)) = false := by simp; omega
          have x1 : max (s.size : Int) (t.size : Int) = (t.size : Int) := by omega
          have x2 : min (s.size : Int) (t.size : Int) = (s.size : Int) := by omega
          clear hmx hmn hz
          by_cases b1 : (t.size : Int) - (s.size : Int) ≤ k
          · have g1 : decide ((t.size : Int) - (s.size : Int) ≤ k) = true := decide_eq_true b1
            have g8 : decide (k < (t.size : Int) - (s.size : Int)) = false := by simp; omega
            by_cases b2 : (t.size : Int) - (n : Int) + 1 - z ≤ (c : Int)
            · have g2 : decide ((t.size : Int) - (n : Int) + 1 - z ≤ (c : Int)) = true := decide_eq_true b2
              have HF : Hid (mayB s t k (n : Int) = true) := Lib.hid (by rw [hM, g1, g2]; rfl)
              clear hM
              go_enter Try.func87, Try.ntmps87
              go_wp2_with fail
              refine (spec_l16Grams s n _ a3 hn1 hn2).mono ?_
              rintro e w2 ⟨a, ca, rfl, hO1, hb1⟩
              go_wp2_with fail
              refine (spec_l16Grams t n _ a4 hn1 hn2).mono ?_
              rintro e w3 ⟨b, cb, rfl, hO2, hb2⟩
              have hB := below_step hb1 hb2
              go_wp2_with fail
              refine (spec_l16Common (gramsS n s) (gramsS n t) _ _ _ _ _ _ _ (hO1.kept hb2).vals hO2.vals (gramsS_length n s) (gramsS_length n t) (by omega) (by omega)).mono ?_
              rintro e w4 ⟨rfl, hb3⟩
              rw [HC.out]
              have hB2 := below_step hB hb3
              clear hb1 hb2 hb3 hO1 hO2 hB
              go_wp2
              go_ret
              exact ⟨by rw [HF.out]; rfl, hB2⟩
            · have g2 : decide ((t.size : Int) - (n : Int) + 1 - z ≤ (c : Int)) = false := decide_eq_false b2
              have HF : Hid (mayB s t k (n : Int) = false) := Lib.hid (by rw [hM, g1, g2]; rfl)
              clear hM
              go_enter Try.func87, Try.ntmps87
              go_wp2_with fail
              refine (spec_l16Grams s n _ a3 hn1 hn2).mono ?_
              rintro e w2 ⟨a, ca, rfl, hO1, hb1⟩
              go_wp2_with fail
              refine (spec_l16Grams t n _ a4 hn1 hn2).mono ?_
              rintro e w3 ⟨b, cb, rfl, hO2, hb2⟩
              have hB := below_step hb1 hb2
              go_wp2_with fail
              refine (spec_l16Common (gramsS n s) (gramsS n t) _ _ _ _ _ _ _ (hO1.kept hb2).vals hO2.vals (gramsS_length n s) (gramsS_length n t) (by omega) (by omega)).mono ?_
              rintro e w4 ⟨rfl, hb3⟩
              rw [HC.out]
              have hB2 := below_step hB hb3
              clear hb1 hb2 hb3 hO1 hO2 hB
              go_wp2
              go_ret
              exact ⟨by rw [HF.out]; rfl, hB2⟩
          · have g1 : decide ((t.size : Int) - (s.size : Int) ≤ k) = false := decide_eq_false b1
            have g8 : decide (k < (t.size : Int) - (s.size : Int)) = true := by simp; omega
            have HF : Hid (mayB s t k (n : Int) = false) := Lib.hid (by rw [hM, g1]; rfl)
            clear hM
            go_enter Try.func87, Try.ntmps87
            go_wp2
            go_ret
            exact ⟨by rw [HF.out]; rfl, Below.refl _ _⟩
        · have hts : t.size ≤ s.size := by omega
          have hmx : max s.size t.size = s.size := by omega
          have hmn : min s.size t.size = t.size := by omega
          rw [hmx, hmn] at hM
          have p2 : (t.size : Int) ≤ (s.size : Int) := by omega
          by_cases heq : s.size = t.size
          · exact absurd (Nat.le_of_eq heq) hst
          have p1 : ¬ (s.size : Int) ≤ (t.size : Int) := by omega
          have p3 : (t.size : Int) < (s.size : Int) := by omega
          have w1 : IntKind.i64.wrap ((s.size : Int) - (t.size : Int)) = (s.size : Int) - (t.size : Int) := by rw [IntKind.wrap_i64]; omega
          have w2 : IntKind.i64.wrap ((s.size : Int) - (n : Int)) = (s.size : Int) - (n : Int) := by rw [IntKind.wrap_i64]; omega
          have w3 : IntKind.i64.wrap ((s.size : Int) - (n : Int) + 1) = (s.size : Int) - (n : Int) + 1 := by rw [IntKind.wrap_i64]; omega
          have w5 : IntKind.i64.wrap ((s.size : Int) - (n : Int) + 1 - z) = (s.size : Int) - (n : Int) + 1 - z := by rw [IntKind.wrap_i64]; omega
          have w6 : IntKind.i64.wrap ((t.size : Int) - (s.size : Int)) = (t.size : Int) - (s.size : Int) := by rw [IntKind.wrap_i64]; omega
          have g9 : decide (k < (t.size : Int) - (s.size : Int)) = false := by simp; omega
          have x1 : max (s.size : Int) (t.size : Int) = (s.size : Int) := by omega
          have x2 : min (s.size : Int) (t.size : Int) = (t.size : Int) := by omega
          clear hmx hmn hz
          by_cases b1 : (s.size : Int) - (t.size : Int) ≤ k
          · have g1 : decide ((s.size : Int) - (t.size : Int) ≤ k) = true := decide_eq_true b1
            have g8 : decide (k < (s.size : Int) - (t.size : Int)) = false := by simp; omega
            by_cases b2 : (s.size : Int) - (n : Int) + 1 - z ≤ (c : Int)
            · have g2 : decide ((s.size : Int) - (n : Int) + 1 - z ≤ (c : Int)) = true := decide_eq_true b2
              have HF : Hid (mayB s t k (n : Int) = true) := Lib.hid (by rw [hM, g1, g2]; rfl)
              clear hM
              go_enter Try.func87, Try.ntmps87
              go_wp2_with fail
              refine (spec_l16Grams s n _ a3 hn1 hn2).mono ?_
              rintro e w2 ⟨a, ca, rfl, hO1, hb1⟩
              go_wp2_with fail
              refine (spec_l16Grams t n _ a4 hn1 hn2).mono ?_
              rintro e w3 ⟨b, cb, rfl, hO2, hb2⟩
              have hB := below_step hb1 hb2
              go_wp2_with fail
              refine (spec_l16Common (gramsS n s) (gramsS n t) _ _ _ _ _ _ _ (hO1.kept hb2).vals hO2.vals (gramsS_length n s) (gramsS_length n t) (by omega) (by omega)).mono ?_
              rintro e w4 ⟨rfl, hb3⟩
              rw [HC.out]
              have hB2 := below_step hB hb3
              clear hb1 hb2 hb3 hO1 hO2 hB
              go_wp2
              go_ret
              exact ⟨by rw [HF.out]; rfl, hB2⟩
            · have g2 : decide ((s.size : Int) - (n : Int) + 1 - z ≤ (c : Int)) = false := decide_eq_false b2
              have HF : Hid (mayB s t k (n : Int) = false) := Lib.hid (by rw [hM, g1, g2]; rfl)
              clear hM
              go_enter Try.func87, Try.ntmps87
              go_wp2_with fail
              refine (spec_l16Grams s n _ a3 hn1 hn2).mono ?_
              rintro e w2 ⟨a, ca, rfl, hO1, hb1⟩
              go_wp2_with fail
              refine (spec_l16Grams t n _ a4 hn1 hn2).mono ?_
              rintro e w3 ⟨b, cb, rfl, hO2, hb2⟩
              have hB := below_step hb1 hb2
              go_wp2_with fail
              refine (spec_l16Common (gramsS n s) (gramsS n t) _ _ _ _ _ _ _ (hO1.kept hb2).vals hO2.vals (gramsS_length n s) (gramsS_length n t) (by omega) (by omega)).mono ?_
              rintro e w4 ⟨rfl, hb3⟩
              rw [HC.out]
              have hB2 := below_step hB hb3
              clear hb1 hb2 hb3 hO1 hO2 hB
              go_wp2
              go_ret
              exact ⟨by rw [HF.out]; rfl, hB2⟩
          · have g1 : decide ((s.size : Int) - (t.size : Int) ≤ k) = false := decide_eq_false b1
            have g8 : decide (k < (s.size : Int) - (t.size : Int)) = true := by simp; omega
            have HF : Hid (mayB s t k (n : Int) = false) := Lib.hid (by rw [hM, g1]; rfl)
            clear hM
            go_enter Try.func87, Try.ntmps87
            go_wp2
            go_ret
            exact ⟨by rw [HF.out]; rfl, Below.refl _ _⟩
set_option maxHeartbeats 2000000 in
theorem spec_mayBe (s t : ByteArray) (k q : Int) (w : World) (hs : s.size ≤ 1048576) (ht : t.size ≤ 1048576) :
    Calls Try.prog 42 #[.string s, .string t, .int .i64 k, .int .i64 q] w fun e w' => e = .returned (.bool (mayB s t k q)) ∧ Below w.heap.size w w' := by
  by_cases hg : gramOk s q = true ∧ gramOk t q = true
  · obtain ⟨h1, h2⟩ := hg
    have G1 := Lib.hid h1; have G2 := Lib.hid h2
    obtain ⟨a1, a2, a3⟩ := gramOk_iff.1 h1
    obtain ⟨n, rfl⟩ : ∃ n : Nat, q = (n : Int) := ⟨q.toNat, by omega⟩
    by_cases hk : 0 ≤ k ∧ k ≤ 200
    · have HI := Lib.hid (inB_yes hk)
      obtain ⟨h3, h4⟩ := hk
      clear h1 h2
      go_enter Try.func42, Try.ntmps42
      go_wp2_with (first
        | (go_at_call 84; first | (with_reducible refine (spec_l16Ok s _ _ hs).mono ?_; rintro e w1 ⟨rfl, rfl⟩; rw [G1.out]) | (with_reducible refine (spec_l16Ok t _ _ ht).mono ?_; rintro e w1 ⟨rfl, rfl⟩; rw [G2.out]))
        | (go_at_call 64; refine (spec_l1In _ _ _ _).mono ?_; rintro e w1 ⟨rfl, rfl⟩; rw [HI.out])
        | (go_at_call 87; refine (spec_l16MayBe s t k n _ G1.out G2.out h3 h4).mono ?_; rintro e w1 ⟨rfl, hb1⟩))
      go_ret
      exact ⟨rfl, hb1⟩
    · have HI := Lib.hid (inB_no hk)
      have HF := Lib.hid (mayB_no (s := s) (t := t) (k := k) (q := (n : Int)) (fun h => hk h.2.2))
      clear h1 h2 hk
      go_enter Try.func42, Try.ntmps42
      go_wp2_with (first
        | (go_at_call 84; first | (with_reducible refine (spec_l16Ok s _ _ hs).mono ?_; rintro e w1 ⟨rfl, rfl⟩; rw [G1.out]) | (with_reducible refine (spec_l16Ok t _ _ ht).mono ?_; rintro e w1 ⟨rfl, rfl⟩; rw [G2.out]))
        | (go_at_call 64; refine (spec_l1In _ _ _ _).mono ?_; rintro e w1 ⟨rfl, rfl⟩; rw [HI.out]))
      go_ret
      exact ⟨by rw [HF.out]; rfl, Below.refl _ _⟩
  · have HF := Lib.hid (mayB_no (s := s) (t := t) (k := k) (q := q) (fun h => hg ⟨h.1, h.2.1⟩))
    rcases comI_no s t q hg with h1 | ⟨h1, h2⟩
    · have G1 := Lib.hid h1
      clear hg h1
      go_enter Try.func42, Try.ntmps42
      go_wp2_with (go_at_call 84; refine (spec_l16Ok s _ _ hs).mono ?_; rintro e w1 ⟨rfl, rfl⟩; rw [G1.out])
      go_ret
      exact ⟨by rw [HF.out]; rfl, Below.refl _ _⟩
    · have G1 := Lib.hid h1; have G2 := Lib.hid h2
      clear hg h1 h2
      go_enter Try.func42, Try.ntmps42
      go_wp2_with fail
      refine (spec_l16Ok s _ _ hs).mono ?_
      rintro e w1 ⟨rfl, rfl⟩
      rw [G1.out]
      go_wp2_with fail
      refine (spec_l16Ok t _ _ ht).mono ?_
      rintro e w1 ⟨rfl, rfl⟩
      rw [G2.out]
      go_wp2
      go_ret
      exact ⟨by rw [HF.out]; rfl, Below.refl _ _⟩
end Go.Proofs.Ytelhgpoppgpniab

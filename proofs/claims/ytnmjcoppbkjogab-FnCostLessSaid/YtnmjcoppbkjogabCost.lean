/-
  FnCost and FnCostLess: the walks.
-/
import Derived.Test.YtnmjcoppbkjogabL18Cost
import Derived.Test.YtnmjcoppbkjogabL3Dist
import Derived.Test.YtnmjcoppbkjogabDistFacts
namespace Go.Proofs.Ytnmjcoppbkjogab
open Go.RowKit
set_option linter.unusedVariables false
set_option maxRecDepth 100000
theorem costArg_iff {s r : ByteArray} {p d t : Int} : costArgB s r p d t = true ↔ s.size ≤ 200 ∧ r.size ≤ 200 ∧ (0 ≤ p ∧ p ≤ 1000) ∧ (0 ≤ d ∧ d ≤ 1000) ∧ (0 ≤ t ∧ t ≤ 1000) := by
  unfold costArgB
  simp only [Bool.and_eq_true, decide_eq_true_eq, inB_iff]
  constructor
  · rintro ⟨⟨⟨⟨a, b⟩, c⟩, e⟩, f⟩; exact ⟨a, b, c, e, f⟩
  · rintro ⟨a, b, c, e, f⟩; exact ⟨⟨⟨⟨a, b⟩, c⟩, e⟩, f⟩
theorem costI_symm (s r : ByteArray) (p d t : Int) : costI r s d p t = costI s r p d t := by
  have h : costArgB r s d p t = costArgB s r p d t := by
    rw [Bool.eq_iff_iff, costArg_iff, costArg_iff]
    constructor
    · rintro ⟨a, b, c, e, f⟩; exact ⟨b, a, e, c, f⟩
    · rintro ⟨a, b, c, e, f⟩; exact ⟨b, a, e, c, f⟩
  unfold costI
  rw [h, cst_symm]
theorem costI_bnd {s r : ByteArray} {p d t : Int} (h : costArgB s r p d t = true) : 0 ≤ costI s r p d t ∧ costI s r p d t ≤ 1000 * ((r.size : Int) + s.size) ∧ costI s r p d t ≤ p * (r.size : Int) + d * (s.size : Int) := by
  obtain ⟨h1, h2, hp, hd, ht⟩ := costArg_iff.1 h
  rw [costI_yes h]
  have a := cst_bnd s r hp.1 hd.1 ht.1 hp.2 hd.2 r.size s.size
  exact ⟨a.1, a.2, cst_above s r p d t r.size s.size⟩
theorem costI_dist {s r : ByteArray} (h1 : s.size ≤ 200) (h2 : r.size ≤ 200) : costI s r 1 1 1 = distI s r false := by
  rw [costI_yes (costArg_iff.2 ⟨h1, h2, by decide, by decide, by decide⟩), distI_yes ⟨h1, h2⟩]
  show cstAt s r 1 1 1 r.size s.size = colAt s r 1 r.size s.size
  refine cst_pair (M := fun k i => cstAt s r 1 1 1 k i = colAt s r 1 k i) ?_ ?_ ?_ ?_ r.size s.size
  · rw [cst_first, colAt_first0]; rfl
  · intro i h; rw [cst_first, colAt_first0]; omega
  · intro k h; rw [colAt_next0, ← h]; simp only [cstAt]
  · intro k i a b c
    rw [colAt_step, ← a, ← b, ← c]
    simp only [cstAt]
    have : tuI 1 (byteAt s i) (byteAt r k) = (df (byteAt s i) (byteAt r k) : Nat) := by unfold tuI df; split <;> rfl
    rw [this]
theorem costI_three {s r : ByteArray} {p d t : Int} (h : costArgB s r p d t = true) (hp : p ≤ 100) (hd : d ≤ 100) (ht : t ≤ 100) : costI s r (3 * p) (3 * d) (3 * t) = 3 * costI s r p d t := by
  obtain ⟨h1, h2, a, b, c⟩ := costArg_iff.1 h
  rw [costI_yes h, costI_yes (costArg_iff.2 ⟨h1, h2, by omega, by omega, by omega⟩), cst_three]
theorem costI_self {s r : ByteArray} {p d t : Int} (h : costArgB s r p d t = true) : costI s s p d t = 0 := by
  obtain ⟨h1, h2, a, b, c⟩ := costArg_iff.1 h
  rw [costI_yes (costArg_iff.2 ⟨h1, h1, a, b, c⟩)]
  have := cst_self s p d t s.size
  have := (cst_bnd s s a.1 b.1 c.1 a.2 b.2 s.size s.size).1
  omega
theorem costI_more {s r : ByteArray} {p d t : Int} (h : costArgB s r p d t = true) (hp : p ≤ 900) (hd : d ≤ 900) (ht : t ≤ 900) : costI s r p d t ≤ costI s r (p + 1) (d + 1) (t + 1) ∧ costI s r (p + 1) (d + 1) (t + 1) ≤ costI s r p d t + ((s.size : Int) + r.size) := by
  obtain ⟨h1, h2, a, b, c⟩ := costArg_iff.1 h
  rw [costI_yes h, costI_yes (costArg_iff.2 ⟨h1, h2, by omega, by omega, by omega⟩)]
  have := cst_more s r p d t r.size s.size
  omega
theorem drawCostOf (a : Option Addr) (len cap : Nat) (z : List Int) (w : World) (hr : IsRow .u8 w a len cap z) (hl : len ≤ 1048576) :
    Calls Try.prog 41 #[.slice a len cap] w fun e w' => ∃ (s t : ByteArray) (x y u : Int), e = .returned (.tuple #[.string s, .string t, .int .i64 x, .int .i64 y, .int .i64 u]) ∧ s.size ≤ 16 ∧ t.size ≤ 16 ∧ (-9223372036854775808 ≤ x ∧ x ≤ 9223372036854775807) ∧ (-9223372036854775808 ≤ y ∧ y ≤ 9223372036854775807) ∧ (-9223372036854775808 ≤ u ∧ u ≤ 9223372036854775807) ∧ Below w.heap.size w w' := by
  go_enter Try.func41, Try.ntmps41
  go_wp2_with fail
  refine (l1Open_any _ _ _ _ _ hr hl).mono ?_
  rintro e w1 ⟨rfl, hok, hb⟩
  go_wp2_with fail
  refine (rd_term _ _ _ _ _ _ hok 7 (by omega)).mono ?_
  rintro e w2 ⟨s, rfl, hs, hok2, hg2⟩
  go_wp2_with fail
  refine (rd_nearly _ _ _ _ _ _ hok2 s (by omega)).mono ?_
  rintro e w3 ⟨t, rfl, ht, hok3, hg3⟩
  go_wp2_with fail
  refine (rd_off _ _ _ _ _ _ hok3 _ _ (by omega) (by omega) (by omega) (by omega)).mono ?_
  rintro e w4 ⟨x, rfl, hx, hok4, hg4⟩
  go_wp2_with fail
  refine (rd_off _ _ _ _ _ _ hok4 _ _ (by omega) (by omega) (by omega) (by omega)).mono ?_
  rintro e w5 ⟨y, rfl, hy, hok5, hg5⟩
  go_wp2_with fail
  refine (rd_off _ _ _ _ _ _ hok5 _ _ (by omega) (by omega) (by omega) (by omega)).mono ?_
  rintro e w6 ⟨u, rfl, hu, hok6, hg6⟩
  have hg := grownBy_trans hg2 (grownBy_trans hg3 (grownBy_trans hg4 (grownBy_trans hg5 hg6)))
  go_wp2_with fail
  refine bodyPost_ret (v := .tuple #[.string s, .string t, .int .i64 x, .int .i64 y, .int .i64 u]) (by simp [results, Try.results41, go_sem]) rfl ?_
  exact ⟨_, _, _, _, _, rfl, by omega, by omega, hx, hy, hu, below_rd hb hg⟩
set_option maxHeartbeats 4000000 in
theorem law_FnCost (a : Option Addr) (len cap : Nat) (z : List Int) (w : World) (hr : IsRow .u8 w a len cap z) :
    Calls Try.prog 10 #[.slice a len cap] w fun e w' => e = .returned (.bool true) ∧ Below w.heap.size w w' := by
  by_cases hl : len ≤ 1048576
  · have hbig : decide (1048576 < (len : Int)) = false := by simp; omega
    go_enter Try.func10, Try.ntmps10
    go_wp2_with (go_at_call 35; refine (laws_big _ _ _ _ (by omega)).mono ?_; rintro e w' ⟨rfl, rfl⟩)
    refine (drawCostOf _ _ _ _ _ hr hl).mono ?_
    rintro e w1 ⟨s, r, p, d, t, rfl, hs, hr, hp, hd, ht, hb1⟩
    have HSY := costI_symm s r p d t
    cases hok : costArgB s r p d t
    · have hn := costI_no hok
      rw [hn] at HSY
      have HSY := Lib.hid HSY
      have HN := Lib.hid hn
      clear hn hok
      go_wp2_with fail
      refine (impl_costOf s r p d t _ (by omega) (by omega)).mono ?_
      rintro e w2 ⟨rfl, hb2⟩
      rw [HN.out]
      have hB2 := below_step hb1 hb2
      go_wp2_with fail
      refine (spec_costOf s r p d t _ (by omega) (by omega)).mono ?_
      rintro e w3 ⟨rfl, hb3⟩
      rw [HN.out]
      have hB3 := below_step hB2 hb3
      go_wp2_with fail
      refine (impl_costOf r s d p t _ (by omega) (by omega)).mono ?_
      rintro e w4 ⟨rfl, hb4⟩
      rw [HSY.out]
      have hB4 := below_step hB3 hb4
      clear hb1 hb2 hb3 hb4 hB2 hB3
      go_wp2_with fail
      refine (spec_costOf s r p d t _ (by omega) (by omega)).mono ?_
      rintro e w5 ⟨rfl, hb5⟩
      rw [HN.out]
      have hB5 := below_step hB4 hb5
      go_wp2_with fail
      go_ret
      exact ⟨rfl, hB5⟩
    · obtain ⟨n0, n1, n2⟩ := costI_bnd hok
      obtain ⟨_, _, ⟨p0, p1⟩, ⟨d0, d1⟩, ⟨t0, t1⟩⟩ := costArg_iff.1 hok
      have HTH := Lib.hid (costI_three hok)
      have HSE := Lib.hid (costI_self hok)
      have HDI := Lib.hid (costI_dist (s := s) (r := r) (by omega) (by omega))
      have HDB := dist_bnd s r false (by omega) (by omega)
      obtain ⟨n, hn⟩ : ∃ n, costI s r p d t = n := ⟨_, rfl⟩
      rw [hn] at HSY n0 n1 n2 HTH
      have HSY := Lib.hid HSY; have HN := Lib.hid hn
      have e0 : (n != n) = false := by simp
      have e4 : decide (n < 0) = false := by simpa using n0
      have n3 : n ≤ 32000 := by omega
      clear hn hok n1
      go_wp2_with fail
      refine (impl_costOf s r p d t _ (by omega) (by omega)).mono ?_
      rintro e w2 ⟨rfl, hb2⟩
      rw [HN.out]
      have hB2 := below_step hb1 hb2
      go_wp2_with fail
      refine (spec_costOf s r p d t _ (by omega) (by omega)).mono ?_
      rintro e w3 ⟨rfl, hb3⟩
      rw [HN.out]
      have hB3 := below_step hB2 hb3
      go_wp2_with fail
      refine (impl_costOf r s d p t _ (by omega) (by omega)).mono ?_
      rintro e w4 ⟨rfl, hb4⟩
      rw [HSY.out]
      have hB4 := below_step hB3 hb4
      clear hb1 hb2 hb3 hb4 hB2 hB3
      by_cases hp1 : p ≤ 100
      · by_cases hd1 : d ≤ 100
        · by_cases ht1 : t ≤ 100
          · have q1 : ¬ 100 < p := by omega
            have q2 : ¬ 100 < d := by omega
            have q3 : ¬ 100 < t := by omega
            have m1 : p * (r.size : Int) ≤ 100 * 16 := Int.mul_le_mul hp1 (by omega) (by omega) (by omega)
            have m2 : d * (s.size : Int) ≤ 100 * 16 := Int.mul_le_mul hd1 (by omega) (by omega) (by omega)
            have m3 : 0 ≤ p * (r.size : Int) := Int.mul_nonneg p0 (by omega)
            have m4 : 0 ≤ d * (s.size : Int) := Int.mul_nonneg d0 (by omega)
            obtain ⟨P, hP⟩ : ∃ P, p * (r.size : Int) = P := ⟨_, rfl⟩
            obtain ⟨D, hD⟩ : ∃ D, d * (s.size : Int) = D := ⟨_, rfl⟩
            rw [hP] at m1 m3 n2
            rw [hD] at m2 m4 n2
            have v1 : IntKind.i64.wrap (p * (r.size : Int)) = P := by rw [hP, IntKind.wrap_i64]; omega
            have v2 : IntKind.i64.wrap (d * (s.size : Int)) = D := by rw [hD, IntKind.wrap_i64]; omega
            have v3 : IntKind.i64.wrap (3 * p) = 3 * p := by rw [IntKind.wrap_i64]; omega
            have v4 : IntKind.i64.wrap (3 * d) = 3 * d := by rw [IntKind.wrap_i64]; omega
            have v5 : IntKind.i64.wrap (3 * t) = 3 * t := by rw [IntKind.wrap_i64]; omega
            have hT := HTH.out hp1 hd1 ht1
            obtain ⟨N3, hN3⟩ : ∃ N3, 3 * n = N3 := ⟨_, rfl⟩
            have v6 : IntKind.i64.wrap (3 * n) = N3 := by rw [IntKind.wrap_i64]; omega
            rw [hN3] at hT
            have HT := Lib.hid hT
            clear hN3 hT
            obtain ⟨dd, hdd⟩ : ∃ dd, distI s r false = dd := ⟨_, rfl⟩
            rw [hdd] at HDI
            have HDD := Lib.hid hdd
            have f1 : (dd == dd) = true := by simp
            have f2 : (N3 == N3) = true := by simp
            obtain ⟨S, hS⟩ : ∃ S, P + D = S := ⟨_, rfl⟩
            have v7 : IntKind.i64.wrap (P + D) = S := by rw [IntKind.wrap_i64]; omega
            have f3 : decide (n ≤ S) = true := by rw [hS] at n2; simpa using n2
            have f4 : n ≤ S := by rw [hS] at n2; exact n2
            clear hP hD HTH HDB hdd m1 m2 m3 m4 hS n2
            go_wp2_with fail
            refine (impl_costOf s r 1 1 1 _ (by omega) (by omega)).mono ?_
            rintro e w5 ⟨rfl, hb5⟩
            rw [HDI.out]
            have hB5 := below_step hB4 hb5
            go_wp2_with fail
            refine (impl_distance s r false _ (by omega) (by omega)).mono ?_
            rintro e w6 ⟨rfl, hb6⟩
            rw [HDD.out]
            have hB6 := below_step hB5 hb6
            go_wp2_with fail
            refine (impl_costOf s r (3 * p) (3 * d) (3 * t) _ (by omega) (by omega)).mono ?_
            rintro e w7 ⟨rfl, hb7⟩
            rw [HT.out]
            have hB7 := below_step hB6 hb7
            go_wp2_with fail
            refine (impl_costOf s s p d t _ (by omega) (by omega)).mono ?_
            rintro e w8 ⟨rfl, hb8⟩
            rw [HSE.out]
            have hB8 := below_step hB7 hb8
            clear hb5 hb6 hb7 hb8 hB4 hB5 hB6 hB7
            go_wp2_with fail
            go_ret
            exact ⟨rfl, hB8⟩
          · have q1 : ¬ 100 < p := by omega
            have q2 : ¬ 100 < d := by omega
            have q3 : 100 < t := by omega
            go_wp2_with fail
            go_ret
            exact ⟨rfl, hB4⟩
        · have q1 : ¬ 100 < p := by omega
          have q2 : 100 < d := by omega
          go_wp2_with fail
          go_ret
          exact ⟨rfl, hB4⟩
      · have q1 : 100 < p := by omega
        go_wp2_with fail
        go_ret
        exact ⟨rfl, hB4⟩
  · have hbig : decide (1048576 < (len : Int)) = true := by simp; omega
    go_enter Try.func10, Try.ntmps10
    go_wp2_with (go_at_call 35; go_in)
    go_ret
    exact ⟨rfl, Below.refl _ _⟩
set_option maxHeartbeats 4000000 in
theorem law_FnCostLess (a : Option Addr) (len cap : Nat) (z : List Int) (w : World) (hr : IsRow .u8 w a len cap z) :
    Calls Try.prog 11 #[.slice a len cap] w fun e w' => e = .returned (.bool true) ∧ Below w.heap.size w w' := by
  by_cases hl : len ≤ 1048576
  · have hbig : decide (1048576 < (len : Int)) = false := by simp; omega
    go_enter Try.func11, Try.ntmps11
    go_wp2_with (go_at_call 35; refine (laws_big _ _ _ _ (by omega)).mono ?_; rintro e w' ⟨rfl, rfl⟩)
    refine (drawCostOf _ _ _ _ _ hr hl).mono ?_
    rintro e w1 ⟨s, r, p, d, t, rfl, hs, hr, hp, hd, ht, hb1⟩
    cases hok : costArgB s r p d t
    · have hn := costI_no hok
      have HN := Lib.hid hn
      clear hn hok
      go_wp2_with fail
      refine (impl_costOf s r p d t _ (by omega) (by omega)).mono ?_
      rintro e w2 ⟨rfl, hb2⟩
      rw [HN.out]
      have hB2 := below_step hb1 hb2
      go_wp2_with fail
      refine (spec_costOf s r p d t _ (by omega) (by omega)).mono ?_
      rintro e w3 ⟨rfl, hb3⟩
      rw [HN.out]
      have hB3 := below_step hB2 hb3
      clear hb1 hb2 hb3 hB2
      go_wp2_with fail
      refine (spec_costOf s r p d t _ (by omega) (by omega)).mono ?_
      rintro e w5 ⟨rfl, hb5⟩
      rw [HN.out]
      have hB5 := below_step hB3 hb5
      go_wp2_with fail
      go_ret
      exact ⟨rfl, hB5⟩
    · obtain ⟨n0, n1, n2⟩ := costI_bnd hok
      obtain ⟨_, _, ⟨p0, p1⟩, ⟨d0, d1⟩, ⟨t0, t1⟩⟩ := costArg_iff.1 hok
      have HMO := Lib.hid (costI_more hok)
      obtain ⟨n, hn⟩ : ∃ n, costI s r p d t = n := ⟨_, rfl⟩
      rw [hn] at n0 n1 HMO
      have HN := Lib.hid hn
      have e0 : (n != n) = false := by simp
      have e00 : (n == n) = true := by simp
      have e4 : decide (n < 0) = false := by simpa using n0
      have n3 : n ≤ 32000 := by omega
      clear hn hok n1 n2
      go_wp2_with fail
      refine (impl_costOf s r p d t _ (by omega) (by omega)).mono ?_
      rintro e w2 ⟨rfl, hb2⟩
      rw [HN.out]
      have hB2 := below_step hb1 hb2
      go_wp2_with fail
      refine (spec_costOf s r p d t _ (by omega) (by omega)).mono ?_
      rintro e w3 ⟨rfl, hb3⟩
      rw [HN.out]
      have hB3 := below_step hB2 hb3
      clear hb1 hb2 hb3 hB2
      by_cases hp1 : p ≤ 900
      · by_cases hd1 : d ≤ 900
        · by_cases ht1 : t ≤ 900
          · have q1 : ¬ 900 < p := by omega
            have q2 : ¬ 900 < d := by omega
            have q3 : ¬ 900 < t := by omega
            obtain ⟨k1, k2⟩ := HMO.out hp1 hd1 ht1
            obtain ⟨m, hm⟩ : ∃ m, costI s r (p + 1) (d + 1) (t + 1) = m := ⟨_, rfl⟩
            rw [hm] at k1 k2
            have HM := Lib.hid hm
            have f1 : decide (n ≤ m) = true := by simpa using k1
            have f2 : decide (m ≤ n + ((s.size : Int) + (r.size : Int))) = true := by simpa using k2
            clear hm HMO
            go_wp2_with fail
            refine (impl_costOf s r (p + 1) (d + 1) (t + 1) _ (by omega) (by omega)).mono ?_
            rintro e w5 ⟨rfl, hb5⟩
            rw [HM.out]
            have hB5 := below_step hB3 hb5
            clear hb5 hB3
            go_wp2_with fail
            go_ret
            exact ⟨rfl, hB5⟩
          · have q1 : ¬ 900 < p := by omega
            have q2 : ¬ 900 < d := by omega
            have q3 : 900 < t := by omega
            go_wp2_with fail
            refine (spec_costOf s r p d t _ (by omega) (by omega)).mono ?_
            rintro e w5 ⟨rfl, hb5⟩
            rw [HN.out]
            have hB5 := below_step hB3 hb5
            go_wp2_with fail
            go_ret
            exact ⟨rfl, hB5⟩
        · have q1 : ¬ 900 < p := by omega
          have q2 : 900 < d := by omega
          go_wp2_with fail
          refine (spec_costOf s r p d t _ (by omega) (by omega)).mono ?_
          rintro e w5 ⟨rfl, hb5⟩
          rw [HN.out]
          have hB5 := below_step hB3 hb5
          go_wp2_with fail
          go_ret
          exact ⟨rfl, hB5⟩
      · have q1 : 900 < p := by omega
        go_wp2_with fail
        refine (spec_costOf s r p d t _ (by omega) (by omega)).mono ?_
        rintro e w5 ⟨rfl, hb5⟩
        rw [HN.out]
        have hB5 := below_step hB3 hb5
        go_wp2_with fail
        go_ret
        exact ⟨rfl, hB5⟩
  · have hbig : decide (1048576 < (len : Int)) = true := by simp; omega
    go_enter Try.func11, Try.ntmps11
    go_wp2_with (go_at_call 35; go_in)
    go_ret
    exact ⟨rfl, Below.refl _ _⟩
end Go.Proofs.Ytnmjcoppbkjogab

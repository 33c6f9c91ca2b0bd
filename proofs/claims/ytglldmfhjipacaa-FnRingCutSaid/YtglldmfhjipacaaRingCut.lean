/-
  FnRingCut: the walk.
-/
import Derived.Test.YtglldmfhjipacaaL10Draw2
namespace Go.Proofs.Ytglldmfhjipacaa
open Go.RowKit
set_option linter.unusedVariables false
set_option maxRecDepth 100000
/-- what is cut of a right ring, in two pieces and ahead of what is kept -/
theorem cut_facts {y e x1 x2 : Int} {d : ByteArray} (h : rcB y e d x1 x2 = true) (len : Nat) : ∃ X n q : Nat, x1 = (X : Int) ∧ x2 = (X : Int) + (n : Int) ∧ 0 ≤ e ∧ e ≤ 1000000 ∧ X + n ≤ 1000000 ∧ len % (n + 1) = q ∧ q ≤ n ∧ (rcD y e d x1 x2).size = n ∧
    rcB y e d X ((X : Int) + (q : Int)) = true ∧ rcB y e d ((X : Int) + (q : Int)) ((X : Int) + (n : Int)) = true ∧ rcD y e d X ((X : Int) + (q : Int)) ++ rcD y e d ((X : Int) + (q : Int)) ((X : Int) + (n : Int)) = rcD y e d x1 x2 ∧
    rcB y e d (e - d.size - 1) e = false ∧ n ≤ 200 := by
  have h0 := h
  unfold rcB at h
  simp only [Bool.and_eq_true, decide_eq_true_eq] at h
  obtain ⟨hr, h1, h2, h3⟩ := h
  obtain ⟨r0, r1, r2, r3, r4, r5⟩ := (ringB_iff _ _ _).1 hr
  obtain ⟨X, rfl⟩ := Int.eq_ofNat_of_zero_le (show 0 ≤ x1 by omega)
  obtain ⟨n, rfl⟩ : ∃ n : Nat, x2 = (X : Int) + (n : Int) := ⟨(x2 - X).toNat, by omega⟩
  obtain ⟨E, rfl⟩ := Int.eq_ofNat_of_zero_le r2
  obtain ⟨q, hq⟩ : ∃ q, len % (n + 1) = q := ⟨_, rfl⟩
  have hqn : q ≤ n := by have := Nat.mod_lt len (show 0 < n + 1 by omega); omega
  have b1 : rcB y E d X ((X : Int) + (q : Int)) = true := by unfold rcB; rw [hr]; simp; omega
  have b2 : rcB y E d ((X : Int) + (q : Int)) ((X : Int) + (n : Int)) = true := by unfold rcB; rw [hr]; simp; omega
  have b3 : rcB y E d ((E : Int) - d.size - 1) E = false := by unfold rcB; rw [hr]; simp; omega
  obtain ⟨p, hp⟩ : ∃ p, X - (E - d.size) = p := ⟨_, rfl⟩
  have hpn : p + n ≤ d.size := by omega
  have e1 : rcD y E d X ((X : Int) + (n : Int)) = d.extract p (p + n) := by
    unfold rcD; rw [h0]; simp only [if_true]; congr 1 <;> omega
  have e2 : rcD y E d X ((X : Int) + (q : Int)) = d.extract p (p + q) := by
    unfold rcD; rw [b1]; simp only [if_true]; congr 1 <;> omega
  have e3 : rcD y E d ((X : Int) + (q : Int)) ((X : Int) + (n : Int)) = d.extract (p + q) (p + n) := by
    unfold rcD; rw [b2]; simp only [if_true]; congr 1 <;> omega
  refine ⟨X, n, q, rfl, rfl, by omega, by omega, by omega, hq, hqn, ?_, b1, b2, ?_, b3, by omega⟩
  · rw [e1, ByteArray.size_extract]; omega
  · rw [e1, e2, e3, ByteArray.extract_append_extract]; congr 1 <;> omega
set_option maxHeartbeats 4000000 in
theorem law_FnRingCut (a : Option Addr) (len cap : Nat) (z : List Int) (w : World) (hr : IsRow .u8 w a len cap z) :
    Calls Try.prog 4 #[.slice a len cap] w fun e w' => e = .returned (.bool true) ∧ Below w.heap.size w w' := by
  by_cases hl : len ≤ 1048576
  · have hbig : decide (1048576 < (len : Int)) = false := by simp; omega
    go_enter Try.func4, Try.ntmps4
    go_wp2_with (go_at_call 15; refine (laws_big _ _ _ _ (by omega)).mono ?_; rintro e w' ⟨rfl, rfl⟩)
    refine (drawRingCut _ _ _ _ _ hr hl).mono ?_
    rintro r w1 ⟨y, e, d, x1, x2, rfl, hF, hb1⟩
    have hd : d.size ≤ 1048576 := by have := hF.2.2; omega
    have he := Lib.hid (wf_i64 hF.2.1)
    cases hB : rcB y e d x1 x2
    · have hD := rcB_no hB
      have HI := Lib.hid (fun w => impl_ringCut y e x1 x2 d w hd)
      have HS := Lib.hid (fun w => spec_ringCut y e x1 x2 d w hd he.out)
      rw [hB, hD] at HI HS
      clear hB hD hF
      go_wp2_with fail
      have rB := heap_alloc_new w1 (.cells #[.int .i64 y, .int .i64 e, .string d] 25)
      have HB := hb1.alloc hb1.size (.cells #[.int .i64 y, .int .i64 e, .string d] 25)
      have z1 : w1.heap.size < (w1.alloc (.cells #[.int .i64 y, .int .i64 e, .string d] 25)).heap.size := by simp
      generalize w1.alloc (.cells #[.int .i64 y, .int .i64 e, .string d] 25) = w2 at *
      generalize w1.heap.size = X at *
      clear hb1
      refine (HI.out _).mono ?_
      rintro r w3 ⟨rfl, hb3⟩
      replace rB := (hb3.block X z1).trans rB
      replace HB := HB.trans (hb3.mono HB.size)
      obtain ⟨x0, x1', x2'⟩ := box3r rB
      go_wp2_with fail
      refine (HS.out _).mono ?_
      rintro r w4 ⟨rfl, hb4⟩
      replace HB := HB.trans (hb4.mono HB.size)
      go_wp2_with fail
      go_ret
      exact ⟨rfl, HB⟩
    · obtain ⟨X, n, q, rfl, rfl, he0, he1, hXn, hq, hqn, hsz, b1, b2, hcat, b3, hn200⟩ := cut_facts hB len
      have hb3 := rcB_no b3
      have HI := Lib.hid (fun w => impl_ringCut y e X ((X : Int) + (n : Int)) d w hd)
      have HS := Lib.hid (fun w => spec_ringCut y e X ((X : Int) + (n : Int)) d w hd he.out)
      have H1 := Lib.hid (fun w => impl_ringCut y e X ((X : Int) + (q : Int)) d w hd)
      have H2 := Lib.hid (fun w => impl_ringCut y e ((X : Int) + (q : Int)) ((X : Int) + (n : Int)) d w hd)
      have H3 := Lib.hid (fun w => impl_ringCut y e (e - d.size - 1) e d w hd)
      rw [hB] at HI HS
      rw [b1] at H1
      rw [b2] at H2
      rw [b3, hb3] at H3
      obtain ⟨S, hS⟩ : ∃ S, rcD y e d X ((X : Int) + (n : Int)) = S := ⟨_, rfl⟩
      obtain ⟨S1, hS1⟩ : ∃ S, rcD y e d X ((X : Int) + (q : Int)) = S := ⟨_, rfl⟩
      obtain ⟨S2, hS2⟩ : ∃ S, rcD y e d ((X : Int) + (q : Int)) ((X : Int) + (n : Int)) = S := ⟨_, rfl⟩
      rw [hS] at HI HS hsz hcat
      rw [hS1] at H1 hcat
      rw [hS2] at H2 hcat
      have hs12 : S1.size + S2.size = n := by rw [← hsz, ← hcat]; simp
      have hs1 : S1.size ≤ 200 := by omega
      have hs2 : S2.size ≤ 200 := by omega
      have hd2 : d.size ≤ 200 := hF.2.2
      have hmod : ((len : Int)).tmod ((n : Int) + 1) = (q : Int) := by rw [Int.tmod_eq_emod_of_nonneg (by omega), ← hq]; simp
      have hnz : ¬ ((n : Int) + 1 = 0) := by omega
      have hxn : (X : Int) + (n : Int) - (X : Int) = (n : Int) := by omega
      have hwn : IntKind.i64.wrap ((X : Int) + (n : Int) - (X : Int)) = (n : Int) := by rw [IntKind.wrap_i64]; omega
      clear hB b1 b2 b3 hb3 hS hS1 hS2 hF hq hs12
      go_wp2_with fail
      have rB := heap_alloc_new w1 (.cells #[.int .i64 y, .int .i64 e, .string d] 25)
      have HB := hb1.alloc hb1.size (.cells #[.int .i64 y, .int .i64 e, .string d] 25)
      have z1 : w1.heap.size < (w1.alloc (.cells #[.int .i64 y, .int .i64 e, .string d] 25)).heap.size := by simp
      generalize w1.alloc (.cells #[.int .i64 y, .int .i64 e, .string d] 25) = w2 at *
      generalize w1.heap.size = B at *
      clear hb1
      refine (HI.out _).mono ?_
      rintro r w3 ⟨rfl, hb3⟩
      replace rB := (hb3.block B z1).trans rB
      replace HB := HB.trans (hb3.mono HB.size)
      replace z1 := Nat.lt_of_lt_of_le z1 hb3.size
      obtain ⟨x0, x1', x2'⟩ := box3r rB
      go_wp2_with fail
      refine (HS.out _).mono ?_
      rintro r w4 ⟨rfl, hb4⟩
      replace rB := (hb4.block B z1).trans rB
      replace HB := HB.trans (hb4.mono HB.size)
      replace z1 := Nat.lt_of_lt_of_le z1 hb4.size
      obtain ⟨x0, x1', x2'⟩ := box3r rB
      go_wp2_with fail
      refine (H1.out _).mono ?_
      rintro r w5 ⟨rfl, hb5⟩
      replace rB := (hb5.block B z1).trans rB
      replace HB := HB.trans (hb5.mono HB.size)
      replace z1 := Nat.lt_of_lt_of_le z1 hb5.size
      obtain ⟨x0, x1', x2'⟩ := box3r rB
      go_wp2_with fail
      refine (H2.out _).mono ?_
      rintro r w6 ⟨rfl, hb6⟩
      replace rB := (hb6.block B z1).trans rB
      replace HB := HB.trans (hb6.mono HB.size)
      replace z1 := Nat.lt_of_lt_of_le z1 hb6.size
      obtain ⟨x0, x1', x2'⟩ := box3r rB
      go_wp2_with fail
      refine (H3.out _).mono ?_
      rintro r w7 ⟨rfl, hb7⟩
      replace HB := HB.trans (hb7.mono HB.size)
      go_wp2_with fail
      go_ret
      exact ⟨rfl, HB⟩
  · have hbig : decide (1048576 < (len : Int)) = true := by simp; omega
    go_enter Try.func4, Try.ntmps4
    go_wp2_with (go_at_call 15; go_in)
    go_ret
    exact ⟨rfl, Below.refl _ _⟩
end Go.Proofs.Ytglldmfhjipacaa

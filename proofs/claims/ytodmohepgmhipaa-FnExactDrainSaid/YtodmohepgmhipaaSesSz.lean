/-
  Sessions: the laws' count of all that is in one.
-/
import Derived.Test.YtodmohepgmhipaaSes
import Derived.Test.YtodmohepgmhipaaIntLaw
namespace Go.Proofs.Ytodmohepgmhipaa
open Go.RowKit
set_option linter.unusedVariables false
set_option maxRecDepth 100000
theorem szInts_any (a : Option Addr) (len cap : Nat) (n : Int) (w : World) (hs : len ≤ 9223372036854775807) (h0 : 0 ≤ n) (h1 : n ≤ 1048576) :
    Calls Try.prog 82 #[.slice a len cap, .int .i64 n] w fun e w' => e = .returned (.int .i64 (szI n len)) ∧ w = w' := by
  by_cases h : (len : Int) ≤ n
  · have H := Lib.hid (szI_yes h)
    go_enter Try.func82, Try.ntmps82
    go_wp2
    go_ret
    exact ⟨by rw [H.out]; rfl, rfl⟩
  · have H := Lib.hid (szI_no h)
    go_enter Try.func82, Try.ntmps82
    go_wp2
    go_ret
    exact ⟨by rw [H.out]; rfl, rfl⟩
theorem szRecs_any (a : Option Addr) (len cap : Nat) (n : Int) (w : World) (hs : len ≤ 9223372036854775807) (h0 : 0 ≤ n) (h1 : n ≤ 1048576) :
    Calls Try.prog 71 #[.slice a len cap, .int .i64 n] w fun e w' => e = .returned (.int .i64 (szI n len)) ∧ w = w' := by
  by_cases h : (len : Int) ≤ n
  · have H := Lib.hid (szI_yes h)
    go_enter Try.func71, Try.ntmps71
    go_wp2
    go_ret
    exact ⟨by rw [H.out]; rfl, rfl⟩
  · have H := Lib.hid (szI_no h)
    go_enter Try.func71, Try.ntmps71
    go_wp2
    go_ret
    exact ⟨by rw [H.out]; rfl, rfl⟩
def SzCols (n : Int) (C : List (List Int)) (r : Int) : Prop := r = -1 ∨ (0 ≤ r ∧ r ≤ n ∧ (C.length : Int) + colSum C C.length ≤ n)
set_option maxHeartbeats 1000000 in
theorem laws_szInt64SS (C : List (List Int)) (a : Option Addr) (cap : Nat) (n : Int) (w : World) (h : Cols w a C) (hlen : C.length ≤ 9223372036854775807) (hts : ∀ i, i < C.length → (rowAt C i).length ≤ 9223372036854775807) (h0 : 0 ≤ n) (h1 : n ≤ 1048576) :
    Calls Try.prog 70 #[.slice a C.length cap, .int .i64 n] w fun e w' => ∃ r : Int, e = .returned (.int .i64 r) ∧ SzCols n C r ∧ Below w.heap.size w w' := by
  by_cases hl : (C.length : Int) ≤ n
  · go_enter Try.func70, Try.ntmps70
    go_wp2
    go_loopw [1, 5] (fun v i wr => ∃ (k : Nat) (m : Int), k ≤ C.length ∧ i = .int .i64 k ∧ v = .int .i64 m ∧ 0 ≤ m ∧ m = n - C.length - colSum C k ∧ Below w.heap.size w wr)
      (fun _ i _ => C.length - (intOf i).toNat)
    case atStart => exact ⟨0, _, by omega, rfl, rfl, by omega, by simp [colSum], Below.refl _ _⟩
    case round =>
      obtain ⟨k, m, hk, rfl, rfl, hm0, hm1, hb⟩ := hrel
      by_cases hlt : k < C.length
      · obtain ⟨b, off, rfl, hp⟩ := (h.kept hb).at k hlt
        obtain ⟨a3, z3, c3, i3⟩ := hp k hlt
        have hs3 := hts k hlt
        have HM := Lib.hid (show m - ((rowAt C k).length : Int) = n - C.length - colSum C (k + 1) by simp only [colSum]; omega)
        have hmn : m ≤ n := by omega
        clear hm1 i3 h hp hts
        generalize (rowAt C k).length = x3 at *
        by_cases hle : (x3 : Int) ≤ m
        · have H := Lib.hid (szI_yes hle)
          have hr2 : 0 ≤ m - x3 := by omega
          go_wp2_with (go_at_call 82; refine (szInts_any _ _ _ _ _ hs3 hm0 (by omega)).mono ?_; rintro e w1 ⟨rfl, rfl⟩; rw [H.out])
          go_roundw
          case rel => exact ⟨k + 1, m - x3, by omega, by go_num, rfl, hr2, HM.out, hb⟩
          case measure => simp [intOf]; omega
        · have H := Lib.hid (szI_no hle)
          go_wp2_with (go_at_call 82; refine (szInts_any _ _ _ _ _ hs3 hm0 (by omega)).mono ?_; rintro e w1 ⟨rfl, rfl⟩; rw [H.out])
          go_ret
          exact ⟨-1, rfl, .inl rfl, hb⟩
      · obtain rfl : k = C.length := by omega
        have HA := Lib.hid hm1
        clear hts hm1
        go_wp2
        go_ret
        exact ⟨m, rfl, .inr ⟨hm0, by have := HA.out; omega, by have := HA.out; omega⟩, hb⟩
  · clear hts
    go_enter Try.func70, Try.ntmps70
    go_wp2
    go_ret
    exact ⟨-1, rfl, .inl rfl, Below.refl _ _⟩
set_option maxHeartbeats 2000000 in
theorem laws_szSession (s : Ses) (v : Value) (n : Int) (w : World) (h : SesV w v s) (hB : SesB 9223372036854775807 s) (hq : s.Q.length ≤ 9223372036854775807 * 3) (h0 : 0 ≤ n) (h1 : n ≤ 1048576) :
    Calls Try.prog 26 #[v, .int .i64 n] w fun e w' => ∃ r : Int, e = .returned (.int .i64 r) ∧ (r = -1 ∨ (0 ≤ r ∧ SesB 1048576 s ∧ colSum s.C s.C.length ≤ 1048576)) ∧ Below w.heap.size w w' := by
  obtain ⟨ad, ac, aq, cd, cc, cq, nq, rfl, hn, hD, hC, hQ⟩ := h
  have hnq : nq ≤ 9223372036854775807 := by omega
  obtain ⟨hd, ht, hc, hr, _⟩ := hB
  unfold sesV
  go_enter Try.func26, Try.ntmps26
  go_wp2_with fail
  refine (laws_szPatternS s.D ad cd _ _ (hD.kept (by repeat (first | exact Below.refl _ _ | assumption | (refine Below.drew ?_) | (refine below_drewN ?_ _) | (refine Below.alloc ?_ (by first | omega | (simp; done) | (simp; omega)) _) | (refine Below.setCell ?_ (by first | omega | (simp; done) | (simp; omega)) _)))) hd ht h0 h1).mono ?_
  rintro e w1 ⟨r1, rfl, hr1, hb1⟩
  obtain ⟨hc_w1, hf_w1⟩ := bcell hb1; have HT_w1 : Below w.heap.size w w1 := below_step (by repeat (first | exact Below.refl _ _ | assumption | (refine Below.drew ?_) | (refine below_drewN ?_ _) | (refine Below.alloc ?_ (by first | omega | (simp; done) | (simp; omega)) _) | (refine Below.setCell ?_ (by first | omega | (simp; done) | (simp; omega)) _))) hb1; have hz_w_w1 : w.heap.size < w1.heap.size := (by have h1 := hb1.size; (try simp at h1); omega)
  rcases hr1 with rfl | ⟨hr0, hr1, hr2, hr3⟩
  · go_wp2_with fail
    go_ret
    exact ⟨-1, rfl, .inl rfl, HT_w1⟩
  · have HR := Lib.hid (And.intro hr2 hr3)
    clear hr2 hr3
    go_wp2_with fail
    refine (laws_szInt64SS s.C ac cc _ _ (hC.kept HT_w1) hc hr (by omega) (by omega)).mono ?_
    rintro e w2 ⟨r2, rfl, hs, hb2⟩
    obtain ⟨hc_w2, hf_w2⟩ := bcell hb2; have HT_w2 : Below w.heap.size w w2 := below_step (by repeat (first | exact Below.refl _ _ | assumption | (refine Below.drew ?_) | (refine below_drewN ?_ _) | (refine Below.alloc ?_ (by first | omega | (simp; done) | (simp; omega)) _) | (refine Below.setCell ?_ (by first | omega | (simp; done) | (simp; omega)) _))) hb2; have hz_w_w2 : w.heap.size < w2.heap.size := (by have h1 := hb2.size; (try simp at h1); omega)
    rcases hs with rfl | ⟨hs0, hs1, hs2⟩
    · go_wp2_with fail
      go_ret
      exact ⟨-1, rfl, .inl rfl, HT_w2⟩
    · have HS := Lib.hid hs2
      clear hs2
      by_cases hle : (nq : Int) ≤ r2
      · have H := Lib.hid (szI_yes hle)
        go_wp2_with (go_at_call 71; refine (szRecs_any _ _ _ _ _ hnq (by omega) (by omega)).mono ?_; rintro e w3 ⟨rfl, rfl⟩; rw [H.out])
        go_ret
        refine ⟨_, rfl, .inr ⟨by omega, ⟨by have := HR.out.1; omega, fun i hi => by have := HR.out.2 i hi; omega, by have := HS.out; omega, fun i hi => ?_, by omega⟩, by have := HS.out; omega⟩, HT_w2⟩
        have h1 := colSum_at s.C i s.C.length hi
        have h2 := HS.out
        omega
      · have H := Lib.hid (szI_no hle)
        go_wp2_with (go_at_call 71; refine (szRecs_any _ _ _ _ _ hnq (by omega) (by omega)).mono ?_; rintro e w3 ⟨rfl, rfl⟩; rw [H.out])
        go_ret
        exact ⟨-1, rfl, .inl rfl, HT_w2⟩
end Go.Proofs.Ytodmohepgmhipaa

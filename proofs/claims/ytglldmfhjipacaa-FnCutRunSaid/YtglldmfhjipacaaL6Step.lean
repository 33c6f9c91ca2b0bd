/-
  Chapter 6: CutStep, in the program.
-/
import Derived.Test.YtglldmfhjipacaaL6StepM
import Derived.Test.YtglldmfhjipacaaL3NextL
import Derived.Deep.RegionLaw
namespace Go.Proofs.Ytglldmfhjipacaa
open Go.RowKit
set_option linter.unusedVariables false
set_option maxRecDepth 100000
theorem meth_cut_next (a : Option Addr) (n cap : Nat) (x : Int) (w : World) : (method 265 79 (.agg #[.slice a n cap, .int .i64 x]) "loop.example/g00568/impl.next").run Try.prog w = .ok (150, .agg #[.slice a n cap, .int .i64 x]) w := by kernel_rfl
theorem ta_nil_cut (w : World) : (Instr.typeAssert .nilIface 108 79 true).run Try.prog w = .ok (.tuple #[.agg #[.slice none 0 0, .int .i64 0], .bool false]) w := by kernel_rfl
theorem nextCol_short {t : ByteArray} {k : Int} {f : Bool} {b : Int} {C : Nat → Int} (hc : colOkB (patOk t k) t.size (tab C (t.size + 1)) = true) (hi : inB b 0 255 = true) : nextColL t k f b (tab C (t.size + 1)) = tab (nextAt (maskG t f b) (intAt (tab C (t.size + 1))) 0) (t.size + 1) := by
  unfold nextColL nextColB; rw [hc, hi]; rfl
set_option maxHeartbeats 4000000 in
theorem impl_cutNext (s : ByteArray) (k : Int) (f : Bool) (L : List Int) (q : Nat) (a : Option Addr) (n cap : Nat) (b : Int) (w : World) (hn : L.length = n) (h : Ints w a L) (hok : cutOkB s k L q = true) (hib : inB b 0 255 = true) :
    Calls Try.prog 150 #[.agg #[.slice a n cap, .int .i64 q], .agg #[.string s, .int .i64 k, .bool f], .int .i64 b] w fun e w' => ∃ a' cap', e = .returned (.iface 79 (.agg #[.slice a' (lastLe (stepN s k f b L) k (s.size + 1) + 1) cap', .int .i64 (lastLe (stepN s k f b L) k (s.size + 1))])) ∧ OwnN w' w.heap.size a' (lastLe (stepN s k f b L) k (s.size + 1) + 1) cap' (cutL (stepN s k f b L) k (s.size + 1)) ∧ Below w.heap.size w w' := by
  obtain ⟨hl, hq, hs1, hs2, hk0, hk1, z, _, _, _⟩ := cutOk_steps hok
  have hz := (whole_steps hok).1
  rw [hn] at hz
  obtain ⟨m, hm⟩ : ∃ m, m = q + 1 ∧ q + 1 ≤ s.size ∨ m = s.size ∧ q = s.size := by
    by_cases e : q + 1 ≤ s.size
    · exact ⟨_, .inl ⟨rfl, e⟩⟩
    · exact ⟨_, .inr ⟨rfl, by omega⟩⟩
  obtain ⟨t, ht⟩ : ∃ t, s.extract 0 m = t := ⟨_, rfl⟩
  have hsz : t.size = m := by rw [← ht, ByteArray.size_extract]; omega
  subst hsz
  have hco := short_ok hok hm
  have hcs := fun N => cut_short (f := f) (b := b) hok hm N
  rw [ht, hl, ← hl, hn] at hco
  simp only [ht, hn] at hcs
  have hns := nextCol_short (f := f) hco hib
  obtain ⟨c1, c2⟩ := hcs _ hns
  have HNL := Lib.hid (show (nextColL t k f b (tab (wholeF L n (k + 1)) (t.size + 1))).length = t.size + 1 by rw [hns, tab_length])
  have C1 := Lib.hid c1; have C2 := Lib.hid c2
  have hll := lastLe_lt (stepN s k f b L) k (s.size + 1) (by omega)
  have HN := Lib.hid hn
  have hn5 : n ≤ 1048577 := by omega
  have ht20 : t.size ≤ 20 := by omega
  have htb : t.size ≤ 1048576 := by omega
  have hm1 : t.size + 1 ≤ 1048577 := by omega
  have q0 : (0 : Int) ≤ (q : Int) := by omega
  have hkb : k ≤ 1048577 := by omega
  have HX := Lib.hid ht
  have HM := Lib.hid hm
  clear hok hib hco hcs hns c1 c2 hl hn z hm ht
  by_cases hlt : q + 1 ≤ s.size
  · have hmin : ¬ (s.size : Int) < (q : Int) + 1 := by omega
    have HMM := Lib.hid (show t.size = q + 1 by have := HM.out; omega)
    have hex : s.extract 0 (q + 1) = t := by rw [← HMM.out]; exact HX.out
    go_enter Try.func150, Try.ntmps150
    go_wp2_with fail
    clear hex
    have c0 : ((w.alloc (.cells #[.slice a n cap, .int .i64 q] 79)).alloc (.cells #[.string t, .int .i64 k, .bool f] 48)).cell? ⟨w.heap.size, 0, none⟩ = some (.slice a n cap) := by go_simp
    have c1 : ((w.alloc (.cells #[.slice a n cap, .int .i64 q] 79)).alloc (.cells #[.string t, .int .i64 k, .bool f] 48)).cell? ⟨w.heap.size, 1, none⟩ = some (.int .i64 q) := by go_simp
    have d0 : ((w.alloc (.cells #[.slice a n cap, .int .i64 q] 79)).alloc (.cells #[.string t, .int .i64 k, .bool f] 48)).cell? ⟨w.heap.size + 1, 0, none⟩ = some (.string t) := by go_simp
    have d1 : ((w.alloc (.cells #[.slice a n cap, .int .i64 q] 79)).alloc (.cells #[.string t, .int .i64 k, .bool f] 48)).cell? ⟨w.heap.size + 1, 1, none⟩ = some (.int .i64 k) := by go_simp
    have d2 : ((w.alloc (.cells #[.slice a n cap, .int .i64 q] 79)).alloc (.cells #[.string t, .int .i64 k, .bool f] 48)).cell? ⟨w.heap.size + 1, 2, none⟩ = some (.bool f) := by go_simp
    have hbz : Below w.heap.size w ((w.alloc (.cells #[.slice a n cap, .int .i64 q] 79)).alloc (.cells #[.string t, .int .i64 k, .bool f] 48)) := (by repeat (first | exact Below.refl _ _ | assumption | (refine Below.drew ?_) | (refine below_drewN ?_ _) | (refine Below.alloc ?_ (by first | omega | (simp; done) | (simp; omega)) _) | (refine Below.setCell ?_ (by first | omega | (simp; done) | (simp; omega)) _)))
    have hzz : w.heap.size + 1 < ((w.alloc (.cells #[.slice a n cap, .int .i64 q] 79)).alloc (.cells #[.string t, .int .i64 k, .bool f] 48)).heap.size := by simp
    generalize ((w.alloc (.cells #[.slice a n cap, .int .i64 q] 79)).alloc (.cells #[.string t, .int .i64 k, .bool f] 48)) = wz at *
    have hI := h.kept hbz
    have hz0 : w.heap.size < wz.heap.size := by omega
    clear h hmin hlt
    go_region_law ((go_simp; first
      | (go_at_call 122; with_reducible refine (impl_columnOf_cut t k f L q a n cap _ ht20 hk0 hk1 HN.out (hI.kept ((Below.refl _ _).drew)) hn5 hz).mono ?_; rintro e w2 ⟨a2, cap2, rfl, hO2, hb2d⟩; have hb2 := below_undrew hb2d; obtain ⟨hc_w2, hf_w2⟩ := bcell hb2; have hs2 := hb2.size; have hy0_w2 : w.heap.size < w2.heap.size := (by omega); have hy1_w2 : w.heap.size + 1 < w2.heap.size := (by omega))
      | (go_at_call 58; with_reducible refine (impl_nextCol t k f _ a2 (t.size + 1) cap2 b _ htb (tab_length _ _) hO2.ints hm1).mono ?_; rintro e w3 ⟨a3, n3, cap3, rfl, hO3, hb3⟩; obtain rfl : n3 = t.size + 1 := hO3.len.symm.trans HNL.out; obtain ⟨hc_w3, hf_w3⟩ := bcell hb3; have hs3 := hb3.size; have hy0_w3 : w.heap.size < w3.heap.size := (by omega); have hy1_w3 : w.heap.size + 1 < w3.heap.size := (by omega))
      | (go_at_call 114; with_reducible refine (impl_cutOff _ a3 (t.size + 1) cap3 k _ hO3.len hO3.ints hm1 (Nat.succ_le_succ (Nat.zero_le t.size)) hk0 hkb).mono ?_; rintro e w4 ⟨a4, cap4, rfl, hO4, hb4⟩; rw [C1.out] at hO4 ⊢; rw [C2.out] at hO4; have hs4 := hb4.size)))
    all_goals
      go_wp2_with fail
      go_ret
      exact ⟨_, _, rfl, hO4.mono (by omega), hbz.trans ((hb2.mono (by omega)).trans ((hb3.mono (by omega)).trans (hb4.mono (by omega))))⟩
  · have hmin : (s.size : Int) < (q : Int) + 1 := by omega
    obtain rfl : t = s := by
      have e1 := HX.out
      have e2 : t.size = s.size := by have := HM.out; omega
      rw [e2] at e1
      rw [← e1]; simp
    go_enter Try.func150, Try.ntmps150
    go_wp2_with fail
    have c0 : ((w.alloc (.cells #[.slice a n cap, .int .i64 q] 79)).alloc (.cells #[.string t, .int .i64 k, .bool f] 48)).cell? ⟨w.heap.size, 0, none⟩ = some (.slice a n cap) := by go_simp
    have c1 : ((w.alloc (.cells #[.slice a n cap, .int .i64 q] 79)).alloc (.cells #[.string t, .int .i64 k, .bool f] 48)).cell? ⟨w.heap.size, 1, none⟩ = some (.int .i64 q) := by go_simp
    have d0 : ((w.alloc (.cells #[.slice a n cap, .int .i64 q] 79)).alloc (.cells #[.string t, .int .i64 k, .bool f] 48)).cell? ⟨w.heap.size + 1, 0, none⟩ = some (.string t) := by go_simp
    have d1 : ((w.alloc (.cells #[.slice a n cap, .int .i64 q] 79)).alloc (.cells #[.string t, .int .i64 k, .bool f] 48)).cell? ⟨w.heap.size + 1, 1, none⟩ = some (.int .i64 k) := by go_simp
    have d2 : ((w.alloc (.cells #[.slice a n cap, .int .i64 q] 79)).alloc (.cells #[.string t, .int .i64 k, .bool f] 48)).cell? ⟨w.heap.size + 1, 2, none⟩ = some (.bool f) := by go_simp
    have hbz : Below w.heap.size w ((w.alloc (.cells #[.slice a n cap, .int .i64 q] 79)).alloc (.cells #[.string t, .int .i64 k, .bool f] 48)) := (by repeat (first | exact Below.refl _ _ | assumption | (refine Below.drew ?_) | (refine below_drewN ?_ _) | (refine Below.alloc ?_ (by first | omega | (simp; done) | (simp; omega)) _) | (refine Below.setCell ?_ (by first | omega | (simp; done) | (simp; omega)) _)))
    have hzz : w.heap.size + 1 < ((w.alloc (.cells #[.slice a n cap, .int .i64 q] 79)).alloc (.cells #[.string t, .int .i64 k, .bool f] 48)).heap.size := by simp
    generalize ((w.alloc (.cells #[.slice a n cap, .int .i64 q] 79)).alloc (.cells #[.string t, .int .i64 k, .bool f] 48)) = wz at *
    have hI := h.kept hbz
    have hz0 : w.heap.size < wz.heap.size := by omega
    clear h hmin hlt
    go_region_law ((go_simp; first
      | (go_at_call 122; with_reducible refine (impl_columnOf_cut t k f L q a n cap _ ht20 hk0 hk1 HN.out (hI.kept ((Below.refl _ _).drew)) hn5 hz).mono ?_; rintro e w2 ⟨a2, cap2, rfl, hO2, hb2d⟩; have hb2 := below_undrew hb2d; obtain ⟨hc_w2, hf_w2⟩ := bcell hb2; have hs2 := hb2.size; have hy0_w2 : w.heap.size < w2.heap.size := (by omega); have hy1_w2 : w.heap.size + 1 < w2.heap.size := (by omega))
      | (go_at_call 58; with_reducible refine (impl_nextCol t k f _ a2 (t.size + 1) cap2 b _ htb (tab_length _ _) hO2.ints hm1).mono ?_; rintro e w3 ⟨a3, n3, cap3, rfl, hO3, hb3⟩; obtain rfl : n3 = t.size + 1 := hO3.len.symm.trans HNL.out; obtain ⟨hc_w3, hf_w3⟩ := bcell hb3; have hs3 := hb3.size; have hy0_w3 : w.heap.size < w3.heap.size := (by omega); have hy1_w3 : w.heap.size + 1 < w3.heap.size := (by omega))
      | (go_at_call 114; with_reducible refine (impl_cutOff _ a3 (t.size + 1) cap3 k _ hO3.len hO3.ints hm1 (Nat.succ_le_succ (Nat.zero_le t.size)) hk0 hkb).mono ?_; rintro e w4 ⟨a4, cap4, rfl, hO4, hb4⟩; rw [C1.out] at hO4 ⊢; rw [C2.out] at hO4; have hs4 := hb4.size)))
    all_goals
      go_wp2_with fail
      go_ret
      exact ⟨_, _, rfl, hO4.mono (by omega), hbz.trans ((hb2.mono (by omega)).trans ((hb3.mono (by omega)).trans (hb4.mono (by omega))))⟩
end Go.Proofs.Ytglldmfhjipacaa

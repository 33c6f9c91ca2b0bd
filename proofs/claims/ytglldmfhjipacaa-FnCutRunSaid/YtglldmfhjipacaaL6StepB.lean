/-
  Chapter 6: CutStep, in the program: behind the interface.
-/
import Derived.Test.YtglldmfhjipacaaL6Step
namespace Go.Proofs.Ytglldmfhjipacaa
open Go.RowKit
set_option linter.unusedVariables false
set_option maxRecDepth 100000
theorem cutOkB_nat {s : ByteArray} {k : Int} {L : List Int} {x : Int} (h : cutOkB s k L x = true) : ∃ q : Nat, x = (q : Int) := by
  obtain ⟨_, h0, _⟩ := cutOkB_iff.1 h
  exact ⟨x.toNat, by omega⟩
set_option maxHeartbeats 2000000 in
theorem impl_stepped_cut_no (s : ByteArray) (k : Int) (f : Bool) (L : List Int) (x : Int) (a : Option Addr) (n cap : Nat) (b : Int) (w : World) (hs : s.size ≤ 1048576) (hn : L.length = n) (h : Ints w a L) (hlen : n ≤ 1048577) (hx : -9223372036854775808 ≤ x ∧ x ≤ 9223372036854775807) (hno : cutStepB s k b L x = false) :
    Calls Try.prog 92 #[.agg #[.string s, .int .i64 k, .bool f], .iface 79 (.agg #[.slice a n cap, .int .i64 x]), .int .i64 b] w fun e w' => e = .returned .nilIface ∧ Below w.heap.size w w' := by
  have hme := meth_cut_right a n cap x
  have HN := Lib.hid hn; clear hn
  cases hok : cutOkB s k L x
  · have HO := Lib.hid hok; clear hok hno
    go_enter Try.func92, Try.ntmps92
    go_wp2_with fail
    refine (impl_cutRight s k f L x a n cap _ hs HN.out (h.kept (by repeat (first | exact Below.refl _ _ | assumption | (refine Below.drew ?_) | (refine below_drewN ?_ _) | (refine Below.alloc ?_ (by first | omega | (simp; done) | (simp; omega)) _) | (refine Below.setCell ?_ (by first | omega | (simp; done) | (simp; omega)) _)))) hlen hx).mono ?_
    rintro e w1 ⟨rfl, hb1⟩
    rw [HO.out]
    obtain ⟨hc_w1, hf_w1⟩ := bcell hb1; have HT_w1 : Below w.heap.size w w1 := below_step (by repeat (first | exact Below.refl _ _ | assumption | (refine Below.drew ?_) | (refine below_drewN ?_ _) | (refine Below.alloc ?_ (by first | omega | (simp; done) | (simp; omega)) _) | (refine Below.setCell ?_ (by first | omega | (simp; done) | (simp; omega)) _))) hb1; have hz_w_w1 : w.heap.size < w1.heap.size := (by have h1 := hb1.size; (try simp at h1); omega)
    go_wp2_with fail
    go_ret
    exact ⟨rfl, HT_w1⟩
  · have hib : inB b 0 255 = false := by unfold cutStepB at hno; rw [hok] at hno; simpa using hno
    have HI := Lib.hid hib
    have HO := Lib.hid hok; clear hok hno hib
    go_enter Try.func92, Try.ntmps92
    go_wp2_with fail
    refine (impl_cutRight s k f L x a n cap _ hs HN.out (h.kept (by repeat (first | exact Below.refl _ _ | assumption | (refine Below.drew ?_) | (refine below_drewN ?_ _) | (refine Below.alloc ?_ (by first | omega | (simp; done) | (simp; omega)) _) | (refine Below.setCell ?_ (by first | omega | (simp; done) | (simp; omega)) _)))) hlen hx).mono ?_
    rintro e w1 ⟨rfl, hb1⟩
    rw [HO.out]
    obtain ⟨hc_w1, hf_w1⟩ := bcell hb1; have HT_w1 : Below w.heap.size w w1 := below_step (by repeat (first | exact Below.refl _ _ | assumption | (refine Below.drew ?_) | (refine below_drewN ?_ _) | (refine Below.alloc ?_ (by first | omega | (simp; done) | (simp; omega)) _) | (refine Below.setCell ?_ (by first | omega | (simp; done) | (simp; omega)) _))) hb1; have hz_w_w1 : w.heap.size < w1.heap.size := (by have h1 := hb1.size; (try simp at h1); omega)
    go_wp2_with (go_at_call 105; refine (isByte_any _ _).mono ?_; rintro e w' ⟨rfl, rfl⟩; rw [HI.out])
    go_ret
    exact ⟨rfl, HT_w1⟩
set_option maxHeartbeats 2000000 in
theorem impl_stepped_cut_yes (s : ByteArray) (k : Int) (f : Bool) (L : List Int) (q : Nat) (a : Option Addr) (n cap : Nat) (b : Int) (w : World) (hn : L.length = n) (h : Ints w a L) (hok : cutOkB s k L q = true) (hib : inB b 0 255 = true) :
    Calls Try.prog 92 #[.agg #[.string s, .int .i64 k, .bool f], .iface 79 (.agg #[.slice a n cap, .int .i64 q]), .int .i64 b] w fun e w' => ∃ a' cap', e = .returned (.iface 79 (.agg #[.slice a' (lastLe (stepN s k f b L) k (s.size + 1) + 1) cap', .int .i64 (lastLe (stepN s k f b L) k (s.size + 1))])) ∧ OwnN w' w.heap.size a' (lastLe (stepN s k f b L) k (s.size + 1) + 1) cap' (cutL (stepN s k f b L) k (s.size + 1)) ∧ Below w.heap.size w w' := by
  have hme := meth_cut_right a n cap q
  have hmn := meth_cut_next a n cap q
  obtain ⟨hl, hq, hs1, hs2, hk0, hk1, _, _, _, _⟩ := cutOk_steps hok
  have hlen : n ≤ 1048577 := by omega
  have hsb : s.size ≤ 1048576 := by omega
  have hqx : -9223372036854775808 ≤ (q : Int) ∧ (q : Int) ≤ 9223372036854775807 := by omega
  have HQ := Lib.hid hqx; clear hqx hl
  have HN := Lib.hid hn; clear hn
  have HI := Lib.hid hib
  have HO := Lib.hid hok; clear hok hib
  go_enter Try.func92, Try.ntmps92
  go_wp2_with fail
  refine (impl_cutRight s k f L q a n cap _ hsb HN.out (h.kept (by repeat (first | exact Below.refl _ _ | assumption | (refine Below.drew ?_) | (refine below_drewN ?_ _) | (refine Below.alloc ?_ (by first | omega | (simp; done) | (simp; omega)) _) | (refine Below.setCell ?_ (by first | omega | (simp; done) | (simp; omega)) _)))) hlen HQ.out).mono ?_
  rintro e w1 ⟨rfl, hb1⟩
  rw [HO.out]
  obtain ⟨hc_w1, hf_w1⟩ := bcell hb1; have HT_w1 : Below w.heap.size w w1 := below_step (by repeat (first | exact Below.refl _ _ | assumption | (refine Below.drew ?_) | (refine below_drewN ?_ _) | (refine Below.alloc ?_ (by first | omega | (simp; done) | (simp; omega)) _) | (refine Below.setCell ?_ (by first | omega | (simp; done) | (simp; omega)) _))) hb1; have hz_w_w1 : w.heap.size < w1.heap.size := (by have h1 := hb1.size; (try simp at h1); omega)
  go_wp2_with (go_at_call 105; refine (isByte_any _ _).mono ?_; rintro e w' ⟨rfl, rfl⟩; rw [HI.out])
  refine (impl_cutNext s k f L q a n cap b _ HN.out (h.kept HT_w1) HO.out HI.out).mono ?_
  rintro e w2 ⟨a2, cap2, rfl, hO2, hb2⟩
  have HT2 := below_step HT_w1 hb2
  go_wp2_with fail
  go_ret
  exact ⟨_, _, rfl, hO2.mono HT_w1.size, HT2⟩
theorem cutStepL_no {s : ByteArray} {k : Int} {f : Bool} {b : Int} {L : List Int} {x : Int} (h : cutStepB s k b L x = false) : cutStepL s k f b L x = [] ∧ cutStepI s k f b L x = 0 := by
  unfold cutStepL cutStepI; rw [h]; exact ⟨rfl, rfl⟩
theorem cutStepL_yes {s : ByteArray} {k : Int} {f : Bool} {b : Int} {L : List Int} {x : Int} (h : cutStepB s k b L x = true) : cutStepL s k f b L x = cutL (stepN s k f b L) k (s.size + 1) ∧ cutStepI s k f b L x = (lastLe (stepN s k f b L) k (s.size + 1) : Int) := by
  unfold cutStepL cutStepI; rw [h]; exact ⟨rfl, rfl⟩
set_option maxHeartbeats 2000000 in
theorem impl_cutStep (s : ByteArray) (k : Int) (f : Bool) (L : List Int) (x : Int) (a : Option Addr) (n cap : Nat) (b : Int) (w : World) (hs : s.size ≤ 1048576) (hn : L.length = n) (h : Ints w a L) (hlen : n ≤ 1048577) (hx : -9223372036854775808 ≤ x ∧ x ≤ 9223372036854775807) :
    Calls Try.prog 60 #[.agg #[.string s, .int .i64 k, .bool f], .agg #[.slice a n cap, .int .i64 x], .int .i64 b] w fun e w' => ∃ a' n' cap', e = .returned (.agg #[.slice a' n' cap', .int .i64 (cutStepI s k f b L x)]) ∧ OwnN w' w.heap.size a' n' cap' (cutStepL s k f b L x) ∧ Below w.heap.size w w' := by
  have HN := Lib.hid hn; clear hn
  cases hok : cutStepB s k b L x
  · obtain ⟨hr, hi⟩ := cutStepL_no (f := f) hok
    have HR := Lib.hid hr; have HI := Lib.hid hi
    have HO := Lib.hid hok; clear hok hr hi
    have hta := ta_nil_cut
    go_enter Try.func60, Try.ntmps60
    go_wp2_with fail
    refine (impl_stepped_cut_no s k f L x a n cap b _ hs HN.out (h.kept (by repeat (first | exact Below.refl _ _ | assumption | (refine Below.drew ?_) | (refine below_drewN ?_ _) | (refine Below.alloc ?_ (by first | omega | (simp; done) | (simp; omega)) _) | (refine Below.setCell ?_ (by first | omega | (simp; done) | (simp; omega)) _)))) hlen hx HO.out).mono ?_
    rintro e w1 ⟨rfl, hb1⟩
    obtain ⟨hc_w1, hf_w1⟩ := bcell hb1; have HT_w1 : Below w.heap.size w w1 := below_step (by repeat (first | exact Below.refl _ _ | assumption | (refine Below.drew ?_) | (refine below_drewN ?_ _) | (refine Below.alloc ?_ (by first | omega | (simp; done) | (simp; omega)) _) | (refine Below.setCell ?_ (by first | omega | (simp; done) | (simp; omega)) _))) hb1; have hy0_w1 : w.heap.size < w1.heap.size := (by have h1 := hb1.size; (try simp at h1); omega); have hy1_w1 : w.heap.size + 1 < w1.heap.size := (by have h1 := hb1.size; (try simp at h1); omega); have hy2_w1 : w.heap.size + 2 < w1.heap.size := (by have h1 := hb1.size; (try simp at h1); omega)
    go_wp2_with fail
    exact bodyPost_ret (v := .agg #[.slice none 0 0, .int .i64 0]) (by simp [results, Try.results60, go_sem, hc_w1, hy2_w1]) rfl ⟨_, _, _, by rw [HI.out], by rw [HR.out]; exact OwnN.nil _ _, (by repeat (first | exact Below.refl _ _ | assumption | (refine Below.drew ?_) | (refine below_drewN ?_ _) | (refine Below.alloc ?_ (by first | omega | (simp; done) | (simp; omega)) _) | (refine Below.setCell ?_ (by first | omega | (simp; done) | (simp; omega)) _)))⟩
  · obtain ⟨hr, hi⟩ := cutStepL_yes (f := f) hok
    obtain ⟨ho1, ho2⟩ : cutOkB s k L x = true ∧ inB b 0 255 = true := by unfold cutStepB at hok; simpa using hok
    obtain ⟨q, rfl⟩ := cutOkB_nat ho1
    have HR := Lib.hid hr; have HI := Lib.hid hi
    have HO1 := Lib.hid ho1; have HO2 := Lib.hid ho2; clear hok ho1 ho2 hr hi
    go_enter Try.func60, Try.ntmps60
    go_wp2_with fail
    refine (impl_stepped_cut_yes s k f L q a n cap b _ HN.out (h.kept (by repeat (first | exact Below.refl _ _ | assumption | (refine Below.drew ?_) | (refine below_drewN ?_ _) | (refine Below.alloc ?_ (by first | omega | (simp; done) | (simp; omega)) _) | (refine Below.setCell ?_ (by first | omega | (simp; done) | (simp; omega)) _)))) HO1.out HO2.out).mono ?_
    rintro e w1 ⟨a1, cap1, rfl, hO1, hb1⟩
    have hta := ta_cut (.agg #[.slice a1 (lastLe (stepN s k f b L) k (s.size + 1) + 1) cap1, .int .i64 (lastLe (stepN s k f b L) k (s.size + 1))])
    obtain ⟨hc_w1, hf_w1⟩ := bcell hb1; have HT_w1 : Below w.heap.size w w1 := below_step (by repeat (first | exact Below.refl _ _ | assumption | (refine Below.drew ?_) | (refine below_drewN ?_ _) | (refine Below.alloc ?_ (by first | omega | (simp; done) | (simp; omega)) _) | (refine Below.setCell ?_ (by first | omega | (simp; done) | (simp; omega)) _))) hb1; have hy0_w1 : w.heap.size < w1.heap.size := (by have h1 := hb1.size; (try simp at h1); omega); have hy1_w1 : w.heap.size + 1 < w1.heap.size := (by have h1 := hb1.size; (try simp at h1); omega); have hy2_w1 : w.heap.size + 2 < w1.heap.size := (by have h1 := hb1.size; (try simp at h1); omega)
    go_wp2_with fail
    exact bodyPost_ret (v := .agg #[.slice a1 (lastLe (stepN s k f b L) k (s.size + 1) + 1) cap1, .int .i64 (lastLe (stepN s k f b L) k (s.size + 1))]) (by simp [results, Try.results60, go_sem, hc_w1, hy2_w1]) rfl ⟨_, _, _, by rw [HI.out], by rw [HR.out]; exact ((hO1.set2 (g := w.heap.size + 1 + 1) (by simp) _ _).kept ((Below.refl _ _).alloc (Nat.le_refl _) _)).mono (by simp; omega), (by repeat (first | exact Below.refl _ _ | assumption | (refine Below.drew ?_) | (refine below_drewN ?_ _) | (refine Below.alloc ?_ (by first | omega | (simp; done) | (simp; omega)) _) | (refine Below.setCell ?_ (by first | omega | (simp; done) | (simp; omega)) _)))⟩
end Go.Proofs.Ytglldmfhjipacaa

/-
  Chapter 6: CutDist: behind the interface, and its model.
-/
import Derived.Test.YtglldmfhjipacaaL6Dist
import Derived.Test.YtglldmfhjipacaaL6New
import Derived.Deep.RegionLaw
namespace Go.Proofs.Ytglldmfhjipacaa
open Go.RowKit
set_option linter.unusedVariables false
set_option maxRecDepth 100000
def cutDistI (s : ByteArray) (k : Int) (L : List Int) (x : Int) : Int := if cutOkB s k L x then wholeF L L.length (k + 1) s.size else -1
def lenV : Value → Nat
  | .slice _ l _ => l
  | _ => 0
theorem cutOk_bound {s : ByteArray} {k : Int} {L : List Int} {x : Int} {n : Nat} (h : cutOkB s k L x = true) (hn : L.length = n) : s.size ≤ 20 ∧ 0 ≤ k ∧ k ≤ 4 ∧ 1 ≤ n ∧ n ≤ s.size + 1 ∧ wholeF L n (k + 1) 0 = 0 := by
  obtain ⟨hp, h0, h1, h2, h3, _, _⟩ := cutOkB_iff.1 h
  obtain ⟨hs0, hs1, hk0, hk1⟩ := (patOk_iff s k).1 hp
  have hn1 : 1 ≤ n := by omega
  refine ⟨hs1, hk0, hk1, hn1, by omega, ?_⟩
  rw [wholeF_lt (by omega)]
  rw [hn] at h3
  have := stepsB_bnd h3 0 (by omega)
  omega
set_option maxHeartbeats 2000000 in
theorem spec_l6Whole (s : ByteArray) (k : Int) (f : Bool) (L : List Int) (x : Int) (a : Option Addr) (n cap : Nat) (w : World) (hs : s.size ≤ 20) (hk0 : 0 ≤ k) (hk1 : k ≤ 4) (hn : L.length = n) (h : Ints w a L) (hn1 : 1 ≤ n) (hn2 : n ≤ s.size + 1) :
    Calls Try.prog 113 #[.agg #[.string s, .int .i64 k, .bool f], .agg #[.slice a n cap, .int .i64 x]] w fun e w' => ∃ a' cap', e = .returned (.slice a' (s.size + 1) cap') ∧ OwnN w' w.heap.size a' (s.size + 1) cap' (tab (wholeF L n (k + 1)) (s.size + 1)) ∧ Below w.heap.size w w' := by
  obtain ⟨i0, hi, ht0, ht1, ht2⟩ := info_parts int_info
  have hT := Lib.hid (tab_whole (k + 1) hn)
  have HN := Lib.hid hn; clear hn
  go_enter Try.func113, Try.ntmps113
  go_wp2_with fail
  refine (spec_l1Copy L a n cap _ HN.out (h.kept (by repeat (first | exact Below.refl _ _ | assumption | (refine Below.drew ?_) | (refine below_drewN ?_ _) | (refine Below.alloc ?_ (by first | omega | (simp; done) | (simp; omega)) _) | (refine Below.setCell ?_ (by first | omega | (simp; done) | (simp; omega)) _)))) hn1 (by omega)).mono ?_
  rintro e w1 ⟨a1, cap1, rfl, hO, hb1⟩
  obtain ⟨hc_w1, hf_w1⟩ := bcell hb1; have HT_w1 : Below w.heap.size w w1 := below_step (by repeat (first | exact Below.refl _ _ | assumption | (refine Below.drew ?_) | (refine below_drewN ?_ _) | (refine Below.alloc ?_ (by first | omega | (simp; done) | (simp; omega)) _) | (refine Below.setCell ?_ (by first | omega | (simp; done) | (simp; omega)) _))) hb1; have hy0_w1 : w.heap.size < w1.heap.size := (by have h1 := hb1.size; (try simp at h1); omega); have hy1_w1 : w.heap.size + 1 < w1.heap.size := (by have h1 := hb1.size; (try simp at h1); omega)
  have m0 : w1.cell? ⟨w.heap.size, 0, none⟩ = some (.string s) := by go_simp
  have m1 : w1.cell? ⟨w.heap.size, 1, none⟩ = some (.int .i64 k) := by go_simp
  have hO1 : w1.ownsRow (w.heap.size + 2) 2 1 (.slice a1 n cap1) n ((tab (wholeF L n (k + 1)) n).map (Value.int .i64)) := by rw [hT.out]; simpa using hO.2
  clear hO hc_w1 hf_w1 hT h
  go_wp2_with fail
  go_loopw [5] (fun v wr => ∃ (j : Nat), n ≤ j ∧ j ≤ s.size + 1 ∧ wr.ownsRow (w.heap.size + 2) 2 1 v j ((tab (wholeF L n (k + 1)) j).map (Value.int .i64)) ∧ wr.cell? ⟨w.heap.size, 0, none⟩ = some (.string s) ∧ wr.cell? ⟨w.heap.size, 1, none⟩ = some (.int .i64 k) ∧ Below w.heap.size w wr ∧ w.heap.size + 2 ≤ wr.heap.size)
    (fun v _ => s.size + 1 - lenV v)
  case atStart => exact ⟨n, by omega, by omega, hO1, m0, m1, HT_w1, by omega⟩
  case round =>
    obtain ⟨j, hj0, hj, hown, hck0, hck1, hb, hz⟩ := hrel
    obtain ⟨a2, cap2, rfl, hO2⟩ := OwnN.shape hown
    by_cases hlt : j ≤ s.size
    · have HO := Lib.hid hown
      have hw : wholeF L n (k + 1) j = k + 1 := wholeF_ge hj0
      have HW := Lib.hid hw
      have jl : (j : Int) ≤ (s.size : Int) := by omega
      clear hown hw hO2 hO1 m0 m1
      go_wp2_with (at_builtin; refine wpList_append_own _ rfl _ _ 61 rfl (w.heap.size + 2) 2 i0 (.int .i64 0) 1 8 Try.underlying61 hi ht0 ht1 ht2 rfl (by decide) _ _ _ rfl (HO.out.alloc _) ⟨wr.heap.size, 0, none⟩ 1 1 [.int .i64 (k + 1)] rfl rfl (one_new _ _ _) (int_one _) (by unfold maxLen; omega) (by omega) (by simp; omega) ?_; intro v' w2 hown' hg _)
      have hown2 := own_snoc (w := w2) (B := w.heap.size + 2) (v := v') (n := j) (f := wholeF L n (k + 1)) (by rw [HW.out]; exact hown')
      obtain ⟨a3, cap3, rfl, hO3⟩ := OwnN.shape hown2
      have hown3 := Lib.hid hown2
      have hB3 : Below (w.heap.size + 2) wr w2 := ((Below.refl _ wr).alloc hz _).grown hg (by simp; omega) (fun q hq => (HO.out.lt q hq).1)
      have hc0 := (hB3.cell (p := ⟨w.heap.size, 0, none⟩) (by show w.heap.size < _; omega)).trans hck0
      have hc1 := (hB3.cell (p := ⟨w.heap.size, 1, none⟩) (by show w.heap.size < _; omega)).trans hck1
      clear hown' hg hown2 hO3
      go_roundw
      case rel => exact ⟨j + 1, by omega, by omega, hown3.out, hc0, hc1, hb.trans (hB3.mono (by omega)), Nat.le_trans hz hB3.size⟩
      case measure => simp [lenV]; omega
    · obtain rfl : j = s.size + 1 := by omega
      go_wp2_with fail
      go_ret
      exact ⟨_, _, rfl, hO2.mono (by omega), hb⟩
theorem meth_cut_right (a : Option Addr) (n cap : Nat) (x : Int) (w : World) : (method 265 79 (.agg #[.slice a n cap, .int .i64 x]) "loop.example/g00568/impl.right").run Try.prog w = .ok (115, .agg #[.slice a n cap, .int .i64 x]) w := by kernel_rfl
set_option maxHeartbeats 2000000 in
theorem impl_lastOf_cut (s : ByteArray) (k : Int) (f : Bool) (L : List Int) (x : Int) (a : Option Addr) (n cap : Nat) (w : World) (hs : s.size ≤ 1048576) (hn : L.length = n) (h : Ints w a L) (hlen : n ≤ 1048577) (hx : -9223372036854775808 ≤ x ∧ x ≤ 9223372036854775807) :
    Calls Try.prog 102 #[.agg #[.string s, .int .i64 k, .bool f], .iface 79 (.agg #[.slice a n cap, .int .i64 x])] w fun e w' => e = .returned (.int .i64 (cutDistI s k L x)) ∧ Below w.heap.size w w' := by
  have hme := meth_cut_right a n cap x
  have HN := Lib.hid hn; clear hn
  cases hok : cutOkB s k L x
  · have HR := Lib.hid (show cutDistI s k L x = -1 by unfold cutDistI; rw [hok]; rfl)
    have HO := Lib.hid hok; clear hok
    go_enter Try.func102, Try.ntmps102
    go_wp2_with fail
    refine (impl_cutRight s k f L x a n cap _ hs HN.out (h.kept (by repeat (first | exact Below.refl _ _ | assumption | (refine Below.drew ?_) | (refine below_drewN ?_ _) | (refine Below.alloc ?_ (by first | omega | (simp; done) | (simp; omega)) _) | (refine Below.setCell ?_ (by first | omega | (simp; done) | (simp; omega)) _)))) hlen hx).mono ?_
    rintro e w1 ⟨rfl, hb1⟩
    rw [HO.out]
    obtain ⟨hc_w1, hf_w1⟩ := bcell hb1; have HT_w1 : Below w.heap.size w w1 := below_step (by repeat (first | exact Below.refl _ _ | assumption | (refine Below.drew ?_) | (refine below_drewN ?_ _) | (refine Below.alloc ?_ (by first | omega | (simp; done) | (simp; omega)) _) | (refine Below.setCell ?_ (by first | omega | (simp; done) | (simp; omega)) _))) hb1; have hz_w_w1 : w.heap.size < w1.heap.size := (by have h1 := hb1.size; (try simp at h1); omega)
    go_wp2_with fail
    go_ret
    exact ⟨by rw [HR.out]; rfl, HT_w1⟩
  · have HR := Lib.hid (show cutDistI s k L x = wholeF L n (k + 1) s.size by unfold cutDistI; rw [hok, HN.out]; rfl)
    obtain ⟨hs1, hk0, hk1, hn1, hn2, hz⟩ := cutOk_bound hok HN.out
    have HO := Lib.hid hok; clear hok
    go_enter Try.func102, Try.ntmps102
    go_wp2_with fail
    refine (impl_cutRight s k f L x a n cap _ hs HN.out (h.kept (by repeat (first | exact Below.refl _ _ | assumption | (refine Below.drew ?_) | (refine below_drewN ?_ _) | (refine Below.alloc ?_ (by first | omega | (simp; done) | (simp; omega)) _) | (refine Below.setCell ?_ (by first | omega | (simp; done) | (simp; omega)) _)))) hlen hx).mono ?_
    rintro e w1 ⟨rfl, hb1⟩
    rw [HO.out]
    obtain ⟨hc_w1, hf_w1⟩ := bcell hb1; have HT_w1 : Below w.heap.size w w1 := below_step (by repeat (first | exact Below.refl _ _ | assumption | (refine Below.drew ?_) | (refine below_drewN ?_ _) | (refine Below.alloc ?_ (by first | omega | (simp; done) | (simp; omega)) _) | (refine Below.setCell ?_ (by first | omega | (simp; done) | (simp; omega)) _))) hb1; have hz_w_w1 : w.heap.size < w1.heap.size := (by have h1 := hb1.size; (try simp at h1); omega)
    go_wp2_with fail
    go_region_law ((go_simp; first | (go_at_call 122; refine (impl_columnOf_cut s k f L x a n cap _ hs1 hk0 hk1 HN.out (h.kept HT_w1.drew) hlen hz).mono ?_; rintro e w3 ⟨a3, cap3, rfl, hO3, hb3d⟩; have hb3 := below_undrew hb3d; obtain ⟨hc_w3, hf_w3⟩ := bcell hb3; have HT_w3 : Below w.heap.size w w3 := below_step (by repeat (first | exact Below.refl _ _ | assumption | (refine Below.drew ?_) | (refine below_drewN ?_ _) | (refine Below.alloc ?_ (by first | omega | (simp; done) | (simp; omega)) _) | (refine Below.setCell ?_ (by first | omega | (simp; done) | (simp; omega)) _))) hb3; have hy0_w3 : w.heap.size < w3.heap.size := (by have h1 := hb3.size; (try simp at h1); omega); obtain ⟨g, rfl, hg1, hg2⟩ := hO3.head 0 (by omega); have hk0 : s.size < s.size + 1 := Nat.lt_succ_self _; have dc := hO3.cell s.size hk0; rw [intAt_tab _ _ _ hk0] at dc; have hk1 : (s.size : Int) < (s.size : Int) + 1 := (by omega); clear hO3)))
    all_goals
      go_wp2_with fail
      go_ret
      exact ⟨by rw [HR.out]; rfl, HT_w3⟩
set_option maxHeartbeats 2000000 in
theorem impl_cutDist (s : ByteArray) (k : Int) (f : Bool) (L : List Int) (x : Int) (a : Option Addr) (n cap : Nat) (w : World) (hs : s.size ≤ 1048576) (hn : L.length = n) (h : Ints w a L) (hlen : n ≤ 1048577) (hx : -9223372036854775808 ≤ x ∧ x ≤ 9223372036854775807) :
    Calls Try.prog 70 #[.agg #[.string s, .int .i64 k, .bool f], .agg #[.slice a n cap, .int .i64 x]] w fun e w' => e = .returned (.int .i64 (cutDistI s k L x)) ∧ Below w.heap.size w w' := by
  have HN := Lib.hid hn; clear hn
  go_enter Try.func70, Try.ntmps70
  go_wp2_with fail
  refine (impl_lastOf_cut s k f L x a n cap _ hs HN.out (h.kept (by repeat (first | exact Below.refl _ _ | assumption | (refine Below.drew ?_) | (refine below_drewN ?_ _) | (refine Below.alloc ?_ (by first | omega | (simp; done) | (simp; omega)) _) | (refine Below.setCell ?_ (by first | omega | (simp; done) | (simp; omega)) _)))) hlen hx).mono ?_
  rintro e w1 ⟨rfl, hb1⟩
  go_wp2_with fail
  go_ret
  exact ⟨rfl, below_step (by repeat (first | exact Below.refl _ _ | assumption | (refine Below.drew ?_) | (refine below_drewN ?_ _) | (refine Below.alloc ?_ (by first | omega | (simp; done) | (simp; omega)) _) | (refine Below.setCell ?_ (by first | omega | (simp; done) | (simp; omega)) _))) hb1⟩
set_option maxHeartbeats 2000000 in
theorem spec_cutDist (s : ByteArray) (k : Int) (f : Bool) (L : List Int) (x : Int) (a : Option Addr) (n cap : Nat) (w : World) (hs : s.size ≤ 1048576) (hn : L.length = n) (h : Ints w a L) (hlen : n ≤ 1048577) (hx : -9223372036854775808 ≤ x ∧ x ≤ 9223372036854775807) :
    Calls Try.prog 71 #[.agg #[.string s, .int .i64 k, .bool f], .agg #[.slice a n cap, .int .i64 x]] w fun e w' => e = .returned (.int .i64 (cutDistI s k L x)) ∧ Below w.heap.size w w' := by
  have HN := Lib.hid hn; clear hn
  cases hok : cutOkB s k L x
  · have HR := Lib.hid (show cutDistI s k L x = -1 by unfold cutDistI; rw [hok]; rfl)
    have HO := Lib.hid hok; clear hok
    go_enter Try.func71, Try.ntmps71
    go_wp2_with fail
    refine (spec_cutOk s k f L x a n cap _ hs HN.out (h.kept (by repeat (first | exact Below.refl _ _ | assumption | (refine Below.drew ?_) | (refine below_drewN ?_ _) | (refine Below.alloc ?_ (by first | omega | (simp; done) | (simp; omega)) _) | (refine Below.setCell ?_ (by first | omega | (simp; done) | (simp; omega)) _)))) hlen hx).mono ?_
    rintro e w1 ⟨rfl, hb1⟩
    rw [HO.out]
    obtain ⟨hc_w1, hf_w1⟩ := bcell hb1; have HT_w1 : Below w.heap.size w w1 := below_step (by repeat (first | exact Below.refl _ _ | assumption | (refine Below.drew ?_) | (refine below_drewN ?_ _) | (refine Below.alloc ?_ (by first | omega | (simp; done) | (simp; omega)) _) | (refine Below.setCell ?_ (by first | omega | (simp; done) | (simp; omega)) _))) hb1; have hy0_w1 : w.heap.size < w1.heap.size := (by have h1 := hb1.size; (try simp at h1); omega); have hy1_w1 : w.heap.size + 1 < w1.heap.size := (by have h1 := hb1.size; (try simp at h1); omega)
    go_wp2_with fail
    go_ret
    exact ⟨by rw [HR.out]; rfl, HT_w1⟩
  · have HR := Lib.hid (show cutDistI s k L x = wholeF L n (k + 1) s.size by unfold cutDistI; rw [hok, HN.out]; rfl)
    obtain ⟨hs1, hk0, hk1, hn1, hn2, hz⟩ := cutOk_bound hok HN.out
    have HO := Lib.hid hok; clear hok
    go_enter Try.func71, Try.ntmps71
    go_wp2_with fail
    refine (spec_cutOk s k f L x a n cap _ hs HN.out (h.kept (by repeat (first | exact Below.refl _ _ | assumption | (refine Below.drew ?_) | (refine below_drewN ?_ _) | (refine Below.alloc ?_ (by first | omega | (simp; done) | (simp; omega)) _) | (refine Below.setCell ?_ (by first | omega | (simp; done) | (simp; omega)) _)))) hlen hx).mono ?_
    rintro e w1 ⟨rfl, hb1⟩
    rw [HO.out]
    obtain ⟨hc_w1, hf_w1⟩ := bcell hb1; have HT_w1 : Below w.heap.size w w1 := below_step (by repeat (first | exact Below.refl _ _ | assumption | (refine Below.drew ?_) | (refine below_drewN ?_ _) | (refine Below.alloc ?_ (by first | omega | (simp; done) | (simp; omega)) _) | (refine Below.setCell ?_ (by first | omega | (simp; done) | (simp; omega)) _))) hb1; have hy0_w1 : w.heap.size < w1.heap.size := (by have h1 := hb1.size; (try simp at h1); omega); have hy1_w1 : w.heap.size + 1 < w1.heap.size := (by have h1 := hb1.size; (try simp at h1); omega)
    go_wp2_with fail
    go_region_law ((go_simp; first | (go_at_call 113; refine (spec_l6Whole s k f L x a n cap _ hs1 hk0 hk1 HN.out (h.kept HT_w1.drew) hn1 hn2).mono ?_; rintro e w3 ⟨a3, cap3, rfl, hO3, hb3d⟩; have hb3 := below_undrew hb3d; obtain ⟨hc_w3, hf_w3⟩ := bcell hb3; have HT_w3 : Below w.heap.size w w3 := below_step (by repeat (first | exact Below.refl _ _ | assumption | (refine Below.drew ?_) | (refine below_drewN ?_ _) | (refine Below.alloc ?_ (by first | omega | (simp; done) | (simp; omega)) _) | (refine Below.setCell ?_ (by first | omega | (simp; done) | (simp; omega)) _))) hb3; have hy0_w3 : w.heap.size < w3.heap.size := (by have h1 := hb3.size; (try simp at h1); omega); have hy1_w3 : w.heap.size + 1 < w3.heap.size := (by have h1 := hb3.size; (try simp at h1); omega); obtain ⟨g, rfl, hg1, hg2⟩ := hO3.head 0 (by omega); have hk0 : s.size < s.size + 1 := Nat.lt_succ_self _; have dc := hO3.cell s.size hk0; rw [intAt_tab _ _ _ hk0] at dc; have hk1 : (s.size : Int) < (s.size : Int) + 1 := (by omega); clear hO3)))
    all_goals
      go_wp2_with fail
      go_ret
      exact ⟨by rw [HR.out]; rfl, HT_w3⟩
end Go.Proofs.Ytglldmfhjipacaa

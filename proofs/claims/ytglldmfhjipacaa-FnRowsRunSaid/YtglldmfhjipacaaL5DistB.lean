/-
  Chapter 5: RowsDist, in the program: behind the interface.
-/
import Derived.Test.YtglldmfhjipacaaL5Dist
namespace Go.Proofs.Ytglldmfhjipacaa
open Go.RowKit
set_option linter.unusedVariables false
set_option maxRecDepth 100000
def rowsDistI (s : ByteArray) (k : Int) (L : List Int) : Int := if rowsOkB s k L then lcF (intAt L) L.length s.size else -1
theorem meth_rows_right (a : Option Addr) (n cap : Nat) (w : World) : (method 265 63 (.agg #[.slice a n cap]) "loop.example/g00568/impl.right").run Try.prog w = .ok (98, .agg #[.slice a n cap]) w := by kernel_rfl
theorem rowsOk_bound {s : ByteArray} {k : Int} {L : List Int} {n : Nat} (h : rowsOkB s k L = true) (hwf : ∀ i, i < n → I64 (intAt L i)) (hn : L.length = n) : s.size ≤ 20 ∧ ∀ i, i < n → 0 ≤ intAt L i ∧ intAt L i ≤ 1048576 := by
  unfold rowsOkB at h
  simp only [Bool.and_eq_true, decide_eq_true_eq] at h
  obtain ⟨⟨hp, hl⟩, hr⟩ := h
  obtain ⟨hs0, hs1, hk0, hk1⟩ := (patOk_iff s k).1 hp
  refine ⟨hs1, fun i hi => ?_⟩
  have hg := rowsTo_at hr i (by omega)
  unfold rowGood at hg
  simp only [Bool.and_eq_true, decide_eq_true_eq] at hg
  have h1 := (andNot_low (hwf i hi) (by omega)).1 hg.1
  have p2 := pow_small s.size hs1
  omega
set_option maxHeartbeats 2000000 in
theorem impl_lastOf_rows (s : ByteArray) (k : Int) (f : Bool) (L : List Int) (a : Option Addr) (n cap : Nat) (w : World) (hs : s.size ≤ 1048576) (hn : L.length = n) (h : Ints w a L) (hlen : n ≤ 1048577) (hwf : ∀ i, i < n → I64 (intAt L i)) :
    Calls Try.prog 102 #[.agg #[.string s, .int .i64 k, .bool f], .iface 63 (.agg #[.slice a n cap])] w fun e w' => e = .returned (.int .i64 (rowsDistI s k L)) ∧ Below w.heap.size w w' := by
  have hme := meth_rows_right a n cap
  have HN := Lib.hid hn; clear hn
  cases hok : rowsOkB s k L
  · have HR := Lib.hid (show rowsDistI s k L = -1 by unfold rowsDistI; rw [hok]; rfl)
    have HO := Lib.hid hok; clear hok
    go_enter Try.func102, Try.ntmps102
    go_wp2_with fail
    refine (impl_rowsRight s k f L a n cap _ hs HN.out (h.kept (by repeat (first | exact Below.refl _ _ | assumption | (refine Below.drew ?_) | (refine below_drewN ?_ _) | (refine Below.alloc ?_ (by first | omega | (simp; done) | (simp; omega)) _) | (refine Below.setCell ?_ (by first | omega | (simp; done) | (simp; omega)) _)))) hlen).mono ?_
    rintro e w1 ⟨rfl, hb1⟩
    rw [HO.out]
    obtain ⟨hc_w1, hf_w1⟩ := bcell hb1; have HT_w1 : Below w.heap.size w w1 := below_step (by repeat (first | exact Below.refl _ _ | assumption | (refine Below.drew ?_) | (refine below_drewN ?_ _) | (refine Below.alloc ?_ (by first | omega | (simp; done) | (simp; omega)) _) | (refine Below.setCell ?_ (by first | omega | (simp; done) | (simp; omega)) _))) hb1; have hz_w_w1 : w.heap.size < w1.heap.size := (by have h1 := hb1.size; (try simp at h1); omega)
    go_wp2_with fail
    go_ret
    exact ⟨by rw [HR.out]; rfl, HT_w1⟩
  · have HR := Lib.hid (show rowsDistI s k L = lcF (intAt L) n s.size by unfold rowsDistI; rw [hok, HN.out]; rfl)
    obtain ⟨hs1, hb⟩ := rowsOk_bound hok hwf HN.out
    have HO := Lib.hid hok; clear hok
    go_enter Try.func102, Try.ntmps102
    go_wp2_with fail
    refine (impl_rowsRight s k f L a n cap _ hs HN.out (h.kept (by repeat (first | exact Below.refl _ _ | assumption | (refine Below.drew ?_) | (refine below_drewN ?_ _) | (refine Below.alloc ?_ (by first | omega | (simp; done) | (simp; omega)) _) | (refine Below.setCell ?_ (by first | omega | (simp; done) | (simp; omega)) _)))) hlen).mono ?_
    rintro e w1 ⟨rfl, hb1⟩
    rw [HO.out]
    obtain ⟨hc_w1, hf_w1⟩ := bcell hb1; have HT_w1 : Below w.heap.size w w1 := below_step (by repeat (first | exact Below.refl _ _ | assumption | (refine Below.drew ?_) | (refine below_drewN ?_ _) | (refine Below.alloc ?_ (by first | omega | (simp; done) | (simp; omega)) _) | (refine Below.setCell ?_ (by first | omega | (simp; done) | (simp; omega)) _))) hb1; have hz_w_w1 : w.heap.size < w1.heap.size := (by have h1 := hb1.size; (try simp at h1); omega)
    go_wp2_with fail
    go_region_law ((go_simp; first | (go_at_call 122; refine (impl_columnOf_rows s k f L a n cap _ hs1 HN.out (h.kept HT_w1.drew) hlen hb).mono ?_; rintro e w3 ⟨a3, cap3, rfl, hO3, hb3d⟩; have hb3 := below_undrew hb3d; obtain ⟨hc_w3, hf_w3⟩ := bcell hb3; have HT_w3 : Below w.heap.size w w3 := below_step (by repeat (first | exact Below.refl _ _ | assumption | (refine Below.drew ?_) | (refine below_drewN ?_ _) | (refine Below.alloc ?_ (by first | omega | (simp; done) | (simp; omega)) _) | (refine Below.setCell ?_ (by first | omega | (simp; done) | (simp; omega)) _))) hb3; have hy0_w3 : w.heap.size < w3.heap.size := (by have h1 := hb3.size; (try simp at h1); omega); obtain ⟨g, rfl, hg1, hg2⟩ := hO3.head 0 (by omega); have hk0 : s.size < s.size + 1 := Nat.lt_succ_self _; have dc := hO3.cell s.size hk0; rw [intAt_tab _ _ _ hk0] at dc; have hk1 : (s.size : Int) < (s.size : Int) + 1 := (by omega); clear hO3)))
    all_goals
      go_wp2_with fail
      go_ret
      exact ⟨by rw [HR.out]; rfl, HT_w3⟩
set_option maxHeartbeats 2000000 in
theorem impl_rowsDist (s : ByteArray) (k : Int) (f : Bool) (L : List Int) (a : Option Addr) (n cap : Nat) (w : World) (hs : s.size ≤ 1048576) (hn : L.length = n) (h : Ints w a L) (hlen : n ≤ 1048577) (hwf : ∀ i, i < n → I64 (intAt L i)) :
    Calls Try.prog 55 #[.agg #[.string s, .int .i64 k, .bool f], .agg #[.slice a n cap]] w fun e w' => e = .returned (.int .i64 (rowsDistI s k L)) ∧ Below w.heap.size w w' := by
  have HN := Lib.hid hn; clear hn
  go_enter Try.func55, Try.ntmps55
  go_wp2_with fail
  refine (impl_lastOf_rows s k f L a n cap _ hs HN.out (h.kept (by repeat (first | exact Below.refl _ _ | assumption | (refine Below.drew ?_) | (refine below_drewN ?_ _) | (refine Below.alloc ?_ (by first | omega | (simp; done) | (simp; omega)) _) | (refine Below.setCell ?_ (by first | omega | (simp; done) | (simp; omega)) _)))) hlen hwf).mono ?_
  rintro e w1 ⟨rfl, hb1⟩
  go_wp2_with fail
  go_ret
  exact ⟨rfl, below_step (by repeat (first | exact Below.refl _ _ | assumption | (refine Below.drew ?_) | (refine below_drewN ?_ _) | (refine Below.alloc ?_ (by first | omega | (simp; done) | (simp; omega)) _) | (refine Below.setCell ?_ (by first | omega | (simp; done) | (simp; omega)) _))) hb1⟩
end Go.Proofs.Ytglldmfhjipacaa

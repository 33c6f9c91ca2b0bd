/-
  The laws' own helpers on structs of one slice of int64 (Rows).
-/
import Derived.Test.YtflbjjpkloeocabIntLaw
import Derived.Test.YtflbjjpkloeocabL2Pat
import Derived.Test.YtflbjjpkloeocabL4New
namespace Go.Proofs.Ytflbjjpkloeocab
open Go.RowKit
set_option linter.unusedVariables false
set_option maxRecDepth 100000
theorem eqRows_eq (L : List Int) (a1 a2 : Option Addr) (n cap1 cap2 : Nat) (w : World) (hn : L.length = n) (h1 : Ints w a1 L) (h2 : Ints w a2 L) (hlen : n ≤ 1048577) :
    Calls Try.prog 58 #[.agg #[.slice a1 n cap1], .agg #[.slice a2 n cap2]] w fun e w' => e = .returned (.bool true) ∧ Below w.heap.size w w' := by
  have HN := Lib.hid hn; clear hn
  go_enter Try.func58, Try.ntmps58
  go_wp2_with fail
  refine (laws_eqInt64S L a1 a2 n cap1 cap2 _ HN.out (h1.kept (by repeat (first | exact Below.refl _ _ | assumption | (refine Below.drew ?_) | (refine below_drewN ?_ _) | (refine Below.alloc ?_ (by first | omega | (simp; done) | (simp; omega)) _) | (refine Below.setCell ?_ (by first | omega | (simp; done) | (simp; omega)) _)))) (h2.kept (by repeat (first | exact Below.refl _ _ | assumption | (refine Below.drew ?_) | (refine below_drewN ?_ _) | (refine Below.alloc ?_ (by first | omega | (simp; done) | (simp; omega)) _) | (refine Below.setCell ?_ (by first | omega | (simp; done) | (simp; omega)) _)))) hlen).mono ?_
  rintro e w1 ⟨rfl, hb1⟩
  go_wp2_with fail
  go_ret
  exact ⟨rfl, below_step (by repeat (first | exact Below.refl _ _ | assumption | (refine Below.drew ?_) | (refine below_drewN ?_ _) | (refine Below.alloc ?_ (by first | omega | (simp; done) | (simp; omega)) _) | (refine Below.setCell ?_ (by first | omega | (simp; done) | (simp; omega)) _))) hb1⟩
theorem markRows_any (L : List Int) (a : Option Addr) (n cap B : Nat) (k : Int) (w : World) (h : OwnN w B a n cap L) (hB : B ≤ w.heap.size) (hlen : n ≤ 1048577) (hk0 : 0 ≤ k) (hk1 : k ≤ 1073741824) :
    Calls Try.prog 59 #[.agg #[.slice a n cap], .int .i64 k] w fun e w' => ∃ M, e = .returned (.int .i64 (k + n)) ∧ OwnN w' B a n cap M ∧ UpTo (fun i => k + i) n M ∧ w.grownBy w' (Value.slice a n cap).ownBlock := by
  go_enter Try.func59, Try.ntmps59
  go_wp2_with fail
  refine (laws_markInt64S_g L a n cap B k _ (h.kept (by repeat (first | exact Below.refl _ _ | assumption | (refine Below.drew ?_) | (refine below_drewN ?_ _) | (refine Below.alloc ?_ (by first | omega | (simp; done) | (simp; omega)) _) | (refine Below.setCell ?_ (by first | omega | (simp; done) | (simp; omega)) _)))) hlen hk0 hk1).mono ?_
  rintro e w1 ⟨M, rfl, hO, hU, hg⟩
  go_wp2_with fail
  go_ret
  exact ⟨M, rfl, hO, hU, grown_trans (grown_of_below (by repeat (first | exact Below.refl _ _ | assumption | (refine Below.drew ?_) | (refine below_drewN ?_ _) | (refine Below.alloc ?_ (by first | omega | (simp; done) | (simp; omega)) _) | (refine Below.setCell ?_ (by first | omega | (simp; done) | (simp; omega)) _))) _) hg⟩
theorem heldRows_any (L : List Int) (a : Option Addr) (n cap : Nat) (k : Int) (w : World) (hn : L.length = n) (h : Ints w a L) (hu : UpTo (fun i => k + i) n L) (hlen : n ≤ 1048577) (hk0 : 0 ≤ k) (hk1 : k ≤ 1073741824) :
    Calls Try.prog 60 #[.agg #[.slice a n cap], .int .i64 k] w fun e w' => e = .returned (.int .i64 (k + n)) ∧ Below w.heap.size w w' := by
  have HN := Lib.hid hn; clear hn
  go_enter Try.func60, Try.ntmps60
  go_wp2_with fail
  refine (laws_heldInt64S L a n cap k _ HN.out (h.kept (by repeat (first | exact Below.refl _ _ | assumption | (refine Below.drew ?_) | (refine below_drewN ?_ _) | (refine Below.alloc ?_ (by first | omega | (simp; done) | (simp; omega)) _) | (refine Below.setCell ?_ (by first | omega | (simp; done) | (simp; omega)) _)))) hu hlen hk0 hk1).mono ?_
  rintro e w1 ⟨rfl, hb1⟩
  go_wp2_with fail
  go_ret
  exact ⟨rfl, below_step (by repeat (first | exact Below.refl _ _ | assumption | (refine Below.drew ?_) | (refine below_drewN ?_ _) | (refine Below.alloc ?_ (by first | omega | (simp; done) | (simp; omega)) _) | (refine Below.setCell ?_ (by first | omega | (simp; done) | (simp; omega)) _))) hb1⟩
theorem toRows_any (L : List Int) (a : Option Addr) (n cap : Nat) (w : World) (hn : L.length = n) (h : Ints w a L) (hlen : n ≤ 1048577) :
    Calls Try.prog 57 #[.agg #[.slice a n cap]] w fun e w' => ∃ a' cap', e = .returned (.agg #[.slice a' n cap']) ∧ OwnN w' w.heap.size a' n cap' L ∧ Below w.heap.size w w' := by
  have HN := Lib.hid hn; clear hn
  go_enter Try.func57, Try.ntmps57
  go_wp2_with fail
  refine (laws_toInt64S L a n cap _ HN.out (h.kept (by repeat (first | exact Below.refl _ _ | assumption | (refine Below.drew ?_) | (refine below_drewN ?_ _) | (refine Below.alloc ?_ (by first | omega | (simp; done) | (simp; omega)) _) | (refine Below.setCell ?_ (by first | omega | (simp; done) | (simp; omega)) _)))) hlen).mono ?_
  rintro e w1 ⟨a', cap', rfl, hO, hb1⟩
  obtain ⟨hc_w1, hf_w1⟩ := bcell hb1; have HT_w1 : Below w.heap.size w w1 := below_step (by repeat (first | exact Below.refl _ _ | assumption | (refine Below.drew ?_) | (refine below_drewN ?_ _) | (refine Below.alloc ?_ (by first | omega | (simp; done) | (simp; omega)) _) | (refine Below.setCell ?_ (by first | omega | (simp; done) | (simp; omega)) _))) hb1; have hz_w_w1 : w.heap.size < w1.heap.size := (by have h1 := hb1.size; (try simp at h1); omega)
  have hz1 : w.heap.size + 1 < w1.heap.size := by have h1 := hb1.size; (try simp at h1); omega
  have hz2 : w.heap.size + 2 < w1.heap.size := by have h1 := hb1.size; (try simp at h1); omega
  have hO1 := hO.mono (C := w.heap.size + 3) (by simp)
  go_wp2_with fail
  have hO2 := ((hO1.kept_hi (r := some (w.heap.size + 2)) (hg := grownBy_setCell1 _ (w.heap.size + 2) 0 (.slice a' n cap')) (fun k hk => by cases hk; omega)).kept_hi (r := some (w.heap.size + 1)) (hg := grownBy_setCell1 _ (w.heap.size + 1) 0 (.slice a' n cap')) (fun k hk => by cases hk; omega))
  exact bodyPost_ret (v := .agg #[.slice a' n cap']) (by simp [results, Try.results57, go_sem, hc_w1]) rfl ⟨_, _, rfl, hO2.mono (by omega), (HT_w1.setCell (p := ⟨w.heap.size + 2, 0, none⟩) (by simp) _).setCell (p := ⟨w.heap.size + 1, 0, none⟩) (by simp) _⟩
theorem laws_szInt64S (a : Option Addr) (len cap : Nat) (n : Int) (w : World) (hs : len ≤ 9223372036854775807) (h0 : 0 ≤ n) (h1 : n ≤ 1048576) :
    Calls Try.prog 110 #[.slice a len cap, .int .i64 n] w fun e w' => e = .returned (.int .i64 (szI n len)) ∧ w = w' := by
  by_cases h : (len : Int) ≤ n
  · have H := Lib.hid (szI_yes h)
    go_enter Try.func110, Try.ntmps110
    go_wp2
    go_ret
    exact ⟨by rw [H.out]; rfl, rfl⟩
  · have H := Lib.hid (szI_no h)
    go_enter Try.func110, Try.ntmps110
    go_wp2
    go_ret
    exact ⟨by rw [H.out]; rfl, rfl⟩
theorem szRows_any (a : Option Addr) (len cap : Nat) (n : Int) (w : World) (hs : len ≤ 9223372036854775807) (h0 : 0 ≤ n) (h1 : n ≤ 1048576) :
    Calls Try.prog 55 #[.agg #[.slice a len cap], .int .i64 n] w fun e w' => e = .returned (.int .i64 (szI n len)) ∧ Below w.heap.size w w' := by
  by_cases h : (len : Int) ≤ n
  · have H := Lib.hid (szI_yes h)
    go_enter Try.func55, Try.ntmps55
    go_wp2_with (go_at_call 110; refine (laws_szInt64S _ _ _ _ _ hs h0 h1).mono ?_; rintro e w1 ⟨rfl, rfl⟩; rw [H.out])
    go_ret
    exact ⟨by rw [H.out]; rfl, (by repeat (first | exact Below.refl _ _ | assumption | (refine Below.drew ?_) | (refine below_drewN ?_ _) | (refine Below.alloc ?_ (by first | omega | (simp; done) | (simp; omega)) _) | (refine Below.setCell ?_ (by first | omega | (simp; done) | (simp; omega)) _)))⟩
  · have H := Lib.hid (szI_no h)
    go_enter Try.func55, Try.ntmps55
    go_wp2_with (go_at_call 110; refine (laws_szInt64S _ _ _ _ _ hs h0 h1).mono ?_; rintro e w1 ⟨rfl, rfl⟩; rw [H.out])
    go_ret
    exact ⟨by rw [H.out]; rfl, (by repeat (first | exact Below.refl _ _ | assumption | (refine Below.drew ?_) | (refine below_drewN ?_ _) | (refine Below.alloc ?_ (by first | omega | (simp; done) | (simp; omega)) _) | (refine Below.setCell ?_ (by first | omega | (simp; done) | (simp; omega)) _)))⟩
end Go.Proofs.Ytflbjjpkloeocab

/-
  The laws' own helpers on structs of a slice of int64 and a number (Cut).
-/
import Derived.Test.YtflbjjpkloeocabIntLaw
import Derived.Test.YtflbjjpkloeocabL2Pat
import Derived.Test.YtflbjjpkloeocabL4New
namespace Go.Proofs.Ytflbjjpkloeocab
open Go.RowKit
set_option linter.unusedVariables false
set_option maxRecDepth 100000
theorem eqCut_eq (L : List Int) (x : Int) (a1 a2 : Option Addr) (n cap1 cap2 : Nat) (w : World) (hn : L.length = n) (h1 : Ints w a1 L) (h2 : Ints w a2 L) (hlen : n ≤ 1048577) :
    Calls Try.prog 63 #[.agg #[.slice a1 n cap1, .int .i64 x], .agg #[.slice a2 n cap2, .int .i64 x]] w fun e w' => e = .returned (.bool true) ∧ Below w.heap.size w w' := by
  have HN := Lib.hid hn; clear hn
  have e0 : (x != x) = false := by simp
  go_enter Try.func63, Try.ntmps63
  go_wp2_with fail
  refine (laws_eqInt64S L a1 a2 n cap1 cap2 _ HN.out (h1.kept (by repeat (first | exact Below.refl _ _ | assumption | (refine Below.drew ?_) | (refine below_drewN ?_ _) | (refine Below.alloc ?_ (by first | omega | (simp; done) | (simp; omega)) _) | (refine Below.setCell ?_ (by first | omega | (simp; done) | (simp; omega)) _)))) (h2.kept (by repeat (first | exact Below.refl _ _ | assumption | (refine Below.drew ?_) | (refine below_drewN ?_ _) | (refine Below.alloc ?_ (by first | omega | (simp; done) | (simp; omega)) _) | (refine Below.setCell ?_ (by first | omega | (simp; done) | (simp; omega)) _)))) hlen).mono ?_
  rintro e w1 ⟨rfl, hb1⟩
  obtain ⟨hc_w1, hf_w1⟩ := bcell hb1; have HT_w1 : Below w.heap.size w w1 := below_step (by repeat (first | exact Below.refl _ _ | assumption | (refine Below.drew ?_) | (refine below_drewN ?_ _) | (refine Below.alloc ?_ (by first | omega | (simp; done) | (simp; omega)) _) | (refine Below.setCell ?_ (by first | omega | (simp; done) | (simp; omega)) _))) hb1; have hy0_w1 : w.heap.size < w1.heap.size := (by have h1 := hb1.size; (try simp at h1); omega); have hy1_w1 : w.heap.size + 1 < w1.heap.size := (by have h1 := hb1.size; (try simp at h1); omega)
  go_wp2_with fail
  go_ret
  exact ⟨rfl, HT_w1⟩
theorem markCut_any (L : List Int) (x : Int) (a : Option Addr) (n cap B : Nat) (k : Int) (w : World) (h : OwnN w B a n cap L) (hB : B ≤ w.heap.size) (hlen : n ≤ 1048577) (hk0 : 0 ≤ k) (hk1 : k ≤ 1073741824) :
    Calls Try.prog 64 #[.agg #[.slice a n cap, .int .i64 x], .int .i64 k] w fun e w' => ∃ M, e = .returned (.int .i64 (k + n)) ∧ OwnN w' B a n cap M ∧ UpTo (fun i => k + i) n M ∧ w.grownBy w' (Value.slice a n cap).ownBlock := by
  go_enter Try.func64, Try.ntmps64
  go_wp2_with fail
  refine (laws_markInt64S_g L a n cap B k _ (h.kept (by repeat (first | exact Below.refl _ _ | assumption | (refine Below.drew ?_) | (refine below_drewN ?_ _) | (refine Below.alloc ?_ (by first | omega | (simp; done) | (simp; omega)) _) | (refine Below.setCell ?_ (by first | omega | (simp; done) | (simp; omega)) _)))) hlen hk0 hk1).mono ?_
  rintro e w1 ⟨M, rfl, hO, hU, hg⟩
  go_wp2_with fail
  go_ret
  exact ⟨M, rfl, hO, hU, grown_trans (grown_of_below (by repeat (first | exact Below.refl _ _ | assumption | (refine Below.drew ?_) | (refine below_drewN ?_ _) | (refine Below.alloc ?_ (by first | omega | (simp; done) | (simp; omega)) _) | (refine Below.setCell ?_ (by first | omega | (simp; done) | (simp; omega)) _))) _) hg⟩
theorem heldCut_any (L : List Int) (x : Int) (a : Option Addr) (n cap : Nat) (k : Int) (w : World) (hn : L.length = n) (h : Ints w a L) (hu : UpTo (fun i => k + i) n L) (hlen : n ≤ 1048577) (hk0 : 0 ≤ k) (hk1 : k ≤ 1073741824) :
    Calls Try.prog 65 #[.agg #[.slice a n cap, .int .i64 x], .int .i64 k] w fun e w' => e = .returned (.int .i64 (k + n)) ∧ Below w.heap.size w w' := by
  have HN := Lib.hid hn; clear hn
  go_enter Try.func65, Try.ntmps65
  go_wp2_with fail
  refine (laws_heldInt64S L a n cap k _ HN.out (h.kept (by repeat (first | exact Below.refl _ _ | assumption | (refine Below.drew ?_) | (refine below_drewN ?_ _) | (refine Below.alloc ?_ (by first | omega | (simp; done) | (simp; omega)) _) | (refine Below.setCell ?_ (by first | omega | (simp; done) | (simp; omega)) _)))) hu hlen hk0 hk1).mono ?_
  rintro e w1 ⟨rfl, hb1⟩
  go_wp2_with fail
  go_ret
  exact ⟨rfl, below_step (by repeat (first | exact Below.refl _ _ | assumption | (refine Below.drew ?_) | (refine below_drewN ?_ _) | (refine Below.alloc ?_ (by first | omega | (simp; done) | (simp; omega)) _) | (refine Below.setCell ?_ (by first | omega | (simp; done) | (simp; omega)) _))) hb1⟩
theorem below_set2 {B g : Nat} {w1 w : World} (h : Below B w1 w) (hg : B ≤ g) (a b : Value) : Below B w1 ((w.setCell ⟨g, 0, none⟩ a).setCell ⟨g, 1, none⟩ b) :=
  (h.setCell (p := ⟨g, 0, none⟩) hg a).setCell (p := ⟨g, 1, none⟩) hg b
theorem OwnN.set2 {w : World} {B g : Nat} {a : Option Addr} {n cap : Nat} {L : List Int} (h : OwnN w B a n cap L) (hg : g < B) (x y : Value) : OwnN ((w.setCell ⟨g, 0, none⟩ x).setCell ⟨g, 1, none⟩ y) B a n cap L :=
  (h.kept_hi (grownBy_setCell1 w g 0 x) (fun k hk => by cases hk; exact hg)).kept_hi (grownBy_setCell1 _ g 1 y) (fun k hk => by cases hk; exact hg)
theorem toCut_any (L : List Int) (x : Int) (a : Option Addr) (n cap : Nat) (w : World) (hn : L.length = n) (h : Ints w a L) (hlen : n ≤ 1048577) :
    Calls Try.prog 62 #[.agg #[.slice a n cap, .int .i64 x]] w fun e w' => ∃ a' cap', e = .returned (.agg #[.slice a' n cap', .int .i64 x]) ∧ OwnN w' w.heap.size a' n cap' L ∧ Below w.heap.size w w' := by
  have HN := Lib.hid hn; clear hn
  go_enter Try.func62, Try.ntmps62
  go_wp2_with fail
  refine (laws_toInt64S L a n cap _ HN.out (h.kept (by repeat (first | exact Below.refl _ _ | assumption | (refine Below.drew ?_) | (refine below_drewN ?_ _) | (refine Below.alloc ?_ (by first | omega | (simp; done) | (simp; omega)) _) | (refine Below.setCell ?_ (by first | omega | (simp; done) | (simp; omega)) _)))) hlen).mono ?_
  rintro e w1 ⟨a', cap', rfl, hO, hb1⟩
  obtain ⟨hc_w1, hf_w1⟩ := bcell hb1; have HT_w1 : Below w.heap.size w w1 := below_step (by repeat (first | exact Below.refl _ _ | assumption | (refine Below.drew ?_) | (refine below_drewN ?_ _) | (refine Below.alloc ?_ (by first | omega | (simp; done) | (simp; omega)) _) | (refine Below.setCell ?_ (by first | omega | (simp; done) | (simp; omega)) _))) hb1; have hy0_w1 : w.heap.size < w1.heap.size := (by have h1 := hb1.size; (try simp at h1); omega); have hy1_w1 : w.heap.size + 1 < w1.heap.size := (by have h1 := hb1.size; (try simp at h1); omega); have hy2_w1 : w.heap.size + 2 < w1.heap.size := (by have h1 := hb1.size; (try simp at h1); omega)
  have hO1 := hO.mono (C := w.heap.size + 3) (by simp)
  go_wp2_with fail
  have hO2 := (hO1.set2 (g := w.heap.size + 2) (by omega) (.slice a' n cap') (.int .i64 x)).set2 (g := w.heap.size + 1) (by omega) (.slice a' n cap') (.int .i64 x)
  exact bodyPost_ret (v := .agg #[.slice a' n cap', .int .i64 x]) (by simp [results, Try.results62, go_sem, hc_w1]) rfl ⟨_, _, rfl, hO2.mono (by omega), below_set2 (below_set2 HT_w1 (by omega) _ _) (by omega) _ _⟩
theorem laws_szInt64S (a : Option Addr) (len cap : Nat) (n : Int) (w : World) (hs : len ≤ 9223372036854775807) (h0 : 0 ≤ n) (h1 : n ≤ 1048576) :
    Calls Try.prog 110 #[.slice a len cap, .int .i64 n] w fun e w' => e = .returned (.int .i64 (szI n len)) ∧ w = w' := by
  by_cases h : (len : Int) ≤ n
  · have H := Lib.hid (szI_yes h)
    go_enter Try.func110, Try.ntmps110
    go_wp2
    go_ret
    exact ⟨by rw [H.out]; rfl, rfl⟩
  · have H := Lib.hid (szI_no h)
    go_enter Try.func110, Try.ntmps110
    go_wp2
    go_ret
    exact ⟨by rw [H.out]; rfl, rfl⟩
theorem szCut_any (a : Option Addr) (x : Int) (len cap : Nat) (n : Int) (w : World) (hs : len ≤ 9223372036854775807) (h0 : 0 ≤ n) (h1 : n ≤ 1048576) :
    Calls Try.prog 61 #[.agg #[.slice a len cap, .int .i64 x], .int .i64 n] w fun e w' => e = .returned (.int .i64 (szI n len)) ∧ Below w.heap.size w w' := by
  by_cases h : (len : Int) ≤ n
  · have H := Lib.hid (szI_yes h)
    go_enter Try.func61, Try.ntmps61
    go_wp2_with (go_at_call 110; refine (laws_szInt64S _ _ _ _ _ hs h0 h1).mono ?_; rintro e w1 ⟨rfl, rfl⟩; rw [H.out])
    go_ret
    exact ⟨by rw [H.out]; rfl, (by repeat (first | exact Below.refl _ _ | assumption | (refine Below.drew ?_) | (refine below_drewN ?_ _) | (refine Below.alloc ?_ (by first | omega | (simp; done) | (simp; omega)) _) | (refine Below.setCell ?_ (by first | omega | (simp; done) | (simp; omega)) _)))⟩
  · have H := Lib.hid (szI_no h)
    go_enter Try.func61, Try.ntmps61
    go_wp2_with (go_at_call 110; refine (laws_szInt64S _ _ _ _ _ hs h0 h1).mono ?_; rintro e w1 ⟨rfl, rfl⟩; rw [H.out])
    go_ret
    exact ⟨by rw [H.out]; rfl, (by repeat (first | exact Below.refl _ _ | assumption | (refine Below.drew ?_) | (refine below_drewN ?_ _) | (refine Below.alloc ?_ (by first | omega | (simp; done) | (simp; omega)) _) | (refine Below.setCell ?_ (by first | omega | (simp; done) | (simp; omega)) _)))⟩
end Go.Proofs.Ytflbjjpkloeocab

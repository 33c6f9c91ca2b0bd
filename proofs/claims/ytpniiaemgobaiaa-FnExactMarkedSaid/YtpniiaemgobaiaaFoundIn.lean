/-
  A slice of what was found, that came in: its size, the law's copy of it (with XSesTo's text, the names turned).
-/
import Derived.Test.YtpniiaemgobaiaaStructs
import Derived.Deep.RegionLaw
namespace Go.Proofs.Ytpniiaemgobaiaa
open Go.RowKit
set_option linter.unusedVariables false
set_option maxRecDepth 100000
theorem found_info : (Try.prog.info? 45).map (fun i => (i.zero, i.size, i.bytes)) = some (some (.agg #[.int .i64 0, .int .i64 0, .int .i64 0]), 3, 24) := by kernel_rfl
theorem laws_toFound (x y z : Int) (w : World) :
    Calls Try.prog 33 #[.agg #[.int .i64 x, .int .i64 y, .int .i64 z]] w fun e w' => e = .returned (.agg #[.int .i64 x, .int .i64 y, .int .i64 z]) ∧ Below w.heap.size w w' := by
  go_enter Try.func33, Try.ntmps33
  go_wp2
  exact bodyPost_ret (v := .agg #[.int .i64 x, .int .i64 y, .int .i64 z]) (by simp [results, Try.results33, go_sem]) rfl ⟨rfl, (by repeat (first | exact Below.refl _ _ | assumption | (refine Below.drew ?_) | (refine below_drewN ?_ _) | (refine Below.alloc ?_ (by first | omega | (simp; done) | (simp; omega)) _) | (refine Below.setCell ?_ (by first | omega | (simp; done) | (simp; omega)) _)))⟩
theorem OwnM.madeF {w : World} {B : Nat} {g n : Nat} (h : w.ownsRow B 45 3 (.slice (some ⟨g, 0, none⟩) n n) n (madeCells (Value.agg #[.int .i64 0, .int .i64 0, .int .i64 0]).cells (n * 3)).toList) :
    ∃ L, OwnM 45 3 w B (some ⟨g, 0, none⟩) n n L := by
  have e : ∃ L : List Int, (madeCells (Value.agg #[.int .i64 0, .int .i64 0, .int .i64 0]).cells (n * 3)).toList = L.map (Value.int .i64) := by
    refine ⟨List.replicate (n * 3) 0, ?_⟩
    apply List.ext_getElem
    · simp [madeCells]
    · intro i h1 h2
      have hi : i < n * 3 := by simpa using h2
      have hm : i % 3 = 0 ∨ i % 3 = 1 ∨ i % 3 = 2 := by omega
      simp only [madeCells, List.getElem_map, List.getElem_replicate]
      rcases hm with hm | hm | hm <;> simp [Value.cells, hm]
  obtain ⟨L, hL⟩ := e
  rw [hL] at h
  exact ⟨L, by have := h.1; simpa using this, h⟩
set_option maxHeartbeats 2000000 in
theorem laws_toFoundS (L : List Int) (a : Option Addr) (n cap : Nat) (w : World) (hn : L.length = n * 3) (h : Ints w a L) (hlen : n ≤ 1048576) :
    Calls Try.prog 11 #[.slice a n cap] w fun e w' => ∃ a' cap', e = .returned (.slice a' n cap') ∧ OwnM 45 3 w' w.heap.size a' n cap' L ∧ Below w.heap.size w w' := by
  obtain ⟨i0, hi, hz0, hz1, hz2⟩ := info_parts found_info
  have HN := Lib.hid hn; clear hn
  go_enter Try.func11, Try.ntmps11
  go_wp2_with (at_make; refine wpList_make_full _ rfl _ _ 24 rfl w.heap.size 45 i0 (.agg #[.int .i64 0, .int .i64 0, .int .i64 0]) 3 Try.underlying24 hi hz0 hz1 _ _ _ _ n rfl rfl rfl rfl (by rw [hz2]; omega) (by unfold maxLen; omega) (Nat.le_refl _) ?_; intro w1 hown hg)
  have hB1 : Below w.heap.size w w1 := (Below.refl _ _).grown hg (Nat.le_refl _) (fun k hk => by cases hk)
  obtain ⟨L0, hO⟩ := OwnM.madeF hown
  clear hown hg
  go_loopw [4] (fun i wr => ∃ (k : Nat) (M : List Int), k ≤ n ∧ i = .int .i64 k ∧ OwnM 45 3 wr w.heap.size (some ⟨w.heap.size, 0, none⟩) n n M ∧ UpTo (intAt L) (k * 3) M ∧ Below w.heap.size w wr)
    (fun i _ => n - (intOf i).toNat)
  case atStart => exact ⟨0, _, by omega, rfl, hO, UpTo.zero _ _, hB1⟩
  case round =>
    obtain ⟨k, M, hk, rfl, hown, hup, hb⟩ := hrel
    by_cases hlt : k < n
    · obtain ⟨b, off, rfl, hp⟩ := (h.kept hb).at (k * 3) (by rw [HN.out]; omega)
      have c0 := hp (k * 3) (by rw [HN.out]; omega)
      have c1 := hp (k * 3 + 1) (by rw [HN.out]; omega)
      have c2 := hp (k * 3 + 2) (by rw [HN.out]; omega)
      rw [← Nat.add_assoc] at c1 c2
      have hl := hown.len
      have HO := Lib.hid hown
      have HU := Lib.hid hup
      have HL := Lib.hid hl
      clear hown hup h hp hO hl
      generalize hx : intAt L (k * 3) = x at *
      generalize hy : intAt L (k * 3 + 1) = y at *
      generalize hz : intAt L (k * 3 + 2) = z at *
      have HX := Lib.hid (And.intro hx (And.intro hy hz))
      clear hx hy hz
      go_wp2_with fail
      refine (laws_toFound _ _ _ _).mono ?_
      rintro e w2 ⟨rfl, hb2⟩
      have hO2 := HO.out.kept hb2
      have d0 := hO2.cell (k * 3) (by omega)
      have d1 := hO2.cell (k * 3 + 1) (by omega)
      have d2 := hO2.cell (k * 3 + 2) (by omega)
      have f0 := hO2.frozen (k * 3)
      have f1 := hO2.frozen (k * 3 + 1)
      have f2 := hO2.frozen (k * 3 + 2)
      have hO3 := Lib.hid (((hO2.set (k * 3) x).set (k * 3 + 1) y).set (k * 3 + 2) z)
      have hU1 : UpTo (intAt L) (k * 3 + 1) (M.set (k * 3) x) := by have := HU.out.set (show k * 3 < M.length by have := HL.out; omega); rwa [HX.out.1] at this
      have hU2 : UpTo (intAt L) (k * 3 + 1 + 1) ((M.set (k * 3) x).set (k * 3 + 1) y) := by have := hU1.set (by simp; have := HL.out; omega); rwa [HX.out.2.1] at this
      have hU3 : UpTo (intAt L) (k * 3 + 1 + 1 + 1) (((M.set (k * 3) x).set (k * 3 + 1) y).set (k * 3 + 2) z) := by have := hU2.set (by simp; have := HL.out; omega); rwa [show k * 3 + 1 + 1 = k * 3 + 2 from rfl, HX.out.2.2] at this
      have HU3 := Lib.hid hU3
      have hB3 := (((hb.trans (hb2.mono hb.size)).setCell (p := ⟨w.heap.size, k * 3, none⟩) (Nat.le_refl _) (.int .i64 x)).setCell (p := ⟨w.heap.size, k * 3 + 1, none⟩) (Nat.le_refl _) (.int .i64 y)).setCell (p := ⟨w.heap.size, k * 3 + 2, none⟩) (Nat.le_refl _) (.int .i64 z)
      clear hO2 hU1 hU2 hU3 hb2
      go_wp2_with fail
      go_roundw
      case rel => exact ⟨k + 1, _, by omega, by go_num, hO3.out, by have := HU3.out; rwa [show (k + 1) * 3 = k * 3 + 1 + 1 + 1 by omega], hB3⟩
      case measure => simp [intOf]; omega
    · obtain rfl : k = n := by omega
      have hM : M = L := by rw [hup.tab hown.len, ← HN.out, tab_self]
      have HM := Lib.hid hM; clear hM
      go_wp2
      go_ret
      exact ⟨_, _, rfl, by rw [← HM.out]; exact hown, hb⟩
theorem laws_szFoundS (a : Option Addr) (n cap : Nat) (x : Int) (w : World) (hn : n ≤ 9223372036854775807) (h0 : 0 ≤ x) (h1 : x ≤ 1048576) :
    Calls Try.prog 9 #[.slice a n cap, .int .i64 x] w fun e w' => e = .returned (.int .i64 (if x < (n : Int) then -1 else x - (n : Int))) ∧ Below w.heap.size w w' := by
  have hw : IntKind.i64.wrap (x - (n : Int)) = x - (n : Int) := by rw [IntKind.wrap_i64]; omega
  by_cases h : x < (n : Int)
  · have h2 : x - (n : Int) < 0 := by omega
    rw [if_pos h]
    go_enter Try.func9, Try.ntmps9
    go_wp2
    go_ret
    exact ⟨rfl, (by repeat (first | exact Below.refl _ _ | assumption | (refine Below.drew ?_) | (refine below_drewN ?_ _) | (refine Below.alloc ?_ (by first | omega | (simp; done) | (simp; omega)) _) | (refine Below.setCell ?_ (by first | omega | (simp; done) | (simp; omega)) _)))⟩
  · have h2 : ¬ x - (n : Int) < 0 := by omega
    rw [if_neg h]
    go_enter Try.func9, Try.ntmps9
    go_wp2
    go_ret
    exact ⟨rfl, (by repeat (first | exact Below.refl _ _ | assumption | (refine Below.drew ?_) | (refine below_drewN ?_ _) | (refine Below.alloc ?_ (by first | omega | (simp; done) | (simp; omega)) _) | (refine Below.setCell ?_ (by first | omega | (simp; done) | (simp; omega)) _)))⟩
end Go.Proofs.Ytpniiaemgobaiaa

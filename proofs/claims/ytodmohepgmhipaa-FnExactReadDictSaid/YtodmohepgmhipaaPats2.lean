/-
  Slices of patterns: the law's own copies and comparisons; FnExactDictOk's walk.
-/
import Derived.Test.YtodmohepgmhipaaPats
import Derived.Outline
namespace Go.Proofs.Ytodmohepgmhipaa
open Go.RowKit
set_option linter.unusedVariables false
set_option maxRecDepth 100000
theorem pat_info : (Try.prog.info? 73).map (fun i => (i.zero, i.size, i.bytes)) = some (some (.agg #[.string ⟨#[]⟩, .int .i64 0, .bool false]), 3, 32) := by kernel_rfl
/-- block g holds n patterns, the first k those of L -/
def Made (w : World) (g n k : Nat) (L : List Pt) : Prop := ∃ cur : Array Value, w.heap[g]? = some (.cells cur 73 (0, 0)) ∧ cur.size = n * 3 ∧
  ∀ i, i < k → cur[i * 3]? = some (.string (ptAt L i).t) ∧ cur[i * 3 + 1]? = some (.int .i64 (ptAt L i).k) ∧ cur[i * 3 + 2]? = some (.bool (ptAt L i).f)
theorem made_step {w w2 : World} {g n k : Nat} {L : List Pt} {p : Pt} {cu : Array Value} (hg : w2.heap[g]? = some (.cells cu 73 (0, 0))) (hs : cu.size = n * 3) (hk : k < n) (hM : Made w g n k L) (hw : w.heap[g]? = some (.cells cu 73 (0, 0))) (hp : ptAt L k = p) :
    Made (((w2.setCell ⟨g, k * 3, none⟩ (.string p.t)).setCell ⟨g, k * 3 + 1, none⟩ (.int .i64 p.k)).setCell ⟨g, k * 3 + 2, none⟩ (.bool p.f)) g n (k + 1) L := by
  obtain ⟨cur, h1, h2, h3⟩ := hM
  have e : cur = cu := by rw [hw] at h1; simp only [Option.some.injEq, Obj.cells.injEq] at h1; exact h1.1.symm
  subst e
  refine ⟨((cur.setIfInBounds (k * 3) (.string p.t)).setIfInBounds (k * 3 + 1) (.int .i64 p.k)).setIfInBounds (k * 3 + 2) (.bool p.f), ?_, by simpa using hs, fun i hi => ?_⟩
  · exact heap_setCell_same _ _ _ _ _ _ (heap_setCell_same _ _ _ _ _ _ (heap_setCell_same _ _ _ _ _ _ hg))
  · by_cases e : i = k
    · subst e
      rw [hp]
      simp only [Array.getElem?_setIfInBounds, Array.size_setIfInBounds]
      refine ⟨?_, ?_, ?_⟩
      · rw [if_neg (by omega), if_neg (by omega), if_pos trivial, if_pos (by omega)]
      · rw [if_neg (by omega), if_pos trivial, if_pos (by omega)]
      · rw [if_pos trivial, if_pos (by omega)]
    · obtain ⟨q0, q1, q2⟩ := h3 i (by omega)
      simp only [Array.getElem?_setIfInBounds]
      refine ⟨?_, ?_, ?_⟩
      · rw [if_neg (by omega), if_neg (by omega), if_neg (by omega)]; exact q0
      · rw [if_neg (by omega), if_neg (by omega), if_neg (by omega)]; exact q1
      · rw [if_neg (by omega), if_neg (by omega), if_neg (by omega)]; exact q2
theorem made_pats {w : World} {g : Nat} {L : List Pt} (h : Made w g L.length L.length L) : PatsAt w g 0 L := by
  obtain ⟨cur, h1, h2, h3⟩ := h
  intro i hi
  obtain ⟨q0, q1, q2⟩ := h3 i hi
  simp only [Nat.zero_add]
  exact ⟨(cell_of_row w g _ _ _ _ h1).trans q0, (cell_of_row w g _ _ _ _ h1).trans q1, (cell_of_row w g _ _ _ _ h1).trans q2⟩
set_option maxHeartbeats 1000000 in
theorem laws_toPatternS_m (L : List Pt) (a : Option Addr) (cap : Nat) (w : World) (h : Pats w a L) (hlen : L.length ≤ 1048576) :
    Calls Try.prog 21 #[.slice a L.length cap] w fun e w' => e = .returned (.slice (some ⟨w.heap.size, 0, none⟩) L.length L.length) ∧ Made w' w.heap.size L.length L.length L ∧ Below w.heap.size w w' := by
  obtain ⟨i0, hi, hz0, hz1, hz2⟩ := info_parts pat_info
  go_enter Try.func21, Try.ntmps21
  go_wp2_with (at_make; refine wpList_make_full _ rfl _ _ 22 rfl w.heap.size 73 i0 (.agg #[.string ⟨#[]⟩, .int .i64 0, .bool false]) 3 Try.underlying22 hi hz0 hz1 _ _ _ _ L.length rfl rfl rfl rfl (by rw [hz2]; omega) (by unfold maxLen; omega) (Nat.le_refl _) ?_; intro w1 hown hg)
  obtain ⟨_, hmk⟩ := hown
  rcases hmk with ⟨hv, _⟩ | ⟨g, cap1, cur, hv, hge, hgg, hnc, hcm, hcs, _⟩
  · cases hv
  · simp only [Value.slice.injEq, Option.some.injEq, Addr.mk.injEq] at hv
    obtain ⟨⟨rfl, _⟩, _, rfl⟩ := hv
    have hB1 : Below w.heap.size w w1 := (Below.refl _ _).grown hg (Nat.le_refl _) (fun k hk => by cases hk)
    have hM1 : Made w1 w.heap.size L.length 0 L := ⟨cur, hgg, hcs, fun i hi => by omega⟩
    clear hgg hcs hge hcm hnc hg
    go_loopw [4] (fun i wr => ∃ k : Nat, k ≤ L.length ∧ i = .int .i64 k ∧ Made wr w.heap.size L.length k L ∧ Below w.heap.size w wr)
      (fun i _ => L.length - (intOf i).toNat)
    case atStart => exact ⟨0, by omega, rfl, hM1, hB1⟩
    case round =>
      obtain ⟨k, hk, rfl, hM, hb⟩ := hrel
      by_cases hlt : k < L.length
      · obtain ⟨b, off, rfl, hp⟩ := (h.kept hb).at k hlt
        obtain ⟨c0, c1, c2⟩ := hp k hlt
        obtain ⟨cu, hg0, hcs, hcu⟩ := hM
        have HMD := Lib.hid (show Made wr w.heap.size L.length k L from ⟨cu, hg0, hcs, hcu⟩)
        clear hcu h hp
        generalize hpk : ptAt L k = p at *
        have HPK := Lib.hid hpk; clear hpk
        have hgl := lt_of_block hg0
        go_wp2_with fail
        refine (laws_toPattern _ _ _ _).mono ?_
        rintro e w2 ⟨rfl, hb2⟩
        have hg2 : w2.heap[w.heap.size]? = some (.cells cu 73 (0, 0)) := (hb2.block _ hgl).trans hg0
        obtain ⟨v0, k0⟩ : ∃ v, w2.cell? ⟨w.heap.size, k * 3, none⟩ = some v := ⟨cu[k * 3]'(by omega), by rw [cell_of_row w2 _ _ _ _ _ hg2]; simp⟩
        obtain ⟨v1, k1⟩ : ∃ v, w2.cell? ⟨w.heap.size, k * 3 + 1, none⟩ = some v := ⟨cu[k * 3 + 1]'(by omega), by rw [cell_of_row w2 _ _ _ _ _ hg2]; simp⟩
        obtain ⟨v2, k2⟩ : ∃ v, w2.cell? ⟨w.heap.size, k * 3 + 2, none⟩ = some v := ⟨cu[k * 3 + 2]'(by omega), by rw [cell_of_row w2 _ _ _ _ _ hg2]; simp⟩
        have f0 := frozen_of_row w2 _ (k * 3) _ _ hg2
        have f1 := frozen_of_row w2 _ (k * 3 + 1) _ _ hg2
        have f2 := frozen_of_row w2 _ (k * 3 + 2) _ _ hg2
        have hB3 := (((hb.trans (hb2.mono hb.size)).setCell (p := ⟨w.heap.size, k * 3, none⟩) (Nat.le_refl _) (.string p.t)).setCell (p := ⟨w.heap.size, k * 3 + 1, none⟩) (Nat.le_refl _) (.int .i64 p.k)).setCell (p := ⟨w.heap.size, k * 3 + 2, none⟩) (Nat.le_refl _) (.bool p.f)
        have HM3 := Lib.hid (made_step (w2 := w2) (g := w.heap.size) (n := L.length) (k := k) hg2 hcs hlt HMD.out hg0 HPK.out)
        clear hg2 hg0 hcs hb2
        go_wp2_with fail
        go_roundw
        case rel => exact ⟨k + 1, by omega, by go_num, HM3.out, hB3⟩
        case measure => simp [intOf]; omega
      · obtain rfl : k = L.length := by omega
        go_wp2
        go_ret
        exact ⟨rfl, hM, hb⟩
theorem laws_toPatternS (L : List Pt) (a : Option Addr) (cap : Nat) (w : World) (h : Pats w a L) (hlen : L.length ≤ 1048576) :
    Calls Try.prog 21 #[.slice a L.length cap] w fun e w' => ∃ a' cap', e = .returned (.slice a' L.length cap') ∧ Pats w' a' L ∧ Below w.heap.size w w' :=
  (laws_toPatternS_m L a cap w h hlen).mono fun _ _ ⟨h1, h2, h3⟩ => ⟨_, _, h1, .inr ⟨_, _, rfl, made_pats h2⟩, h3⟩
theorem eqPattern_eq (s : ByteArray) (k : Int) (f : Bool) (w : World) :
    Calls Try.prog 49 #[.agg #[.string s, .int .i64 k, .bool f], .agg #[.string s, .int .i64 k, .bool f]] w fun e w' => e = .returned (.bool true) ∧ Below w.heap.size w w' := by
  have e0 : (s.toList != s.toList) = false := by simp
  have e1 : (k != k) = false := by simp
  have e2 : (f != f) = false := by simp
  go_enter Try.func49, Try.ntmps49
  go_wp2
  go_ret
  exact ⟨rfl, (by repeat (first | exact Below.refl _ _ | assumption | (refine Below.drew ?_) | (refine below_drewN ?_ _) | (refine Below.alloc ?_ (by first | omega | (simp; done) | (simp; omega)) _) | (refine Below.setCell ?_ (by first | omega | (simp; done) | (simp; omega)) _)))⟩
set_option maxHeartbeats 1000000 in
theorem laws_eqPatternS (L : List Pt) (a1 a2 : Option Addr) (cap1 cap2 : Nat) (w : World) (h1 : Pats w a1 L) (h2 : Pats w a2 L) (hlen : L.length ≤ 9223372036854775807) :
    Calls Try.prog 11 #[.slice a1 L.length cap1, .slice a2 L.length cap2] w fun e w' => e = .returned (.bool true) ∧ Below w.heap.size w w' := by
  have e0 : ((L.length : Int) != (L.length : Int)) = false := by simp
  go_enter Try.func11, Try.ntmps11
  go_wp2
  go_loopw [5] (fun i wr => ∃ k : Nat, k ≤ L.length ∧ i = .int .i64 k ∧ Below w.heap.size w wr)
    (fun i _ => L.length - (intOf i).toNat)
  case atStart => exact ⟨0, by omega, rfl, Below.refl _ _⟩
  case round =>
    obtain ⟨k, hk, rfl, hb⟩ := hrel
    by_cases hlt : k < L.length
    · obtain ⟨b1, off1, rfl, hp1⟩ := (h1.kept hb).at k hlt
      obtain ⟨b2, off2, rfl, hp2⟩ := (h2.kept hb).at k hlt
      obtain ⟨c0, c1, c2⟩ := hp1 k hlt
      obtain ⟨d0, d1, d2⟩ := hp2 k hlt
      have x0 := cell_regrown c0
      have x1 := cell_regrown c1
      have x2 := cell_regrown c2
      have y0 := cell_regrown d0
      have y1 := cell_regrown d1
      have y2 := cell_regrown d2
      clear h1 h2 hp1 hp2 c0 c1 c2 d0 d1 d2
      generalize ptAt L k = p at *
      go_wp2_with fail
      refine wp_region_quiet_below (by kernel_rfl) (by kernel_rfl) ?_
      repeat (go_big_quiet_step (((go_at_call 49; exact Calls.regrown_of (eqPattern_eq _ _ _ _)))))
      refine wpQuiet_nil ?_
      intro _ hw'
      obtain ⟨⟨dq, osq⟩, hw''⟩ := hw'
      subst hw''
      go_wp2
      go_roundw
      case rel => exact ⟨k + 1, by omega, by go_num, hb.trans ((below_regrown wr dq osq).mono hb.size)⟩
      case measure => simp [intOf]; omega
    · obtain rfl : k = L.length := by omega
      go_wp2
      go_ret
      exact ⟨rfl, hb⟩

end Go.Proofs.Ytodmohepgmhipaa

/-
  Sessions: the laws' copy of one.
-/
import Derived.Test.YtodmohepgmhipaaColsMade
namespace Go.Proofs.Ytodmohepgmhipaa
open Go.RowKit
set_option linter.unusedVariables false
set_option maxRecDepth 100000
theorem rec_info : (Try.prog.info? 106).map (fun i => (i.zero, i.size, i.bytes)) = some (some (.agg #[.int .i64 0, .int .i64 0, .int .i64 0]), 3, 24) := by kernel_rfl
theorem laws_toRec (x y z : Int) (w : World) :
    Calls Try.prog 114 #[.agg #[.int .i64 x, .int .i64 y, .int .i64 z]] w fun e w' => e = .returned (.agg #[.int .i64 x, .int .i64 y, .int .i64 z]) ∧ Below w.heap.size w w' := by
  go_enter Try.func114, Try.ntmps114
  go_wp2
  exact bodyPost_ret (v := .agg #[.int .i64 x, .int .i64 y, .int .i64 z]) (by simp [results, Try.results114, go_sem]) rfl ⟨rfl, (by repeat (first | exact Below.refl _ _ | assumption | (refine Below.drew ?_) | (refine below_drewN ?_ _) | (refine Below.alloc ?_ (by first | omega | (simp; done) | (simp; omega)) _) | (refine Below.setCell ?_ (by first | omega | (simp; done) | (simp; omega)) _)))⟩
theorem OwnM.made3 {w : World} {B : Nat} {g n : Nat} (h : w.ownsRow B 106 3 (.slice (some ⟨g, 0, none⟩) n n) n (madeCells (Value.agg #[.int .i64 0, .int .i64 0, .int .i64 0]).cells (n * 3)).toList) :
    ∃ L, OwnM 106 3 w B (some ⟨g, 0, none⟩) n n L := by
  have e : ∃ L : List Int, (madeCells (Value.agg #[.int .i64 0, .int .i64 0, .int .i64 0]).cells (n * 3)).toList = L.map (Value.int .i64) := by
    refine ⟨List.replicate (n * 3) 0, ?_⟩
    apply List.ext_getElem
    · simp [madeCells]
    · intro i h1 h2
      have hi : i < n * 3 := by simpa using h2
      have hm : i % 3 = 0 ∨ i % 3 = 1 ∨ i % 3 = 2 := by omega
      simp only [madeCells, List.getElem_map, List.getElem_replicate]
      rcases hm with hm | hm | hm <;> simp [Value.cells, hm]
  obtain ⟨L, hL⟩ := e
  rw [hL] at h
  exact ⟨L, by have := h.1; simpa using this, h⟩
set_option maxHeartbeats 2000000 in
theorem laws_toRecS (L : List Int) (a : Option Addr) (n cap : Nat) (w : World) (hn : L.length = n * 3) (h : Ints w a L) (hlen : n ≤ 1048576) :
    Calls Try.prog 75 #[.slice a n cap] w fun e w' => ∃ a' cap', e = .returned (.slice a' n cap') ∧ OwnM 106 3 w' w.heap.size a' n cap' L ∧ Below w.heap.size w w' := by
  obtain ⟨i0, hi, hz0, hz1, hz2⟩ := info_parts rec_info
  have HN := Lib.hid hn; clear hn
  go_enter Try.func75, Try.ntmps75
  go_wp2_with (at_make; refine wpList_make_full _ rfl _ _ 37 rfl w.heap.size 106 i0 (.agg #[.int .i64 0, .int .i64 0, .int .i64 0]) 3 Try.underlying37 hi hz0 hz1 _ _ _ _ n rfl rfl rfl rfl (by rw [hz2]; omega) (by unfold maxLen; omega) (Nat.le_refl _) ?_; intro w1 hown hg)
  have hB1 : Below w.heap.size w w1 := (Below.refl _ _).grown hg (Nat.le_refl _) (fun k hk => by cases hk)
  obtain ⟨L0, hO⟩ := OwnM.made3 hown
  clear hown hg
  go_loopw [4] (fun i wr => ∃ (k : Nat) (M : List Int), k ≤ n ∧ i = .int .i64 k ∧ OwnM 106 3 wr w.heap.size (some ⟨w.heap.size, 0, none⟩) n n M ∧ UpTo (intAt L) (k * 3) M ∧ Below w.heap.size w wr)
    (fun i _ => n - (intOf i).toNat)
  case atStart => exact ⟨0, _, by omega, rfl, hO, UpTo.zero _ _, hB1⟩
  case round =>
    obtain ⟨k, M, hk, rfl, hown, hup, hb⟩ := hrel
    by_cases hlt : k < n
    · obtain ⟨b, off, rfl, hp⟩ := (h.kept hb).at (k * 3) (by rw [HN.out]; omega)
      have c0 := hp (k * 3) (by rw [HN.out]; omega)
      have c1 := hp (k * 3 + 1) (by rw [HN.out]; omega)
      have c2 := hp (k * 3 + 2) (by rw [HN.out]; omega)
      rw [← Nat.add_assoc] at c1 c2
      have hl := hown.len
      have HO := Lib.hid hown
      have HU := Lib.hid hup
      have HL := Lib.hid hl
      clear hown hup h hp hO hl
      generalize hx : intAt L (k * 3) = x at *
      generalize hy : intAt L (k * 3 + 1) = y at *
      generalize hz : intAt L (k * 3 + 2) = z at *
      have HX := Lib.hid (And.intro hx (And.intro hy hz))
      clear hx hy hz
      go_wp2_with fail
      refine (laws_toRec _ _ _ _).mono ?_
      rintro e w2 ⟨rfl, hb2⟩
      have hO2 := HO.out.kept hb2
      have d0 := hO2.cell (k * 3) (by omega)
      have d1 := hO2.cell (k * 3 + 1) (by omega)
      have d2 := hO2.cell (k * 3 + 2) (by omega)
      have f0 := hO2.frozen (k * 3)
      have f1 := hO2.frozen (k * 3 + 1)
      have f2 := hO2.frozen (k * 3 + 2)
      have hO3 := Lib.hid (((hO2.set (k * 3) x).set (k * 3 + 1) y).set (k * 3 + 2) z)
      have hU1 : UpTo (intAt L) (k * 3 + 1) (M.set (k * 3) x) := by have := HU.out.set (show k * 3 < M.length by have := HL.out; omega); rwa [HX.out.1] at this
      have hU2 : UpTo (intAt L) (k * 3 + 1 + 1) ((M.set (k * 3) x).set (k * 3 + 1) y) := by have := hU1.set (by simp; have := HL.out; omega); rwa [HX.out.2.1] at this
      have hU3 : UpTo (intAt L) (k * 3 + 1 + 1 + 1) (((M.set (k * 3) x).set (k * 3 + 1) y).set (k * 3 + 2) z) := by have := hU2.set (by simp; have := HL.out; omega); rwa [show k * 3 + 1 + 1 = k * 3 + 2 from rfl, HX.out.2.2] at this
      have HU3 := Lib.hid hU3
      have hB3 := (((hb.trans (hb2.mono hb.size)).setCell (p := ⟨w.heap.size, k * 3, none⟩) (Nat.le_refl _) (.int .i64 x)).setCell (p := ⟨w.heap.size, k * 3 + 1, none⟩) (Nat.le_refl _) (.int .i64 y)).setCell (p := ⟨w.heap.size, k * 3 + 2, none⟩) (Nat.le_refl _) (.int .i64 z)
      clear hO2 hU1 hU2 hU3 hb2
      go_wp2_with fail
      go_roundw
      case rel => exact ⟨k + 1, _, by omega, by go_num, hO3.out, by have := HU3.out; rwa [show (k + 1) * 3 = k * 3 + 1 + 1 + 1 by omega], hB3⟩
      case measure => simp [intOf]; omega
    · obtain rfl : k = n := by omega
      have hM : M = L := by rw [hup.tab hown.len, ← HN.out, tab_self]
      have HM := Lib.hid hM; clear hM
      go_wp2
      go_ret
      exact ⟨_, _, rfl, by rw [← HM.out]; exact hown, hb⟩
set_option maxHeartbeats 4000000 in
theorem laws_toSession (s : Ses) (v : Value) (w : World) (h : SesV w v s) (hB : SesB 1048576 s) :
    Calls Try.prog 28 #[v] w fun e w' => ∃ v', e = .returned v' ∧ SesW w' w.heap.size w'.heap.size v' s ∧ Below w.heap.size w w' := by
  obtain ⟨ad, ac, aq, cd, cc, cq, nq, rfl, hn, hD, hC, hQ⟩ := h
  obtain ⟨hd, ht, hc, hr, hq⟩ := hB
  unfold sesV
  go_enter Try.func28, Try.ntmps28
  go_wp2_with fail
  refine (laws_toPatternS_m s.D _ _ _ (hD.kept (by repeat (first | exact Below.refl _ _ | assumption | (refine Below.drew ?_) | (refine below_drewN ?_ _) | (refine Below.alloc ?_ (by first | omega | (simp; done) | (simp; omega)) _) | (refine Below.setCell ?_ (by first | omega | (simp; done) | (simp; omega)) _)))) hd).mono ?_
  rintro e w1 ⟨rfl, hM1, hb1⟩
  obtain ⟨hc_w1, hf_w1⟩ := bcell hb1; have HT_w1 : Below w.heap.size w w1 := below_step (by repeat (first | exact Below.refl _ _ | assumption | (refine Below.drew ?_) | (refine below_drewN ?_ _) | (refine Below.alloc ?_ (by first | omega | (simp; done) | (simp; omega)) _) | (refine Below.setCell ?_ (by first | omega | (simp; done) | (simp; omega)) _))) hb1; have hz_w_w1 : w.heap.size < w1.heap.size := (by have h1 := hb1.size; (try simp at h1); omega)
  have hz1 : w.heap.size + 1 < w1.heap.size := by have h1 := hb1.size; (try simp at h1); omega
  have hz2 : w.heap.size + 2 < w1.heap.size := by have h1 := hb1.size; (try simp at h1); omega
  go_wp2_with fail
  obtain ⟨P, hP, hW1⟩ := made_wr hM1
  have hE1 : (some ⟨w.heap.size + 3, 0, none⟩ : Option Addr) = some ⟨w.heap.size + 3, 0, none⟩ := rfl
  have hW1' : Wr w1 (some ⟨w.heap.size + 3, 0, none⟩) P := by simpa using hW1
  have hgl : w.heap.size + 3 < w1.heap.size := by obtain ⟨cur, hh, _⟩ := hM1; have := lt_of_block hh; simpa using this
  have HT1 : Below w.heap.size w ((((w1.setCell ⟨w.heap.size + 2, 0, none⟩ (.slice (some ⟨w.heap.size + 3, 0, none⟩) s.D.length s.D.length)).setCell ⟨w.heap.size + 2, 1, none⟩ (.int .i64 s.r)).setCell ⟨w.heap.size + 2, 2, none⟩ (.int .i64 s.b)).setCell ⟨w.heap.size + 2, 3, none⟩ (.int .i64 s.a)) :=
    (((HT_w1.setCell (p := ⟨w.heap.size + 2, 0, none⟩) (by simp) _).setCell (p := ⟨w.heap.size + 2, 1, none⟩) (by simp) _).setCell (p := ⟨w.heap.size + 2, 2, none⟩) (by simp) _).setCell (p := ⟨w.heap.size + 2, 3, none⟩) (by simp) _
  have hT12 : Trn (fun b => b < w.heap.size + 3) w1 ((((w1.setCell ⟨w.heap.size + 2, 0, none⟩ (.slice (some ⟨w.heap.size + 3, 0, none⟩) s.D.length s.D.length)).setCell ⟨w.heap.size + 2, 1, none⟩ (.int .i64 s.r)).setCell ⟨w.heap.size + 2, 2, none⟩ (.int .i64 s.b)).setCell ⟨w.heap.size + 2, 3, none⟩ (.int .i64 s.a)) :=
    (((Trn.set _ _ _ _ (by omega)).trans (Trn.set _ _ _ _ (by omega))).trans (Trn.set _ _ _ _ (by omega))).trans (Trn.set _ _ _ _ (by omega))
  have hcs : ∀ b o x, w1.cell? ⟨b, o, none⟩ = some x → b < w.heap.size + 2 → ((((w1.setCell ⟨w.heap.size + 2, 0, none⟩ (.slice (some ⟨w.heap.size + 3, 0, none⟩) s.D.length s.D.length)).setCell ⟨w.heap.size + 2, 1, none⟩ (.int .i64 s.r)).setCell ⟨w.heap.size + 2, 2, none⟩ (.int .i64 s.b)).setCell ⟨w.heap.size + 2, 3, none⟩ (.int .i64 s.a)).cell? ⟨b, o, none⟩ = some x := fun b o x hx hb => by
    have hn : ∀ o', (⟨w.heap.size + 2, o', none⟩ : Addr) ≠ ⟨b, o, none⟩ := fun o' e => by simp only [Addr.mk.injEq] at e; omega
    rw [World.cell?_setCell_other _ _ _ _ (hn _), World.cell?_setCell_other _ _ _ _ (hn _), World.cell?_setCell_other _ _ _ _ (hn _), World.cell?_setCell_other _ _ _ _ (hn _)]; exact hx
  have k5 := hcs w.heap.size 5 (.slice aq nq cq) (by go_simp) (by omega)
  have k6 := hcs w.heap.size 6 (.bool s.z) (by go_simp) (by omega)
  have o0 : ((((w1.setCell ⟨w.heap.size + 2, 0, none⟩ (.slice (some ⟨w.heap.size + 3, 0, none⟩) s.D.length s.D.length)).setCell ⟨w.heap.size + 2, 1, none⟩ (.int .i64 s.r)).setCell ⟨w.heap.size + 2, 2, none⟩ (.int .i64 s.b)).setCell ⟨w.heap.size + 2, 3, none⟩ (.int .i64 s.a)).cell? ⟨w.heap.size + 2, 0, none⟩ = some (.slice (some ⟨w.heap.size + 3, 0, none⟩) s.D.length s.D.length) := by go_simp
  have o1 : ((((w1.setCell ⟨w.heap.size + 2, 0, none⟩ (.slice (some ⟨w.heap.size + 3, 0, none⟩) s.D.length s.D.length)).setCell ⟨w.heap.size + 2, 1, none⟩ (.int .i64 s.r)).setCell ⟨w.heap.size + 2, 2, none⟩ (.int .i64 s.b)).setCell ⟨w.heap.size + 2, 3, none⟩ (.int .i64 s.a)).cell? ⟨w.heap.size + 2, 1, none⟩ = some (.int .i64 s.r) := by go_simp
  have o2 : ((((w1.setCell ⟨w.heap.size + 2, 0, none⟩ (.slice (some ⟨w.heap.size + 3, 0, none⟩) s.D.length s.D.length)).setCell ⟨w.heap.size + 2, 1, none⟩ (.int .i64 s.r)).setCell ⟨w.heap.size + 2, 2, none⟩ (.int .i64 s.b)).setCell ⟨w.heap.size + 2, 3, none⟩ (.int .i64 s.a)).cell? ⟨w.heap.size + 2, 2, none⟩ = some (.int .i64 s.b) := by go_simp
  have o3 : ((((w1.setCell ⟨w.heap.size + 2, 0, none⟩ (.slice (some ⟨w.heap.size + 3, 0, none⟩) s.D.length s.D.length)).setCell ⟨w.heap.size + 2, 1, none⟩ (.int .i64 s.r)).setCell ⟨w.heap.size + 2, 2, none⟩ (.int .i64 s.b)).setCell ⟨w.heap.size + 2, 3, none⟩ (.int .i64 s.a)).cell? ⟨w.heap.size + 2, 3, none⟩ = some (.int .i64 s.a) := by go_simp
  have o4 : ((((w1.setCell ⟨w.heap.size + 2, 0, none⟩ (.slice (some ⟨w.heap.size + 3, 0, none⟩) s.D.length s.D.length)).setCell ⟨w.heap.size + 2, 1, none⟩ (.int .i64 s.r)).setCell ⟨w.heap.size + 2, 2, none⟩ (.int .i64 s.b)).setCell ⟨w.heap.size + 2, 3, none⟩ (.int .i64 s.a)).cell? ⟨w.heap.size + 2, 4, none⟩ = some (.slice none 0 0) := by go_simp
  have o5 : ((((w1.setCell ⟨w.heap.size + 2, 0, none⟩ (.slice (some ⟨w.heap.size + 3, 0, none⟩) s.D.length s.D.length)).setCell ⟨w.heap.size + 2, 1, none⟩ (.int .i64 s.r)).setCell ⟨w.heap.size + 2, 2, none⟩ (.int .i64 s.b)).setCell ⟨w.heap.size + 2, 3, none⟩ (.int .i64 s.a)).cell? ⟨w.heap.size + 2, 5, none⟩ = some (.slice none 0 0) := by go_simp
  have o6 : ((((w1.setCell ⟨w.heap.size + 2, 0, none⟩ (.slice (some ⟨w.heap.size + 3, 0, none⟩) s.D.length s.D.length)).setCell ⟨w.heap.size + 2, 1, none⟩ (.int .i64 s.r)).setCell ⟨w.heap.size + 2, 2, none⟩ (.int .i64 s.b)).setCell ⟨w.heap.size + 2, 3, none⟩ (.int .i64 s.a)).cell? ⟨w.heap.size + 2, 6, none⟩ = some (.bool false) := by go_simp
  have r0 : ((((w1.setCell ⟨w.heap.size + 2, 0, none⟩ (.slice (some ⟨w.heap.size + 3, 0, none⟩) s.D.length s.D.length)).setCell ⟨w.heap.size + 2, 1, none⟩ (.int .i64 s.r)).setCell ⟨w.heap.size + 2, 2, none⟩ (.int .i64 s.b)).setCell ⟨w.heap.size + 2, 3, none⟩ (.int .i64 s.a)).cell? ⟨w.heap.size + 1, 0, none⟩ = some (.slice none 0 0) := by go_simp
  have r1 : ((((w1.setCell ⟨w.heap.size + 2, 0, none⟩ (.slice (some ⟨w.heap.size + 3, 0, none⟩) s.D.length s.D.length)).setCell ⟨w.heap.size + 2, 1, none⟩ (.int .i64 s.r)).setCell ⟨w.heap.size + 2, 2, none⟩ (.int .i64 s.b)).setCell ⟨w.heap.size + 2, 3, none⟩ (.int .i64 s.a)).cell? ⟨w.heap.size + 1, 1, none⟩ = some (.int .i64 0) := by go_simp
  have r2 : ((((w1.setCell ⟨w.heap.size + 2, 0, none⟩ (.slice (some ⟨w.heap.size + 3, 0, none⟩) s.D.length s.D.length)).setCell ⟨w.heap.size + 2, 1, none⟩ (.int .i64 s.r)).setCell ⟨w.heap.size + 2, 2, none⟩ (.int .i64 s.b)).setCell ⟨w.heap.size + 2, 3, none⟩ (.int .i64 s.a)).cell? ⟨w.heap.size + 1, 2, none⟩ = some (.int .i64 0) := by go_simp
  have r3 : ((((w1.setCell ⟨w.heap.size + 2, 0, none⟩ (.slice (some ⟨w.heap.size + 3, 0, none⟩) s.D.length s.D.length)).setCell ⟨w.heap.size + 2, 1, none⟩ (.int .i64 s.r)).setCell ⟨w.heap.size + 2, 2, none⟩ (.int .i64 s.b)).setCell ⟨w.heap.size + 2, 3, none⟩ (.int .i64 s.a)).cell? ⟨w.heap.size + 1, 3, none⟩ = some (.int .i64 0) := by go_simp
  have r4 : ((((w1.setCell ⟨w.heap.size + 2, 0, none⟩ (.slice (some ⟨w.heap.size + 3, 0, none⟩) s.D.length s.D.length)).setCell ⟨w.heap.size + 2, 1, none⟩ (.int .i64 s.r)).setCell ⟨w.heap.size + 2, 2, none⟩ (.int .i64 s.b)).setCell ⟨w.heap.size + 2, 3, none⟩ (.int .i64 s.a)).cell? ⟨w.heap.size + 1, 4, none⟩ = some (.slice none 0 0) := by go_simp
  have r5 : ((((w1.setCell ⟨w.heap.size + 2, 0, none⟩ (.slice (some ⟨w.heap.size + 3, 0, none⟩) s.D.length s.D.length)).setCell ⟨w.heap.size + 2, 1, none⟩ (.int .i64 s.r)).setCell ⟨w.heap.size + 2, 2, none⟩ (.int .i64 s.b)).setCell ⟨w.heap.size + 2, 3, none⟩ (.int .i64 s.a)).cell? ⟨w.heap.size + 1, 5, none⟩ = some (.slice none 0 0) := by go_simp
  have r6 : ((((w1.setCell ⟨w.heap.size + 2, 0, none⟩ (.slice (some ⟨w.heap.size + 3, 0, none⟩) s.D.length s.D.length)).setCell ⟨w.heap.size + 2, 1, none⟩ (.int .i64 s.r)).setCell ⟨w.heap.size + 2, 2, none⟩ (.int .i64 s.b)).setCell ⟨w.heap.size + 2, 3, none⟩ (.int .i64 s.a)).cell? ⟨w.heap.size + 1, 6, none⟩ = some (.bool false) := by go_simp
  have fo : ∀ o, ((((w1.setCell ⟨w.heap.size + 2, 0, none⟩ (.slice (some ⟨w.heap.size + 3, 0, none⟩) s.D.length s.D.length)).setCell ⟨w.heap.size + 2, 1, none⟩ (.int .i64 s.r)).setCell ⟨w.heap.size + 2, 2, none⟩ (.int .i64 s.b)).setCell ⟨w.heap.size + 2, 3, none⟩ (.int .i64 s.a)).frozen? ⟨w.heap.size + 2, o, none⟩ = false := fun o => by go_simp
  have fr : ∀ o, ((((w1.setCell ⟨w.heap.size + 2, 0, none⟩ (.slice (some ⟨w.heap.size + 3, 0, none⟩) s.D.length s.D.length)).setCell ⟨w.heap.size + 2, 1, none⟩ (.int .i64 s.r)).setCell ⟨w.heap.size + 2, 2, none⟩ (.int .i64 s.b)).setCell ⟨w.heap.size + 2, 3, none⟩ (.int .i64 s.a)).frozen? ⟨w.heap.size + 1, o, none⟩ = false := fun o => by go_simp
  have hWA := hW1'.trn hT12 fun hV g o e => by cases e; omega
  have hsA : ((((w1.setCell ⟨w.heap.size + 2, 0, none⟩ (.slice (some ⟨w.heap.size + 3, 0, none⟩) s.D.length s.D.length)).setCell ⟨w.heap.size + 2, 1, none⟩ (.int .i64 s.r)).setCell ⟨w.heap.size + 2, 2, none⟩ (.int .i64 s.b)).setCell ⟨w.heap.size + 2, 3, none⟩ (.int .i64 s.a)).heap.size = w1.heap.size := by go_simp
  replace hsA : w.heap.size + 3 < ((((w1.setCell ⟨w.heap.size + 2, 0, none⟩ (.slice (some ⟨w.heap.size + 3, 0, none⟩) s.D.length s.D.length)).setCell ⟨w.heap.size + 2, 1, none⟩ (.int .i64 s.r)).setCell ⟨w.heap.size + 2, 2, none⟩ (.int .i64 s.b)).setCell ⟨w.heap.size + 2, 3, none⟩ (.int .i64 s.a)).heap.size := by rw [hsA]; exact hgl
  clear hT12 hcs hW1 hW1' hE1
  generalize ((((w1.setCell ⟨w.heap.size + 2, 0, none⟩ (.slice (some ⟨w.heap.size + 3, 0, none⟩) s.D.length s.D.length)).setCell ⟨w.heap.size + 2, 1, none⟩ (.int .i64 s.r)).setCell ⟨w.heap.size + 2, 2, none⟩ (.int .i64 s.b)).setCell ⟨w.heap.size + 2, 3, none⟩ (.int .i64 s.a)) = wA at *
  refine (laws_toInt64SS s.C _ _ _ (hC.kept HT1) hc hr).mono ?_
  rintro e w2 ⟨cA, cC, rfl, hC2, hL2, hb2⟩
  clear hM1 hb1 hc_w1 hf_w1 HT_w1
  replace k5 := (hb2.cell (p := ⟨w.heap.size, _, none⟩) (by simp only; omega)).trans k5
  replace k6 := (hb2.cell (p := ⟨w.heap.size, _, none⟩) (by simp only; omega)).trans k6
  replace o0 := (hb2.cell (p := ⟨w.heap.size + 2, _, none⟩) (by simp only; omega)).trans o0
  replace o1 := (hb2.cell (p := ⟨w.heap.size + 2, _, none⟩) (by simp only; omega)).trans o1
  replace o2 := (hb2.cell (p := ⟨w.heap.size + 2, _, none⟩) (by simp only; omega)).trans o2
  replace o3 := (hb2.cell (p := ⟨w.heap.size + 2, _, none⟩) (by simp only; omega)).trans o3
  replace o4 := (hb2.cell (p := ⟨w.heap.size + 2, _, none⟩) (by simp only; omega)).trans o4
  replace o5 := (hb2.cell (p := ⟨w.heap.size + 2, _, none⟩) (by simp only; omega)).trans o5
  replace o6 := (hb2.cell (p := ⟨w.heap.size + 2, _, none⟩) (by simp only; omega)).trans o6
  replace r0 := (hb2.cell (p := ⟨w.heap.size + 1, _, none⟩) (by simp only; omega)).trans r0
  replace r1 := (hb2.cell (p := ⟨w.heap.size + 1, _, none⟩) (by simp only; omega)).trans r1
  replace r2 := (hb2.cell (p := ⟨w.heap.size + 1, _, none⟩) (by simp only; omega)).trans r2
  replace r3 := (hb2.cell (p := ⟨w.heap.size + 1, _, none⟩) (by simp only; omega)).trans r3
  replace r4 := (hb2.cell (p := ⟨w.heap.size + 1, _, none⟩) (by simp only; omega)).trans r4
  replace r5 := (hb2.cell (p := ⟨w.heap.size + 1, _, none⟩) (by simp only; omega)).trans r5
  replace r6 := (hb2.cell (p := ⟨w.heap.size + 1, _, none⟩) (by simp only; omega)).trans r6
  replace fo : ∀ o, w2.frozen? ⟨w.heap.size + 2, o, none⟩ = false := fun o => (hb2.frozen (p := ⟨w.heap.size + 2, o, none⟩) (by simp only; omega)).trans (fo o)
  replace fr : ∀ o, w2.frozen? ⟨w.heap.size + 1, o, none⟩ = false := fun o => (hb2.frozen (p := ⟨w.heap.size + 1, o, none⟩) (by simp only; omega)).trans (fr o)
  have hWA2 := hWA.kept hb2
  have HT2 := below_step HT1 hb2
  have hsB := hb2.size
  clear hb2 hWA HT1
  go_wp2_with fail
  have p0 : (w2.setCell ⟨w.heap.size + 2, 4, none⟩ (.slice (some ⟨wA.heap.size, 0, none⟩) s.C.length s.C.length)).cell? ⟨w.heap.size + 2, 0, none⟩ = some (.slice (some ⟨w.heap.size + 3, 0, none⟩) s.D.length s.D.length) := (World.cell?_setCell_other _ _ _ _ (by simp)).trans o0
  have p1 : (w2.setCell ⟨w.heap.size + 2, 4, none⟩ (.slice (some ⟨wA.heap.size, 0, none⟩) s.C.length s.C.length)).cell? ⟨w.heap.size + 2, 1, none⟩ = some (.int .i64 s.r) := (World.cell?_setCell_other _ _ _ _ (by simp)).trans o1
  have p2 : (w2.setCell ⟨w.heap.size + 2, 4, none⟩ (.slice (some ⟨wA.heap.size, 0, none⟩) s.C.length s.C.length)).cell? ⟨w.heap.size + 2, 2, none⟩ = some (.int .i64 s.b) := (World.cell?_setCell_other _ _ _ _ (by simp)).trans o2
  have p3 : (w2.setCell ⟨w.heap.size + 2, 4, none⟩ (.slice (some ⟨wA.heap.size, 0, none⟩) s.C.length s.C.length)).cell? ⟨w.heap.size + 2, 3, none⟩ = some (.int .i64 s.a) := (World.cell?_setCell_other _ _ _ _ (by simp)).trans o3
  have p4 : (w2.setCell ⟨w.heap.size + 2, 4, none⟩ (.slice (some ⟨wA.heap.size, 0, none⟩) s.C.length s.C.length)).cell? ⟨w.heap.size + 2, 4, none⟩ = some (.slice (some ⟨wA.heap.size, 0, none⟩) s.C.length s.C.length) := World.cell?_setCell_same _ _ _ o4
  have p5 : (w2.setCell ⟨w.heap.size + 2, 4, none⟩ (.slice (some ⟨wA.heap.size, 0, none⟩) s.C.length s.C.length)).cell? ⟨w.heap.size + 2, 5, none⟩ = some (.slice none 0 0) := (World.cell?_setCell_other _ _ _ _ (by simp)).trans o5
  have p6 : (w2.setCell ⟨w.heap.size + 2, 4, none⟩ (.slice (some ⟨wA.heap.size, 0, none⟩) s.C.length s.C.length)).cell? ⟨w.heap.size + 2, 6, none⟩ = some (.bool false) := (World.cell?_setCell_other _ _ _ _ (by simp)).trans o6
  have q0 : (w2.setCell ⟨w.heap.size + 2, 4, none⟩ (.slice (some ⟨wA.heap.size, 0, none⟩) s.C.length s.C.length)).cell? ⟨w.heap.size + 1, 0, none⟩ = some (.slice none 0 0) := (World.cell?_setCell_other _ _ _ _ (by simp)).trans r0
  have q1 : (w2.setCell ⟨w.heap.size + 2, 4, none⟩ (.slice (some ⟨wA.heap.size, 0, none⟩) s.C.length s.C.length)).cell? ⟨w.heap.size + 1, 1, none⟩ = some (.int .i64 0) := (World.cell?_setCell_other _ _ _ _ (by simp)).trans r1
  have q2 : (w2.setCell ⟨w.heap.size + 2, 4, none⟩ (.slice (some ⟨wA.heap.size, 0, none⟩) s.C.length s.C.length)).cell? ⟨w.heap.size + 1, 2, none⟩ = some (.int .i64 0) := (World.cell?_setCell_other _ _ _ _ (by simp)).trans r2
  have q3 : (w2.setCell ⟨w.heap.size + 2, 4, none⟩ (.slice (some ⟨wA.heap.size, 0, none⟩) s.C.length s.C.length)).cell? ⟨w.heap.size + 1, 3, none⟩ = some (.int .i64 0) := (World.cell?_setCell_other _ _ _ _ (by simp)).trans r3
  have q4 : (w2.setCell ⟨w.heap.size + 2, 4, none⟩ (.slice (some ⟨wA.heap.size, 0, none⟩) s.C.length s.C.length)).cell? ⟨w.heap.size + 1, 4, none⟩ = some (.slice none 0 0) := (World.cell?_setCell_other _ _ _ _ (by simp)).trans r4
  have q5 : (w2.setCell ⟨w.heap.size + 2, 4, none⟩ (.slice (some ⟨wA.heap.size, 0, none⟩) s.C.length s.C.length)).cell? ⟨w.heap.size + 1, 5, none⟩ = some (.slice none 0 0) := (World.cell?_setCell_other _ _ _ _ (by simp)).trans r5
  have q6 : (w2.setCell ⟨w.heap.size + 2, 4, none⟩ (.slice (some ⟨wA.heap.size, 0, none⟩) s.C.length s.C.length)).cell? ⟨w.heap.size + 1, 6, none⟩ = some (.bool false) := (World.cell?_setCell_other _ _ _ _ (by simp)).trans r6
  have l6 : (w2.setCell ⟨w.heap.size + 2, 4, none⟩ (.slice (some ⟨wA.heap.size, 0, none⟩) s.C.length s.C.length)).cell? ⟨w.heap.size, 6, none⟩ = some (.bool s.z) := (World.cell?_setCell_other _ _ _ _ (by simp)).trans k6
  have go : ∀ o, (w2.setCell ⟨w.heap.size + 2, 4, none⟩ (.slice (some ⟨wA.heap.size, 0, none⟩) s.C.length s.C.length)).frozen? ⟨w.heap.size + 2, o, none⟩ = false := fun o => by rw [World.frozen?_setCell]; exact fo o
  have gr : ∀ o, (w2.setCell ⟨w.heap.size + 2, 4, none⟩ (.slice (some ⟨wA.heap.size, 0, none⟩) s.C.length s.C.length)).frozen? ⟨w.heap.size + 1, o, none⟩ = false := fun o => by rw [World.frozen?_setCell]; exact fr o
  have hT : Trn (fun b => b < w.heap.size + 3) w2 (w2.setCell ⟨w.heap.size + 2, 4, none⟩ (.slice (some ⟨wA.heap.size, 0, none⟩) s.C.length s.C.length)) := Trn.set _ _ _ _ (by omega)
  have hWB := hWA2.trn hT fun hV g o e => by cases e; omega
  have hCB : ColsW (w2.setCell ⟨w.heap.size + 2, 4, none⟩ (.slice (some ⟨wA.heap.size, 0, none⟩) s.C.length s.C.length)) (some ⟨wA.heap.size, 0, none⟩) cA cC s.C := ⟨hC2.top.trn hT fun hV g o e => by cases e; omega, fun j hj => Wr.trn (hC2.row j hj) hT fun hV g o e => by obtain ⟨g2, o2, e2, h1, h2⟩ := hL2.inn (j + 1) (by omega) (map_nil hV); have e3 : cA j = some ⟨g2, o2, none⟩ := e2; rw [e] at e3; cases e3; omega⟩
  have HTB : Below w.heap.size w (w2.setCell ⟨w.heap.size + 2, 4, none⟩ (.slice (some ⟨wA.heap.size, 0, none⟩) s.C.length s.C.length)) := HT2.setCell (p := ⟨w.heap.size + 2, 4, none⟩) (by simp) _
  have hsC : (w2.setCell ⟨w.heap.size + 2, 4, none⟩ (.slice (some ⟨wA.heap.size, 0, none⟩) s.C.length s.C.length)).heap.size = w2.heap.size := by simp [World.setCell]
  have HSC := Lib.hid hsC
  replace hsC : wA.heap.size ≤ (w2.setCell ⟨w.heap.size + 2, 4, none⟩ (.slice (some ⟨wA.heap.size, 0, none⟩) s.C.length s.C.length)).heap.size := by rw [hsC]; exact hsB
  clear k5 k6 o0 o1 o2 o3 o4 o5 o6 r0 r1 r2 r3 r4 r5 r6 fo fr hT hWA2 hC2 HT2
  generalize (w2.setCell ⟨w.heap.size + 2, 4, none⟩ (.slice (some ⟨wA.heap.size, 0, none⟩) s.C.length s.C.length)) = wB at *
  refine (laws_toRecS s.Q _ nq _ _ hn (hQ.kept HTB) (by omega)).mono ?_
  rintro e w3 ⟨aq3, cq3, rfl, hO3, hb3⟩
  replace l6 := (hb3.cell (p := ⟨w.heap.size, _, none⟩) (by simp only; omega)).trans l6
  replace p0 := (hb3.cell (p := ⟨w.heap.size + 2, _, none⟩) (by simp only; omega)).trans p0
  replace p1 := (hb3.cell (p := ⟨w.heap.size + 2, _, none⟩) (by simp only; omega)).trans p1
  replace p2 := (hb3.cell (p := ⟨w.heap.size + 2, _, none⟩) (by simp only; omega)).trans p2
  replace p3 := (hb3.cell (p := ⟨w.heap.size + 2, _, none⟩) (by simp only; omega)).trans p3
  replace p4 := (hb3.cell (p := ⟨w.heap.size + 2, _, none⟩) (by simp only; omega)).trans p4
  replace p5 := (hb3.cell (p := ⟨w.heap.size + 2, _, none⟩) (by simp only; omega)).trans p5
  replace p6 := (hb3.cell (p := ⟨w.heap.size + 2, _, none⟩) (by simp only; omega)).trans p6
  replace q0 := (hb3.cell (p := ⟨w.heap.size + 1, _, none⟩) (by simp only; omega)).trans q0
  replace q1 := (hb3.cell (p := ⟨w.heap.size + 1, _, none⟩) (by simp only; omega)).trans q1
  replace q2 := (hb3.cell (p := ⟨w.heap.size + 1, _, none⟩) (by simp only; omega)).trans q2
  replace q3 := (hb3.cell (p := ⟨w.heap.size + 1, _, none⟩) (by simp only; omega)).trans q3
  replace q4 := (hb3.cell (p := ⟨w.heap.size + 1, _, none⟩) (by simp only; omega)).trans q4
  replace q5 := (hb3.cell (p := ⟨w.heap.size + 1, _, none⟩) (by simp only; omega)).trans q5
  replace q6 := (hb3.cell (p := ⟨w.heap.size + 1, _, none⟩) (by simp only; omega)).trans q6
  replace go : ∀ o, w3.frozen? ⟨w.heap.size + 2, o, none⟩ = false := fun o => (hb3.frozen (p := ⟨w.heap.size + 2, o, none⟩) (by simp only; omega)).trans (go o)
  replace gr : ∀ o, w3.frozen? ⟨w.heap.size + 1, o, none⟩ = false := fun o => (hb3.frozen (p := ⟨w.heap.size + 1, o, none⟩) (by simp only; omega)).trans (gr o)
  have go5 := go 5
  have go6 := go 6
  have gr0 := gr 0
  have gr1 := gr 1
  have gr2 := gr 2
  have gr3 := gr 3
  have gr4 := gr 4
  have gr5 := gr 5
  have gr6 := gr 6
  have HN := Lib.hid hn
  have HP := Lib.hid (show SesP w3 (w.heap.size + 3) w3.heap.size (some ⟨w.heap.size + 3, 0, none⟩) (some ⟨wA.heap.size, 0, none⟩) aq3 cA cC P s from
    ⟨hP, hWB.kept hb3, ⟨hCB.top.kept hb3, fun j hj => Wr.kept (hCB.row j hj) hb3⟩, hO3.v.wr,
      Lies.ses (b0 := w.heap.size + 3) (e0 := w.heap.size + 4) (b1 := wA.heap.size) (e1 := w2.heap.size) (b2 := wB.heap.size) (e2 := w3.heap.size) (fun _ => ⟨_, 0, rfl, Nat.le_refl _, by omega⟩) hL2
        (fun hq => hO3.v.lie (by omega)) (by omega) (by have := HSC.out; omega) (by have := HSC.out; omega) ⟨by omega, by omega, by have := HSC.out; omega⟩ ⟨by have := hb3.size; omega, by have := hb3.size; have := HSC.out; omega, Nat.le_refl _⟩⟩)
  have HT3 := Lib.hid (below_step HTB hb3)
  have hs3 := hb3.size
  clear hb3 HTB hO3 hWB hCB hL2 go gr hQ hD hC hn hP hd ht hc hr hq
  go_wp2_with fail
  refine bodyPost_ret (v := sesV (some ⟨w.heap.size + 3, 0, none⟩) (some ⟨wA.heap.size, 0, none⟩) aq3 s.D.length s.C.length cq3 nq s) (by simp [results, Try.results28, go_sem, sesV, q0, q1, q2, q3, q4, q5, q6]) rfl ⟨_, rfl, ?_, ?_⟩
  · refine SesW.wide (B := w.heap.size + 3) (E := w3.heap.size) (SesW.trn (w := w3) ⟨_, _, _, _, _, _, _, cA, cC, P, rfl, HN.out, HP.out⟩ (S := fun b => b < w.heap.size + 3) ((((((((((Trn.refl _ _).trans (Trn.set (S := fun b => b < w.heap.size + 3) _ (w.heap.size + 2) 5 (.slice aq3 nq cq3) (by omega))).trans (Trn.set (S := fun b => b < w.heap.size + 3) _ (w.heap.size + 2) 6 (.bool s.z) (by omega))).trans (Trn.set (S := fun b => b < w.heap.size + 3) _ (w.heap.size + 1) 0 (.slice (some ⟨w.heap.size + 3, 0, none⟩) s.D.length s.D.length) (by omega))).trans (Trn.set (S := fun b => b < w.heap.size + 3) _ (w.heap.size + 1) 1 (.int .i64 s.r) (by omega))).trans (Trn.set (S := fun b => b < w.heap.size + 3) _ (w.heap.size + 1) 2 (.int .i64 s.b) (by omega))).trans (Trn.set (S := fun b => b < w.heap.size + 3) _ (w.heap.size + 1) 3 (.int .i64 s.a) (by omega))).trans (Trn.set (S := fun b => b < w.heap.size + 3) _ (w.heap.size + 1) 4 (.slice (some ⟨wA.heap.size, 0, none⟩) s.C.length s.C.length) (by omega))).trans (Trn.set (S := fun b => b < w.heap.size + 3) _ (w.heap.size + 1) 5 (.slice aq3 nq cq3) (by omega))).trans (Trn.set (S := fun b => b < w.heap.size + 3) _ (w.heap.size + 1) 6 (.bool s.z) (by omega))) (fun k hk => .inl hk)) (by omega) (by simp [World.setCell])
  · exact (((((((((HT3.out.setCell (p := ⟨w.heap.size + 2, 5, none⟩) (by simp) (.slice aq3 nq cq3)).setCell (p := ⟨w.heap.size + 2, 6, none⟩) (by simp) (.bool s.z)).setCell (p := ⟨w.heap.size + 1, 0, none⟩) (by simp) (.slice (some ⟨w.heap.size + 3, 0, none⟩) s.D.length s.D.length)).setCell (p := ⟨w.heap.size + 1, 1, none⟩) (by simp) (.int .i64 s.r)).setCell (p := ⟨w.heap.size + 1, 2, none⟩) (by simp) (.int .i64 s.b)).setCell (p := ⟨w.heap.size + 1, 3, none⟩) (by simp) (.int .i64 s.a)).setCell (p := ⟨w.heap.size + 1, 4, none⟩) (by simp) (.slice (some ⟨wA.heap.size, 0, none⟩) s.C.length s.C.length)).setCell (p := ⟨w.heap.size + 1, 5, none⟩) (by simp) (.slice aq3 nq cq3)).setCell (p := ⟨w.heap.size + 1, 6, none⟩) (by simp) (.bool s.z))
theorem laws_toSession_x (s : Ses) (v : Value) (w : World) (h : SesV w v s) (hB : SesB 1048576 s) :
    Calls Try.prog 28 #[v] w fun e w' => ∃ ad ac aq cd cc cq nq, e = .returned (.agg #[.slice ad s.D.length cd, .int .i64 s.r, .int .i64 s.b, .int .i64 s.a, .slice ac s.C.length cc, .slice aq nq cq, .bool s.z]) ∧ SesW w' w.heap.size w'.heap.size (.agg #[.slice ad s.D.length cd, .int .i64 s.r, .int .i64 s.b, .int .i64 s.a, .slice ac s.C.length cc, .slice aq nq cq, .bool s.z]) s ∧ Below w.heap.size w w' :=
  (laws_toSession s v w h hB).mono fun e w' ⟨v', he, hW, hb⟩ => by
    have hW2 := hW
    obtain ⟨ad, ac, aq, cd, cc, cq, nq, cA, cC, P, hv, _⟩ := hW
    subst hv
    exact ⟨ad, ac, aq, cd, cc, cq, nq, he, hW2, hb⟩
end Go.Proofs.Ytodmohepgmhipaa

/-
  cloneSession: a session in memory of its own.
-/
import Derived.Test.YtodmohepgmhipaaClones
import Derived.Test.YtodmohepgmhipaaColsApp
namespace Go.Proofs.Ytodmohepgmhipaa
open Go.RowKit
set_option linter.unusedVariables false
set_option maxRecDepth 100000
set_option maxHeartbeats 8000000 in
theorem impl_cloneSession (s : Ses) (v : Value) (w : World) (h : SesV w v s) (hB : SesB 1048576 s) :
    Calls Try.prog 77 #[v] w fun e w' => ∃ ad ac aq cd cc cq nq, e = .returned (.agg #[.slice ad s.D.length cd, .int .i64 s.r, .int .i64 s.b, .int .i64 s.a, .slice ac s.C.length cc, .slice aq nq cq, .bool s.z]) ∧ SesW w' w.heap.size w'.heap.size (.agg #[.slice ad s.D.length cd, .int .i64 s.r, .int .i64 s.b, .int .i64 s.a, .slice ac s.C.length cc, .slice aq nq cq, .bool s.z]) s ∧ ((aq = none ∧ nq = 0 ∧ cq = 0) ∨ ∃ g, aq = some ⟨g, 0, none⟩ ∧ nq ≤ cq) ∧ Below w.heap.size w w' := by
  obtain ⟨ad, ac, aq, cd, cc, cq, nq, rfl, hn, hD, hC, hQ⟩ := h
  obtain ⟨hd, ht, hc, hr, hq⟩ := hB
  obtain ⟨i0, hi, hz0, hz1, hz2⟩ := info_parts row_info
  have HT := Lib.hid ht
  have HRR := Lib.hid hr
  clear ht hr
  unfold sesV
  go_enter Try.func77, Try.ntmps77
  go_wp2_with fail
  have b0 : ((w.alloc (.cells #[.slice ad s.D.length cd, .int .i64 s.r, .int .i64 s.b, .int .i64 s.a, .slice ac s.C.length cc, .slice aq nq cq, .bool s.z] 49)).alloc (.cells #[.slice none 0 0, .int .i64 0, .int .i64 0, .int .i64 0, .slice none 0 0, .slice none 0 0, .bool false] 49)).cell? ⟨w.heap.size, 0, none⟩ = some (.slice ad s.D.length cd) := by rw [cell_of_row _ _ 0 _ _ _ (heap_alloc2_old _ _ _)]; rfl
  have b1 : ((w.alloc (.cells #[.slice ad s.D.length cd, .int .i64 s.r, .int .i64 s.b, .int .i64 s.a, .slice ac s.C.length cc, .slice aq nq cq, .bool s.z] 49)).alloc (.cells #[.slice none 0 0, .int .i64 0, .int .i64 0, .int .i64 0, .slice none 0 0, .slice none 0 0, .bool false] 49)).cell? ⟨w.heap.size, 1, none⟩ = some (.int .i64 s.r) := by rw [cell_of_row _ _ 1 _ _ _ (heap_alloc2_old _ _ _)]; rfl
  have b2 : ((w.alloc (.cells #[.slice ad s.D.length cd, .int .i64 s.r, .int .i64 s.b, .int .i64 s.a, .slice ac s.C.length cc, .slice aq nq cq, .bool s.z] 49)).alloc (.cells #[.slice none 0 0, .int .i64 0, .int .i64 0, .int .i64 0, .slice none 0 0, .slice none 0 0, .bool false] 49)).cell? ⟨w.heap.size, 2, none⟩ = some (.int .i64 s.b) := by rw [cell_of_row _ _ 2 _ _ _ (heap_alloc2_old _ _ _)]; rfl
  have b3 : ((w.alloc (.cells #[.slice ad s.D.length cd, .int .i64 s.r, .int .i64 s.b, .int .i64 s.a, .slice ac s.C.length cc, .slice aq nq cq, .bool s.z] 49)).alloc (.cells #[.slice none 0 0, .int .i64 0, .int .i64 0, .int .i64 0, .slice none 0 0, .slice none 0 0, .bool false] 49)).cell? ⟨w.heap.size, 3, none⟩ = some (.int .i64 s.a) := by rw [cell_of_row _ _ 3 _ _ _ (heap_alloc2_old _ _ _)]; rfl
  have b4 : ((w.alloc (.cells #[.slice ad s.D.length cd, .int .i64 s.r, .int .i64 s.b, .int .i64 s.a, .slice ac s.C.length cc, .slice aq nq cq, .bool s.z] 49)).alloc (.cells #[.slice none 0 0, .int .i64 0, .int .i64 0, .int .i64 0, .slice none 0 0, .slice none 0 0, .bool false] 49)).cell? ⟨w.heap.size, 4, none⟩ = some (.slice ac s.C.length cc) := by rw [cell_of_row _ _ 4 _ _ _ (heap_alloc2_old _ _ _)]; rfl
  have b5 : ((w.alloc (.cells #[.slice ad s.D.length cd, .int .i64 s.r, .int .i64 s.b, .int .i64 s.a, .slice ac s.C.length cc, .slice aq nq cq, .bool s.z] 49)).alloc (.cells #[.slice none 0 0, .int .i64 0, .int .i64 0, .int .i64 0, .slice none 0 0, .slice none 0 0, .bool false] 49)).cell? ⟨w.heap.size, 5, none⟩ = some (.slice aq nq cq) := by rw [cell_of_row _ _ 5 _ _ _ (heap_alloc2_old _ _ _)]; rfl
  have b6 : ((w.alloc (.cells #[.slice ad s.D.length cd, .int .i64 s.r, .int .i64 s.b, .int .i64 s.a, .slice ac s.C.length cc, .slice aq nq cq, .bool s.z] 49)).alloc (.cells #[.slice none 0 0, .int .i64 0, .int .i64 0, .int .i64 0, .slice none 0 0, .slice none 0 0, .bool false] 49)).cell? ⟨w.heap.size, 6, none⟩ = some (.bool s.z) := by rw [cell_of_row _ _ 6 _ _ _ (heap_alloc2_old _ _ _)]; rfl
  have r0 : ((w.alloc (.cells #[.slice ad s.D.length cd, .int .i64 s.r, .int .i64 s.b, .int .i64 s.a, .slice ac s.C.length cc, .slice aq nq cq, .bool s.z] 49)).alloc (.cells #[.slice none 0 0, .int .i64 0, .int .i64 0, .int .i64 0, .slice none 0 0, .slice none 0 0, .bool false] 49)).cell? ⟨w.heap.size + 1, 0, none⟩ = some (.slice none 0 0) := by rw [cell_of_row _ _ 0 _ _ _ (heap_alloc2_new _ _ _)]; rfl
  have r1 : ((w.alloc (.cells #[.slice ad s.D.length cd, .int .i64 s.r, .int .i64 s.b, .int .i64 s.a, .slice ac s.C.length cc, .slice aq nq cq, .bool s.z] 49)).alloc (.cells #[.slice none 0 0, .int .i64 0, .int .i64 0, .int .i64 0, .slice none 0 0, .slice none 0 0, .bool false] 49)).cell? ⟨w.heap.size + 1, 1, none⟩ = some (.int .i64 0) := by rw [cell_of_row _ _ 1 _ _ _ (heap_alloc2_new _ _ _)]; rfl
  have r2 : ((w.alloc (.cells #[.slice ad s.D.length cd, .int .i64 s.r, .int .i64 s.b, .int .i64 s.a, .slice ac s.C.length cc, .slice aq nq cq, .bool s.z] 49)).alloc (.cells #[.slice none 0 0, .int .i64 0, .int .i64 0, .int .i64 0, .slice none 0 0, .slice none 0 0, .bool false] 49)).cell? ⟨w.heap.size + 1, 2, none⟩ = some (.int .i64 0) := by rw [cell_of_row _ _ 2 _ _ _ (heap_alloc2_new _ _ _)]; rfl
  have r3 : ((w.alloc (.cells #[.slice ad s.D.length cd, .int .i64 s.r, .int .i64 s.b, .int .i64 s.a, .slice ac s.C.length cc, .slice aq nq cq, .bool s.z] 49)).alloc (.cells #[.slice none 0 0, .int .i64 0, .int .i64 0, .int .i64 0, .slice none 0 0, .slice none 0 0, .bool false] 49)).cell? ⟨w.heap.size + 1, 3, none⟩ = some (.int .i64 0) := by rw [cell_of_row _ _ 3 _ _ _ (heap_alloc2_new _ _ _)]; rfl
  have r4 : ((w.alloc (.cells #[.slice ad s.D.length cd, .int .i64 s.r, .int .i64 s.b, .int .i64 s.a, .slice ac s.C.length cc, .slice aq nq cq, .bool s.z] 49)).alloc (.cells #[.slice none 0 0, .int .i64 0, .int .i64 0, .int .i64 0, .slice none 0 0, .slice none 0 0, .bool false] 49)).cell? ⟨w.heap.size + 1, 4, none⟩ = some (.slice none 0 0) := by rw [cell_of_row _ _ 4 _ _ _ (heap_alloc2_new _ _ _)]; rfl
  have r5 : ((w.alloc (.cells #[.slice ad s.D.length cd, .int .i64 s.r, .int .i64 s.b, .int .i64 s.a, .slice ac s.C.length cc, .slice aq nq cq, .bool s.z] 49)).alloc (.cells #[.slice none 0 0, .int .i64 0, .int .i64 0, .int .i64 0, .slice none 0 0, .slice none 0 0, .bool false] 49)).cell? ⟨w.heap.size + 1, 5, none⟩ = some (.slice none 0 0) := by rw [cell_of_row _ _ 5 _ _ _ (heap_alloc2_new _ _ _)]; rfl
  have r6 : ((w.alloc (.cells #[.slice ad s.D.length cd, .int .i64 s.r, .int .i64 s.b, .int .i64 s.a, .slice ac s.C.length cc, .slice aq nq cq, .bool s.z] 49)).alloc (.cells #[.slice none 0 0, .int .i64 0, .int .i64 0, .int .i64 0, .slice none 0 0, .slice none 0 0, .bool false] 49)).cell? ⟨w.heap.size + 1, 6, none⟩ = some (.bool false) := by rw [cell_of_row _ _ 6 _ _ _ (heap_alloc2_new _ _ _)]; rfl
  have fb : ∀ o, ((w.alloc (.cells #[.slice ad s.D.length cd, .int .i64 s.r, .int .i64 s.b, .int .i64 s.a, .slice ac s.C.length cc, .slice aq nq cq, .bool s.z] 49)).alloc (.cells #[.slice none 0 0, .int .i64 0, .int .i64 0, .int .i64 0, .slice none 0 0, .slice none 0 0, .bool false] 49)).frozen? ⟨w.heap.size, o, none⟩ = false := fun o => frozen_of_row _ _ o _ _ (heap_alloc2_old _ _ _)
  have fr : ∀ o, ((w.alloc (.cells #[.slice ad s.D.length cd, .int .i64 s.r, .int .i64 s.b, .int .i64 s.a, .slice ac s.C.length cc, .slice aq nq cq, .bool s.z] 49)).alloc (.cells #[.slice none 0 0, .int .i64 0, .int .i64 0, .int .i64 0, .slice none 0 0, .slice none 0 0, .bool false] 49)).frozen? ⟨w.heap.size + 1, o, none⟩ = false := fun o => frozen_of_row _ _ o _ _ (heap_alloc2_new _ _ _)
  have HT0 : Below w.heap.size w ((w.alloc (.cells #[.slice ad s.D.length cd, .int .i64 s.r, .int .i64 s.b, .int .i64 s.a, .slice ac s.C.length cc, .slice aq nq cq, .bool s.z] 49)).alloc (.cells #[.slice none 0 0, .int .i64 0, .int .i64 0, .int .i64 0, .slice none 0 0, .slice none 0 0, .bool false] 49)) := (by repeat (first | exact Below.refl _ _ | assumption | (refine Below.drew ?_) | (refine below_drewN ?_ _) | (refine Below.alloc ?_ (by first | omega | (simp; done) | (simp; omega)) _) | (refine Below.setCell ?_ (by first | omega | (simp; done) | (simp; omega)) _)))
  have hs0 : w.heap.size + 2 = ((w.alloc (.cells #[.slice ad s.D.length cd, .int .i64 s.r, .int .i64 s.b, .int .i64 s.a, .slice ac s.C.length cc, .slice aq nq cq, .bool s.z] 49)).alloc (.cells #[.slice none 0 0, .int .i64 0, .int .i64 0, .int .i64 0, .slice none 0 0, .slice none 0 0, .bool false] 49)).heap.size := by simp
  have hs0l : w.heap.size + 2 ≤ ((w.alloc (.cells #[.slice ad s.D.length cd, .int .i64 s.r, .int .i64 s.b, .int .i64 s.a, .slice ac s.C.length cc, .slice aq nq cq, .bool s.z] 49)).alloc (.cells #[.slice none 0 0, .int .i64 0, .int .i64 0, .int .i64 0, .slice none 0 0, .slice none 0 0, .bool false] 49)).heap.size := by simp
  have HS0 := Lib.hid hs0
  clear hs0
  generalize ((w.alloc (.cells #[.slice ad s.D.length cd, .int .i64 s.r, .int .i64 s.b, .int .i64 s.a, .slice ac s.C.length cc, .slice aq nq cq, .bool s.z] 49)).alloc (.cells #[.slice none 0 0, .int .i64 0, .int .i64 0, .int .i64 0, .slice none 0 0, .slice none 0 0, .bool false] 49)) = w0 at *
  refine (impl_cloneDict s.D ad cd _ (hD.kept HT0) hd HT.out).mono ?_
  rintro e w1 ⟨a1, c1, rfl, hO1, hb1⟩
  replace b0 := (hb1.cell (p := ⟨w.heap.size, _, none⟩) (by simp only; omega)).trans b0
  replace b1 := (hb1.cell (p := ⟨w.heap.size, _, none⟩) (by simp only; omega)).trans b1
  replace b2 := (hb1.cell (p := ⟨w.heap.size, _, none⟩) (by simp only; omega)).trans b2
  replace b3 := (hb1.cell (p := ⟨w.heap.size, _, none⟩) (by simp only; omega)).trans b3
  replace b4 := (hb1.cell (p := ⟨w.heap.size, _, none⟩) (by simp only; omega)).trans b4
  replace b5 := (hb1.cell (p := ⟨w.heap.size, _, none⟩) (by simp only; omega)).trans b5
  replace b6 := (hb1.cell (p := ⟨w.heap.size, _, none⟩) (by simp only; omega)).trans b6
  replace r0 := (hb1.cell (p := ⟨w.heap.size + 1, _, none⟩) (by simp only; omega)).trans r0
  replace r1 := (hb1.cell (p := ⟨w.heap.size + 1, _, none⟩) (by simp only; omega)).trans r1
  replace r2 := (hb1.cell (p := ⟨w.heap.size + 1, _, none⟩) (by simp only; omega)).trans r2
  replace r3 := (hb1.cell (p := ⟨w.heap.size + 1, _, none⟩) (by simp only; omega)).trans r3
  replace r4 := (hb1.cell (p := ⟨w.heap.size + 1, _, none⟩) (by simp only; omega)).trans r4
  replace r5 := (hb1.cell (p := ⟨w.heap.size + 1, _, none⟩) (by simp only; omega)).trans r5
  replace r6 := (hb1.cell (p := ⟨w.heap.size + 1, _, none⟩) (by simp only; omega)).trans r6
  replace fb : ∀ o, w1.frozen? ⟨w.heap.size, o, none⟩ = false := fun o => (hb1.frozen (p := ⟨w.heap.size, o, none⟩) (by simp only; omega)).trans (fb o)
  replace fr : ∀ o, w1.frozen? ⟨w.heap.size + 1, o, none⟩ = false := fun o => (hb1.frozen (p := ⟨w.heap.size + 1, o, none⟩) (by simp only; omega)).trans (fr o)
  have HT1 := below_step HT0 hb1
  have hL0 := Lib.hid (show s.D.length ≠ 0 → ∃ g o, a1 = some ⟨g, o, none⟩ ∧ w.heap.size + 2 ≤ g ∧ g < w1.heap.size from fun hne => by obtain ⟨g, o, e, h1, h2⟩ := hO1.lie hne; exact ⟨g, o, e, by have := HS0.out; omega, h2⟩)
  have hs1 : w.heap.size + 2 ≤ w1.heap.size := by have := hb1.size; omega
  have fb0 := fb 0
  have hD1 := hO1.wr
  clear hb1 HT0 hO1 hs0l
  go_wp2_with fail
  replace b0 : (w1.setCell ⟨w.heap.size, 0, none⟩ (.slice a1 s.D.length c1)).cell? ⟨w.heap.size, 0, none⟩ = some (.slice a1 s.D.length c1) := World.cell?_setCell_same _ _ _ b0
  replace b1 : (w1.setCell ⟨w.heap.size, 0, none⟩ (.slice a1 s.D.length c1)).cell? ⟨w.heap.size, 1, none⟩ = some (.int .i64 s.r) := (World.cell?_setCell_other _ _ _ _ (by simp)).trans b1
  replace b2 : (w1.setCell ⟨w.heap.size, 0, none⟩ (.slice a1 s.D.length c1)).cell? ⟨w.heap.size, 2, none⟩ = some (.int .i64 s.b) := (World.cell?_setCell_other _ _ _ _ (by simp)).trans b2
  replace b3 : (w1.setCell ⟨w.heap.size, 0, none⟩ (.slice a1 s.D.length c1)).cell? ⟨w.heap.size, 3, none⟩ = some (.int .i64 s.a) := (World.cell?_setCell_other _ _ _ _ (by simp)).trans b3
  replace b4 : (w1.setCell ⟨w.heap.size, 0, none⟩ (.slice a1 s.D.length c1)).cell? ⟨w.heap.size, 4, none⟩ = some (.slice ac s.C.length cc) := (World.cell?_setCell_other _ _ _ _ (by simp)).trans b4
  replace b5 : (w1.setCell ⟨w.heap.size, 0, none⟩ (.slice a1 s.D.length c1)).cell? ⟨w.heap.size, 5, none⟩ = some (.slice aq nq cq) := (World.cell?_setCell_other _ _ _ _ (by simp)).trans b5
  replace b6 : (w1.setCell ⟨w.heap.size, 0, none⟩ (.slice a1 s.D.length c1)).cell? ⟨w.heap.size, 6, none⟩ = some (.bool s.z) := (World.cell?_setCell_other _ _ _ _ (by simp)).trans b6
  replace r0 : (w1.setCell ⟨w.heap.size, 0, none⟩ (.slice a1 s.D.length c1)).cell? ⟨w.heap.size + 1, 0, none⟩ = some (.slice none 0 0) := (World.cell?_setCell_other _ _ _ _ (by simp)).trans r0
  replace r1 : (w1.setCell ⟨w.heap.size, 0, none⟩ (.slice a1 s.D.length c1)).cell? ⟨w.heap.size + 1, 1, none⟩ = some (.int .i64 0) := (World.cell?_setCell_other _ _ _ _ (by simp)).trans r1
  replace r2 : (w1.setCell ⟨w.heap.size, 0, none⟩ (.slice a1 s.D.length c1)).cell? ⟨w.heap.size + 1, 2, none⟩ = some (.int .i64 0) := (World.cell?_setCell_other _ _ _ _ (by simp)).trans r2
  replace r3 : (w1.setCell ⟨w.heap.size, 0, none⟩ (.slice a1 s.D.length c1)).cell? ⟨w.heap.size + 1, 3, none⟩ = some (.int .i64 0) := (World.cell?_setCell_other _ _ _ _ (by simp)).trans r3
  replace r4 : (w1.setCell ⟨w.heap.size, 0, none⟩ (.slice a1 s.D.length c1)).cell? ⟨w.heap.size + 1, 4, none⟩ = some (.slice none 0 0) := (World.cell?_setCell_other _ _ _ _ (by simp)).trans r4
  replace r5 : (w1.setCell ⟨w.heap.size, 0, none⟩ (.slice a1 s.D.length c1)).cell? ⟨w.heap.size + 1, 5, none⟩ = some (.slice none 0 0) := (World.cell?_setCell_other _ _ _ _ (by simp)).trans r5
  replace r6 : (w1.setCell ⟨w.heap.size, 0, none⟩ (.slice a1 s.D.length c1)).cell? ⟨w.heap.size + 1, 6, none⟩ = some (.bool false) := (World.cell?_setCell_other _ _ _ _ (by simp)).trans r6
  replace fb : ∀ o, (w1.setCell ⟨w.heap.size, 0, none⟩ (.slice a1 s.D.length c1)).frozen? ⟨w.heap.size, o, none⟩ = false := fun o => by rw [World.frozen?_setCell]; exact fb o
  replace fr : ∀ o, (w1.setCell ⟨w.heap.size, 0, none⟩ (.slice a1 s.D.length c1)).frozen? ⟨w.heap.size + 1, o, none⟩ = false := fun o => by rw [World.frozen?_setCell]; exact fr o
  have hTr : Trn (fun b => b < w.heap.size + 2) w1 (w1.setCell ⟨w.heap.size, 0, none⟩ (.slice a1 s.D.length c1)) := Trn.set _ _ _ _ (by omega)
  have HTx : Below w.heap.size w (w1.setCell ⟨w.heap.size, 0, none⟩ (.slice a1 s.D.length c1)) := HT1.setCell (p := ⟨w.heap.size, 0, none⟩) (Nat.le_refl _) _
  have hsx : (w1.setCell ⟨w.heap.size, 0, none⟩ (.slice a1 s.D.length c1)).heap.size = w1.heap.size := by simp [World.setCell]
  replace hD1 := hD1.trn hTr fun hV g o e => by obtain ⟨g2, o2, e2, h1, h2⟩ := hL0.out ((patsTo_pats s.D).nil_iff hV); rw [e] at e2; cases e2; omega
  have HSX := Lib.hid hsx
  replace hsx : w.heap.size + 2 ≤ (w1.setCell ⟨w.heap.size, 0, none⟩ (.slice a1 s.D.length c1)).heap.size := by rw [hsx]; exact hs1
  have HTA := HTx
  clear hTr HT1 HTx fb0
  generalize (w1.setCell ⟨w.heap.size, 0, none⟩ (.slice a1 s.D.length c1)) = wA at *
  refine (sl_cloneRec s.Q aq nq cq _ hn (hQ.kept HTA) (by omega)).mono ?_
  rintro e w2 ⟨a2, c2, rfl, hO2, hb2⟩
  replace b0 := (hb2.cell (p := ⟨w.heap.size, _, none⟩) (by simp only; omega)).trans b0
  replace b1 := (hb2.cell (p := ⟨w.heap.size, _, none⟩) (by simp only; omega)).trans b1
  replace b2 := (hb2.cell (p := ⟨w.heap.size, _, none⟩) (by simp only; omega)).trans b2
  replace b3 := (hb2.cell (p := ⟨w.heap.size, _, none⟩) (by simp only; omega)).trans b3
  replace b4 := (hb2.cell (p := ⟨w.heap.size, _, none⟩) (by simp only; omega)).trans b4
  replace b5 := (hb2.cell (p := ⟨w.heap.size, _, none⟩) (by simp only; omega)).trans b5
  replace b6 := (hb2.cell (p := ⟨w.heap.size, _, none⟩) (by simp only; omega)).trans b6
  replace r0 := (hb2.cell (p := ⟨w.heap.size + 1, _, none⟩) (by simp only; omega)).trans r0
  replace r1 := (hb2.cell (p := ⟨w.heap.size + 1, _, none⟩) (by simp only; omega)).trans r1
  replace r2 := (hb2.cell (p := ⟨w.heap.size + 1, _, none⟩) (by simp only; omega)).trans r2
  replace r3 := (hb2.cell (p := ⟨w.heap.size + 1, _, none⟩) (by simp only; omega)).trans r3
  replace r4 := (hb2.cell (p := ⟨w.heap.size + 1, _, none⟩) (by simp only; omega)).trans r4
  replace r5 := (hb2.cell (p := ⟨w.heap.size + 1, _, none⟩) (by simp only; omega)).trans r5
  replace r6 := (hb2.cell (p := ⟨w.heap.size + 1, _, none⟩) (by simp only; omega)).trans r6
  replace fb : ∀ o, w2.frozen? ⟨w.heap.size, o, none⟩ = false := fun o => (hb2.frozen (p := ⟨w.heap.size, o, none⟩) (by simp only; omega)).trans (fb o)
  replace fr : ∀ o, w2.frozen? ⟨w.heap.size + 1, o, none⟩ = false := fun o => (hb2.frozen (p := ⟨w.heap.size + 1, o, none⟩) (by simp only; omega)).trans (fr o)
  have HT2 := below_step HTA hb2
  have hL2 := Lib.hid (show s.Q.length ≠ 0 → ∃ g o, a2 = some ⟨g, o, none⟩ ∧ w1.heap.size ≤ g ∧ g < w2.heap.size from fun hne => by obtain ⟨g, o, e, h1, h2⟩ := hO2.v.lie (by omega); exact ⟨g, o, e, by have := HSX.out; omega, h2⟩)
  have hs2 : w1.heap.size ≤ w2.heap.size := by have := hb2.size; have := HSX.out; omega
  have fb5 := fb 5
  replace hD1 := hD1.kept hb2
  have hQ2 : WrI w2 a2 s.Q := hO2.v.wr
  have HFO := Lib.hid hO2.v.form0
  clear hb2 HTA hO2 hsx HSX
  go_wp2_with fail
  replace b0 : (w2.setCell ⟨w.heap.size, 5, none⟩ (.slice a2 nq c2)).cell? ⟨w.heap.size, 0, none⟩ = some (.slice a1 s.D.length c1) := (World.cell?_setCell_other _ _ _ _ (by simp)).trans b0
  replace b1 : (w2.setCell ⟨w.heap.size, 5, none⟩ (.slice a2 nq c2)).cell? ⟨w.heap.size, 1, none⟩ = some (.int .i64 s.r) := (World.cell?_setCell_other _ _ _ _ (by simp)).trans b1
  replace b2 : (w2.setCell ⟨w.heap.size, 5, none⟩ (.slice a2 nq c2)).cell? ⟨w.heap.size, 2, none⟩ = some (.int .i64 s.b) := (World.cell?_setCell_other _ _ _ _ (by simp)).trans b2
  replace b3 : (w2.setCell ⟨w.heap.size, 5, none⟩ (.slice a2 nq c2)).cell? ⟨w.heap.size, 3, none⟩ = some (.int .i64 s.a) := (World.cell?_setCell_other _ _ _ _ (by simp)).trans b3
  replace b4 : (w2.setCell ⟨w.heap.size, 5, none⟩ (.slice a2 nq c2)).cell? ⟨w.heap.size, 4, none⟩ = some (.slice ac s.C.length cc) := (World.cell?_setCell_other _ _ _ _ (by simp)).trans b4
  replace b5 : (w2.setCell ⟨w.heap.size, 5, none⟩ (.slice a2 nq c2)).cell? ⟨w.heap.size, 5, none⟩ = some (.slice a2 nq c2) := World.cell?_setCell_same _ _ _ b5
  replace b6 : (w2.setCell ⟨w.heap.size, 5, none⟩ (.slice a2 nq c2)).cell? ⟨w.heap.size, 6, none⟩ = some (.bool s.z) := (World.cell?_setCell_other _ _ _ _ (by simp)).trans b6
  replace r0 : (w2.setCell ⟨w.heap.size, 5, none⟩ (.slice a2 nq c2)).cell? ⟨w.heap.size + 1, 0, none⟩ = some (.slice none 0 0) := (World.cell?_setCell_other _ _ _ _ (by simp)).trans r0
  replace r1 : (w2.setCell ⟨w.heap.size, 5, none⟩ (.slice a2 nq c2)).cell? ⟨w.heap.size + 1, 1, none⟩ = some (.int .i64 0) := (World.cell?_setCell_other _ _ _ _ (by simp)).trans r1
  replace r2 : (w2.setCell ⟨w.heap.size, 5, none⟩ (.slice a2 nq c2)).cell? ⟨w.heap.size + 1, 2, none⟩ = some (.int .i64 0) := (World.cell?_setCell_other _ _ _ _ (by simp)).trans r2
  replace r3 : (w2.setCell ⟨w.heap.size, 5, none⟩ (.slice a2 nq c2)).cell? ⟨w.heap.size + 1, 3, none⟩ = some (.int .i64 0) := (World.cell?_setCell_other _ _ _ _ (by simp)).trans r3
  replace r4 : (w2.setCell ⟨w.heap.size, 5, none⟩ (.slice a2 nq c2)).cell? ⟨w.heap.size + 1, 4, none⟩ = some (.slice none 0 0) := (World.cell?_setCell_other _ _ _ _ (by simp)).trans r4
  replace r5 : (w2.setCell ⟨w.heap.size, 5, none⟩ (.slice a2 nq c2)).cell? ⟨w.heap.size + 1, 5, none⟩ = some (.slice none 0 0) := (World.cell?_setCell_other _ _ _ _ (by simp)).trans r5
  replace r6 : (w2.setCell ⟨w.heap.size, 5, none⟩ (.slice a2 nq c2)).cell? ⟨w.heap.size + 1, 6, none⟩ = some (.bool false) := (World.cell?_setCell_other _ _ _ _ (by simp)).trans r6
  replace fb : ∀ o, (w2.setCell ⟨w.heap.size, 5, none⟩ (.slice a2 nq c2)).frozen? ⟨w.heap.size, o, none⟩ = false := fun o => by rw [World.frozen?_setCell]; exact fb o
  replace fr : ∀ o, (w2.setCell ⟨w.heap.size, 5, none⟩ (.slice a2 nq c2)).frozen? ⟨w.heap.size + 1, o, none⟩ = false := fun o => by rw [World.frozen?_setCell]; exact fr o
  have hTr : Trn (fun b => b < w.heap.size + 2) w2 (w2.setCell ⟨w.heap.size, 5, none⟩ (.slice a2 nq c2)) := Trn.set _ _ _ _ (by omega)
  have HTx : Below w.heap.size w (w2.setCell ⟨w.heap.size, 5, none⟩ (.slice a2 nq c2)) := HT2.setCell (p := ⟨w.heap.size, 5, none⟩) (Nat.le_refl _) _
  have hsx : (w2.setCell ⟨w.heap.size, 5, none⟩ (.slice a2 nq c2)).heap.size = w2.heap.size := by simp [World.setCell]
  replace hD1 := hD1.trn hTr fun hV g o e => by obtain ⟨g2, o2, e2, h1, h2⟩ := hL0.out ((patsTo_pats s.D).nil_iff hV); rw [e] at e2; cases e2; omega
  replace hQ2 : WrI (w2.setCell ⟨w.heap.size, 5, none⟩ (.slice a2 nq c2)) a2 s.Q := Wr.trn hQ2 hTr fun hV g o e => by obtain ⟨g2, o2, e2, h1, h2⟩ := hL2.out (map_nil hV); rw [e] at e2; cases e2; omega
  have HSX := Lib.hid hsx
  replace hsx : w1.heap.size ≤ (w2.setCell ⟨w.heap.size, 5, none⟩ (.slice a2 nq c2)).heap.size := by rw [hsx]; exact hs2
  have HTB := HTx
  clear hTr HT2 HTx fb5
  generalize (w2.setCell ⟨w.heap.size, 5, none⟩ (.slice a2 nq c2)) = wB at *
  have HBX := Lib.hid (And.intro b0 (And.intro b1 (And.intro b2 (And.intro b3 (And.intro b4 (And.intro b5 b6))))))
  have HRS := Lib.hid (And.intro r0 (And.intro r1 (And.intro r2 (And.intro r3 (And.intro r4 (And.intro r5 r6))))))
  have HFB := Lib.hid (And.intro fb fr)
  have HD1 := Lib.hid hD1
  have HQ2 := Lib.hid hQ2
  clear b0 b1 b2 b3 b4 b5 b6 r0 r1 r2 r3 r4 r5 r6 fb fr hD1 hQ2
  go_loopw [3, 17] (fun c i wr => ∃ (k : Nat) (a' : Option Addr) (cap' : Nat) (cA : Nat → Option Addr) (cC : Nat → Nat), k ≤ s.C.length ∧ i = .int .i64 k ∧ c = .slice a' k cap' ∧ CApp wr wB.heap.size k s.C a' cap' cA cC ∧ Below wB.heap.size wB wr) (fun _ i _ => s.C.length - (intOf i).toNat)
  case atStart => exact ⟨0, none, 0, _, _, by omega, rfl, rfl, CApp.start _ _ _, Below.refl _ _⟩
  case round =>
    obtain ⟨k, a', cap', cA, cC, hk, rfl, rfl, hM, hb⟩ := hrel
    by_cases hlt : k < s.C.length
    · obtain ⟨b, off, rfl, hp⟩ := ((hC.kept HTB).kept hb).at k hlt
      obtain ⟨a3, z3, d3, i3⟩ := hp k hlt
      have hrs := HRR.out k hlt
      have HM := Lib.hid hM
      clear hp hM
      generalize hx : rowAt s.C k = x at *
      have HX := Lib.hid hx
      clear hx
      go_wp2_with fail
      refine (sl_cloneInts x a3 _ z3 _ rfl i3 (by omega)).mono ?_
      rintro e w3 ⟨a4, c4, rfl, hO4, hb4⟩
      have hBK : Below wr.heap.size wr (w3.alloc (.cells #[.slice a4 x.length c4] 56)) := hb4.alloc hb4.size _
      have HO4 := Lib.hid (hO4.kept (show Below w3.heap.size w3 (w3.alloc (.cells #[.slice a4 x.length c4] 56)) from (Below.refl _ _).alloc (Nat.le_refl _) _))
      have HBK := Lib.hid hBK
      have HTOP := Lib.hid (HM.out.kept hBK).top
      have HSB := Lib.hid (hb.trans (hBK.mono hb.size))
      have HCC := Lib.hid (one_new w3 (.slice a4 x.length c4) 56)
      have HH := Lib.hid (show (w3.alloc (.cells #[.slice a4 x.length c4] 56)).heap.size = w3.heap.size + 1 by simp)
      have hlen3 : wB.heap.size ≤ w3.heap.size := by have := hb4.size; have := hb.size; omega
      clear hO4 hb4 hBK
      go_wp2_with (at_builtin; refine wpList_append_lies _ rfl _ _ 43 rfl wB.heap.size 56 i0 (.slice none 0 0) 1 24 Try.underlying43 hi hz0 hz1 hz2 rfl (by decide) _ _ _ rfl HTOP.out.2 ⟨w3.heap.size, 0, none⟩ 1 1 [.slice a4 x.length c4] rfl rfl HCC.out (by simp [Value.oneCell']) (by omega) (by unfold maxLen; omega) (by omega) (by simp; omega) (w3.heap.size + 1) HH.out ?_; intro g cap2 w5 hown' hg hgl hlt5)
      have hst := HM.out.step (w1 := w3.alloc (.cells #[.slice a4 x.length c4] 56)) (w2 := w5) (a := a4) (c := c4) (g := g) (cap2 := cap2) (by have := hb.size; omega) HBK.out (by rw [HX.out]; exact HO4.out) (by rw [HX.out]; exact hown') hg (by rw [HH.out]; exact hgl) hlt5
      have HST := Lib.hid hst
      have HB5 := Lib.hid (HSB.out.trans (HTOP.out.turn (by simp; omega) hg))
      clear hst hown' hg hgl
      go_roundw
      case rel => exact ⟨k + 1, _, _, _, _, by omega, by go_num, rfl, HST.out, HB5.out⟩
      case measure => simp [intOf]; omega
    · obtain rfl : k = s.C.length := by omega
      obtain ⟨hCW, hLC⟩ := hM.done
      obtain ⟨b0, b1, b2, b3, b4, b5, b6⟩ := HBX.out
      obtain ⟨r0, r1, r2, r3, r4, r5, r6⟩ := HRS.out
      obtain ⟨fb, fr⟩ := HFB.out
      replace b0 := (hb.cell (p := ⟨w.heap.size, _, none⟩) (by simp only; omega)).trans b0
      replace b1 := (hb.cell (p := ⟨w.heap.size, _, none⟩) (by simp only; omega)).trans b1
      replace b2 := (hb.cell (p := ⟨w.heap.size, _, none⟩) (by simp only; omega)).trans b2
      replace b3 := (hb.cell (p := ⟨w.heap.size, _, none⟩) (by simp only; omega)).trans b3
      replace b4 := (hb.cell (p := ⟨w.heap.size, _, none⟩) (by simp only; omega)).trans b4
      replace b5 := (hb.cell (p := ⟨w.heap.size, _, none⟩) (by simp only; omega)).trans b5
      replace b6 := (hb.cell (p := ⟨w.heap.size, _, none⟩) (by simp only; omega)).trans b6
      replace r0 := (hb.cell (p := ⟨w.heap.size + 1, _, none⟩) (by simp only; omega)).trans r0
      replace r1 := (hb.cell (p := ⟨w.heap.size + 1, _, none⟩) (by simp only; omega)).trans r1
      replace r2 := (hb.cell (p := ⟨w.heap.size + 1, _, none⟩) (by simp only; omega)).trans r2
      replace r3 := (hb.cell (p := ⟨w.heap.size + 1, _, none⟩) (by simp only; omega)).trans r3
      replace r4 := (hb.cell (p := ⟨w.heap.size + 1, _, none⟩) (by simp only; omega)).trans r4
      replace r5 := (hb.cell (p := ⟨w.heap.size + 1, _, none⟩) (by simp only; omega)).trans r5
      replace r6 := (hb.cell (p := ⟨w.heap.size + 1, _, none⟩) (by simp only; omega)).trans r6
      replace fb : ∀ o, wr.frozen? ⟨w.heap.size, o, none⟩ = false := fun o => (hb.frozen (p := ⟨w.heap.size, o, none⟩) (by simp only; omega)).trans (fb o)
      replace fr : ∀ o, wr.frozen? ⟨w.heap.size + 1, o, none⟩ = false := fun o => (hb.frozen (p := ⟨w.heap.size + 1, o, none⟩) (by simp only; omega)).trans (fr o)
      have HTW := below_step HTB hb
      have fr0 := fr 0
      have fr1 := fr 1
      have fr2 := fr 2
      have fr3 := fr 3
      have fr4 := fr 4
      have fr5 := fr 5
      have fr6 := fr 6
      have fb4 := fb 4
      have hDw := HD1.out.kept hb
      have hQw : WrI wr a2 s.Q := Wr.kept HQ2.out hb
      have HP := Lib.hid (show SesP wr (w.heap.size + 2) wr.heap.size a1 a' a2 cA cC (patsTo s.D s.D.length) s from ⟨patsTo_pats s.D, hDw, hCW, hQw, Lies.ses (b0 := w.heap.size + 2) (e0 := w1.heap.size) (b1 := wB.heap.size) (e1 := wr.heap.size) (b2 := w1.heap.size) (e2 := w2.heap.size) hL0.out hLC hL2.out (by omega) (by omega) (by have := HSX.out; omega) ⟨by omega, by omega, by omega⟩ ⟨by have := hb.size; have := HSX.out; omega, Nat.le_refl _, by have := hb.size; have := HSX.out; omega⟩⟩)
      have hsw : w.heap.size + 2 ≤ wr.heap.size := by have := hb.size; omega
      have HN := Lib.hid hn
      have HTW2 := Lib.hid HTW
      clear hDw hQw hCW hLC hM hb fb fr HTW hn hD hC hQ hs1 hs2 hsx
      go_wp2_with fail
      refine bodyPost_ret (v := .agg #[.slice a1 s.D.length c1, .int .i64 s.r, .int .i64 s.b, .int .i64 s.a, .slice a' s.C.length cap', .slice a2 nq c2, .bool s.z]) (by simp [results, Try.results77, go_sem, r0, r1, r2, r3, r4, r5, r6]) rfl ⟨a1, a', a2, c1, cap', c2, nq, rfl, ?_, HFO.out, ?_⟩
      · refine SesW.wide (B := w.heap.size + 2) (E := wr.heap.size) (SesW.trn (w := wr) ⟨_, _, _, _, _, _, _, cA, cC, _, rfl, HN.out, HP.out⟩ (S := fun b => b < w.heap.size + 2) (((((((((Trn.refl _ _).trans (Trn.set (S := fun b => b < w.heap.size + 2) _ (w.heap.size) 4 (.slice a' s.C.length cap') (by omega))).trans (Trn.set (S := fun b => b < w.heap.size + 2) _ (w.heap.size + 1) 0 (.slice a1 s.D.length c1) (by omega))).trans (Trn.set (S := fun b => b < w.heap.size + 2) _ (w.heap.size + 1) 1 (.int .i64 s.r) (by omega))).trans (Trn.set (S := fun b => b < w.heap.size + 2) _ (w.heap.size + 1) 2 (.int .i64 s.b) (by omega))).trans (Trn.set (S := fun b => b < w.heap.size + 2) _ (w.heap.size + 1) 3 (.int .i64 s.a) (by omega))).trans (Trn.set (S := fun b => b < w.heap.size + 2) _ (w.heap.size + 1) 4 (.slice a' s.C.length cap') (by omega))).trans (Trn.set (S := fun b => b < w.heap.size + 2) _ (w.heap.size + 1) 5 (.slice a2 nq c2) (by omega))).trans (Trn.set (S := fun b => b < w.heap.size + 2) _ (w.heap.size + 1) 6 (.bool s.z) (by omega))) (fun k hk => .inl hk)) (by omega) (by simp [World.setCell])
      · exact ((((((((HTW2.out.setCell (p := ⟨w.heap.size, 4, none⟩) (by simp) (.slice a' s.C.length cap')).setCell (p := ⟨w.heap.size + 1, 0, none⟩) (by simp) (.slice a1 s.D.length c1)).setCell (p := ⟨w.heap.size + 1, 1, none⟩) (by simp) (.int .i64 s.r)).setCell (p := ⟨w.heap.size + 1, 2, none⟩) (by simp) (.int .i64 s.b)).setCell (p := ⟨w.heap.size + 1, 3, none⟩) (by simp) (.int .i64 s.a)).setCell (p := ⟨w.heap.size + 1, 4, none⟩) (by simp) (.slice a' s.C.length cap')).setCell (p := ⟨w.heap.size + 1, 5, none⟩) (by simp) (.slice a2 nq c2)).setCell (p := ⟨w.heap.size + 1, 6, none⟩) (by simp) (.bool s.z))
end Go.Proofs.Ytodmohepgmhipaa

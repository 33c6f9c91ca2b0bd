/-
  Drain, in the model.
-/
import Derived.Test.YtodmohepgmhipaaDrainP
import Derived.Test.YtodmohepgmhipaaL11Copy
import Derived.Test.YtodmohepgmhipaaSesOk
namespace Go.Proofs.Ytodmohepgmhipaa
open Go.RowKit
set_option linter.unusedVariables false
set_option maxRecDepth 100000
theorem News.some_nil {w : World} {ad : Addr} : News w (some ad) [] := .inr ⟨ad, rfl, fun j u hu => by simp at hu⟩
/-- what reads as s, with other records -/
theorem SesV.que {w : World} {ad ac : Option Addr} {cd cc nq cq : Nat} {aq : Option Addr} {s : Ses} (h : SesV w (.agg #[.slice ad s.D.length cd, .int .i64 s.r, .int .i64 s.b, .int .i64 s.a, .slice ac s.C.length cc, .slice aq nq cq, .bool s.z]) s) (a' : Option Addr) (n' c' : Nat) (L : List Int) (hl : L.length = n' * 3) (hI : Ints w a' L) :
    SesV w (.agg #[.slice ad s.D.length cd, .int .i64 s.r, .int .i64 s.b, .int .i64 s.a, .slice ac s.C.length cc, .slice a' n' c', .bool s.z]) { s with Q := L } := by
  obtain ⟨ad2, ac2, aq2, cd2, cc2, cq2, nq2, hv, hn2, h1, h2, h3⟩ := h
  simp only [sesV, Value.agg.injEq, Array.mk.injEq, List.cons.injEq, Value.slice.injEq, and_true, true_and] at hv
  obtain ⟨⟨rfl, rfl⟩, ⟨rfl, rfl⟩, rfl, rfl, rfl⟩ := hv
  exact ⟨ad, ac, a', cd, cc, c', n', rfl, hl, h1, h2, hI⟩
set_option maxHeartbeats 8000000 in
theorem spec_drain (s : Ses) (v : Value) (most : Int) (w : World) (h : SesV w v s) (hB : SesB 1048576 s) (hF : SesF s) :
    Calls Try.prog 27 #[v, .int .i64 most] w fun e w' => ∃ ad ac aq cd cc cq nq af nf cf, e = .returned (.tuple #[.agg #[.slice ad (drS s most).D.length cd, .int .i64 (drS s most).r, .int .i64 (drS s most).b, .int .i64 (drS s most).a, .slice ac (drS s most).C.length cc, .slice aq nq cq, .bool (drS s most).z], .slice af nf cf]) ∧ SesV w' (.agg #[.slice ad (drS s most).D.length cd, .int .i64 (drS s most).r, .int .i64 (drS s most).b, .int .i64 (drS s most).a, .slice ac (drS s most).C.length cc, .slice aq nq cq, .bool (drS s most).z]) (drS s most) ∧ (drQ s most).length = nf * 3 ∧ Ints w' af (drQ s most) ∧ Below w.heap.size w w' := by
  have h' := h
  obtain ⟨ad, ac, aq, cd, cc, cq, nq, rfl, hn, _⟩ := h
  unfold sesV at h' ⊢
  obtain ⟨ir, hir, hr0, hr1, hr2⟩ := info_parts rec_info
  have hq := hB.q
  have HV := Lib.hid h'
  have HB := Lib.hid hB
  have HF := Lib.hid hF
  clear h' hB hF
  cases hS : sesB s
  · obtain ⟨hs1, hs2⟩ := drS_no (most := most) hS
    rw [hs1, hs2]
    have HS := Lib.hid hS
    clear hS hs1 hs2
    go_enter Try.func27, Try.ntmps27
    go_wp2_with fail
    have b0 : ((w.alloc (.cells #[.slice ad s.D.length cd, .int .i64 s.r, .int .i64 s.b, .int .i64 s.a, .slice ac s.C.length cc, .slice aq nq cq, .bool s.z] 49)).alloc (.cells #[.slice none 0 0, .int .i64 0, .int .i64 0, .int .i64 0, .slice none 0 0, .slice none 0 0, .bool false] 49)).cell? ⟨w.heap.size, 0, none⟩ = some (.slice ad s.D.length cd) := by rw [cell_of_row _ _ 0 _ _ _ (heap_alloc2_old _ _ _)]; rfl
    have b1 : ((w.alloc (.cells #[.slice ad s.D.length cd, .int .i64 s.r, .int .i64 s.b, .int .i64 s.a, .slice ac s.C.length cc, .slice aq nq cq, .bool s.z] 49)).alloc (.cells #[.slice none 0 0, .int .i64 0, .int .i64 0, .int .i64 0, .slice none 0 0, .slice none 0 0, .bool false] 49)).cell? ⟨w.heap.size, 1, none⟩ = some (.int .i64 s.r) := by rw [cell_of_row _ _ 1 _ _ _ (heap_alloc2_old _ _ _)]; rfl
    have b2 : ((w.alloc (.cells #[.slice ad s.D.length cd, .int .i64 s.r, .int .i64 s.b, .int .i64 s.a, .slice ac s.C.length cc, .slice aq nq cq, .bool s.z] 49)).alloc (.cells #[.slice none 0 0, .int .i64 0, .int .i64 0, .int .i64 0, .slice none 0 0, .slice none 0 0, .bool false] 49)).cell? ⟨w.heap.size, 2, none⟩ = some (.int .i64 s.b) := by rw [cell_of_row _ _ 2 _ _ _ (heap_alloc2_old _ _ _)]; rfl
    have b3 : ((w.alloc (.cells #[.slice ad s.D.length cd, .int .i64 s.r, .int .i64 s.b, .int .i64 s.a, .slice ac s.C.length cc, .slice aq nq cq, .bool s.z] 49)).alloc (.cells #[.slice none 0 0, .int .i64 0, .int .i64 0, .int .i64 0, .slice none 0 0, .slice none 0 0, .bool false] 49)).cell? ⟨w.heap.size, 3, none⟩ = some (.int .i64 s.a) := by rw [cell_of_row _ _ 3 _ _ _ (heap_alloc2_old _ _ _)]; rfl
    have b4 : ((w.alloc (.cells #[.slice ad s.D.length cd, .int .i64 s.r, .int .i64 s.b, .int .i64 s.a, .slice ac s.C.length cc, .slice aq nq cq, .bool s.z] 49)).alloc (.cells #[.slice none 0 0, .int .i64 0, .int .i64 0, .int .i64 0, .slice none 0 0, .slice none 0 0, .bool false] 49)).cell? ⟨w.heap.size, 4, none⟩ = some (.slice ac s.C.length cc) := by rw [cell_of_row _ _ 4 _ _ _ (heap_alloc2_old _ _ _)]; rfl
    have b5 : ((w.alloc (.cells #[.slice ad s.D.length cd, .int .i64 s.r, .int .i64 s.b, .int .i64 s.a, .slice ac s.C.length cc, .slice aq nq cq, .bool s.z] 49)).alloc (.cells #[.slice none 0 0, .int .i64 0, .int .i64 0, .int .i64 0, .slice none 0 0, .slice none 0 0, .bool false] 49)).cell? ⟨w.heap.size, 5, none⟩ = some (.slice aq nq cq) := by rw [cell_of_row _ _ 5 _ _ _ (heap_alloc2_old _ _ _)]; rfl
    have b6 : ((w.alloc (.cells #[.slice ad s.D.length cd, .int .i64 s.r, .int .i64 s.b, .int .i64 s.a, .slice ac s.C.length cc, .slice aq nq cq, .bool s.z] 49)).alloc (.cells #[.slice none 0 0, .int .i64 0, .int .i64 0, .int .i64 0, .slice none 0 0, .slice none 0 0, .bool false] 49)).cell? ⟨w.heap.size, 6, none⟩ = some (.bool s.z) := by rw [cell_of_row _ _ 6 _ _ _ (heap_alloc2_old _ _ _)]; rfl
    have r0 : ((w.alloc (.cells #[.slice ad s.D.length cd, .int .i64 s.r, .int .i64 s.b, .int .i64 s.a, .slice ac s.C.length cc, .slice aq nq cq, .bool s.z] 49)).alloc (.cells #[.slice none 0 0, .int .i64 0, .int .i64 0, .int .i64 0, .slice none 0 0, .slice none 0 0, .bool false] 49)).cell? ⟨w.heap.size + 1, 0, none⟩ = some (.slice none 0 0) := by rw [cell_of_row _ _ 0 _ _ _ (heap_alloc2_new _ _ _)]; rfl
    have r1 : ((w.alloc (.cells #[.slice ad s.D.length cd, .int .i64 s.r, .int .i64 s.b, .int .i64 s.a, .slice ac s.C.length cc, .slice aq nq cq, .bool s.z] 49)).alloc (.cells #[.slice none 0 0, .int .i64 0, .int .i64 0, .int .i64 0, .slice none 0 0, .slice none 0 0, .bool false] 49)).cell? ⟨w.heap.size + 1, 1, none⟩ = some (.int .i64 0) := by rw [cell_of_row _ _ 1 _ _ _ (heap_alloc2_new _ _ _)]; rfl
    have r2 : ((w.alloc (.cells #[.slice ad s.D.length cd, .int .i64 s.r, .int .i64 s.b, .int .i64 s.a, .slice ac s.C.length cc, .slice aq nq cq, .bool s.z] 49)).alloc (.cells #[.slice none 0 0, .int .i64 0, .int .i64 0, .int .i64 0, .slice none 0 0, .slice none 0 0, .bool false] 49)).cell? ⟨w.heap.size + 1, 2, none⟩ = some (.int .i64 0) := by rw [cell_of_row _ _ 2 _ _ _ (heap_alloc2_new _ _ _)]; rfl
    have r3 : ((w.alloc (.cells #[.slice ad s.D.length cd, .int .i64 s.r, .int .i64 s.b, .int .i64 s.a, .slice ac s.C.length cc, .slice aq nq cq, .bool s.z] 49)).alloc (.cells #[.slice none 0 0, .int .i64 0, .int .i64 0, .int .i64 0, .slice none 0 0, .slice none 0 0, .bool false] 49)).cell? ⟨w.heap.size + 1, 3, none⟩ = some (.int .i64 0) := by rw [cell_of_row _ _ 3 _ _ _ (heap_alloc2_new _ _ _)]; rfl
    have r4 : ((w.alloc (.cells #[.slice ad s.D.length cd, .int .i64 s.r, .int .i64 s.b, .int .i64 s.a, .slice ac s.C.length cc, .slice aq nq cq, .bool s.z] 49)).alloc (.cells #[.slice none 0 0, .int .i64 0, .int .i64 0, .int .i64 0, .slice none 0 0, .slice none 0 0, .bool false] 49)).cell? ⟨w.heap.size + 1, 4, none⟩ = some (.slice none 0 0) := by rw [cell_of_row _ _ 4 _ _ _ (heap_alloc2_new _ _ _)]; rfl
    have r5 : ((w.alloc (.cells #[.slice ad s.D.length cd, .int .i64 s.r, .int .i64 s.b, .int .i64 s.a, .slice ac s.C.length cc, .slice aq nq cq, .bool s.z] 49)).alloc (.cells #[.slice none 0 0, .int .i64 0, .int .i64 0, .int .i64 0, .slice none 0 0, .slice none 0 0, .bool false] 49)).cell? ⟨w.heap.size + 1, 5, none⟩ = some (.slice none 0 0) := by rw [cell_of_row _ _ 5 _ _ _ (heap_alloc2_new _ _ _)]; rfl
    have r6 : ((w.alloc (.cells #[.slice ad s.D.length cd, .int .i64 s.r, .int .i64 s.b, .int .i64 s.a, .slice ac s.C.length cc, .slice aq nq cq, .bool s.z] 49)).alloc (.cells #[.slice none 0 0, .int .i64 0, .int .i64 0, .int .i64 0, .slice none 0 0, .slice none 0 0, .bool false] 49)).cell? ⟨w.heap.size + 1, 6, none⟩ = some (.bool false) := by rw [cell_of_row _ _ 6 _ _ _ (heap_alloc2_new _ _ _)]; rfl
    have fr : ∀ o, ((w.alloc (.cells #[.slice ad s.D.length cd, .int .i64 s.r, .int .i64 s.b, .int .i64 s.a, .slice ac s.C.length cc, .slice aq nq cq, .bool s.z] 49)).alloc (.cells #[.slice none 0 0, .int .i64 0, .int .i64 0, .int .i64 0, .slice none 0 0, .slice none 0 0, .bool false] 49)).frozen? ⟨w.heap.size + 1, o, none⟩ = false := fun o => frozen_of_row _ _ o _ _ (heap_alloc2_new _ _ _)
    have HT0 : Below w.heap.size w ((w.alloc (.cells #[.slice ad s.D.length cd, .int .i64 s.r, .int .i64 s.b, .int .i64 s.a, .slice ac s.C.length cc, .slice aq nq cq, .bool s.z] 49)).alloc (.cells #[.slice none 0 0, .int .i64 0, .int .i64 0, .int .i64 0, .slice none 0 0, .slice none 0 0, .bool false] 49)) := (by repeat (first | exact Below.refl _ _ | assumption | (refine Below.drew ?_) | (refine below_drewN ?_ _) | (refine Below.alloc ?_ (by first | omega | (simp; done) | (simp; omega)) _) | (refine Below.setCell ?_ (by first | omega | (simp; done) | (simp; omega)) _)))
    have hs0l : w.heap.size + 2 ≤ ((w.alloc (.cells #[.slice ad s.D.length cd, .int .i64 s.r, .int .i64 s.b, .int .i64 s.a, .slice ac s.C.length cc, .slice aq nq cq, .bool s.z] 49)).alloc (.cells #[.slice none 0 0, .int .i64 0, .int .i64 0, .int .i64 0, .slice none 0 0, .slice none 0 0, .bool false] 49)).heap.size := by simp
    generalize ((w.alloc (.cells #[.slice ad s.D.length cd, .int .i64 s.r, .int .i64 s.b, .int .i64 s.a, .slice ac s.C.length cc, .slice aq nq cq, .bool s.z] 49)).alloc (.cells #[.slice none 0 0, .int .i64 0, .int .i64 0, .int .i64 0, .slice none 0 0, .slice none 0 0, .bool false] 49)) = w0 at *
    refine (spec_sessionOk s _ _ (HV.out.kept HT0) HB.out HF.out).mono ?_
    rintro e w1 ⟨rfl, hb1⟩
    rw [HS.out]
    replace b0 := (hb1.cell (p := ⟨w.heap.size, _, none⟩) (by simp only; omega)).trans b0
    replace b1 := (hb1.cell (p := ⟨w.heap.size, _, none⟩) (by simp only; omega)).trans b1
    replace b2 := (hb1.cell (p := ⟨w.heap.size, _, none⟩) (by simp only; omega)).trans b2
    replace b3 := (hb1.cell (p := ⟨w.heap.size, _, none⟩) (by simp only; omega)).trans b3
    replace b4 := (hb1.cell (p := ⟨w.heap.size, _, none⟩) (by simp only; omega)).trans b4
    replace b5 := (hb1.cell (p := ⟨w.heap.size, _, none⟩) (by simp only; omega)).trans b5
    replace b6 := (hb1.cell (p := ⟨w.heap.size, _, none⟩) (by simp only; omega)).trans b6
    replace r0 := (hb1.cell (p := ⟨w.heap.size + 1, _, none⟩) (by simp only; omega)).trans r0
    replace r1 := (hb1.cell (p := ⟨w.heap.size + 1, _, none⟩) (by simp only; omega)).trans r1
    replace r2 := (hb1.cell (p := ⟨w.heap.size + 1, _, none⟩) (by simp only; omega)).trans r2
    replace r3 := (hb1.cell (p := ⟨w.heap.size + 1, _, none⟩) (by simp only; omega)).trans r3
    replace r4 := (hb1.cell (p := ⟨w.heap.size + 1, _, none⟩) (by simp only; omega)).trans r4
    replace r5 := (hb1.cell (p := ⟨w.heap.size + 1, _, none⟩) (by simp only; omega)).trans r5
    replace r6 := (hb1.cell (p := ⟨w.heap.size + 1, _, none⟩) (by simp only; omega)).trans r6
    replace fr : ∀ o, w1.frozen? ⟨w.heap.size + 1, o, none⟩ = false := fun o => (hb1.frozen (p := ⟨w.heap.size + 1, o, none⟩) (by simp only; omega)).trans (fr o)
    have HT1 := below_step HT0 hb1
    have hs1 : w.heap.size + 2 ≤ w1.heap.size := by have := hb1.size; omega
    clear hb1 HT0 hs0l
    have fr0 := fr 0
    have fr1 := fr 1
    have fr2 := fr 2
    have fr3 := fr 3
    have fr4 := fr 4
    have fr5 := fr 5
    have fr6 := fr 6
    clear fr
    go_wp2_with fail
    refine bodyPost_ret (v := .tuple #[.agg #[.slice none 0 0, .int .i64 0, .int .i64 0, .int .i64 0, .slice none 0 0, .slice none 0 0, .bool false], .slice none 0 0]) (by simp [results, Try.results27, go_sem, r0, r1, r2, r3, r4, r5, r6]) rfl ⟨none, none, none, 0, 0, 0, 0, none, 0, 0, rfl, zero_read _, rfl, .inl rfl, (((((((HT1.setCell (p := ⟨w.heap.size + 1, 0, none⟩) (by simp) (.slice none 0 0)).setCell (p := ⟨w.heap.size + 1, 1, none⟩) (by simp) (.int .i64 0)).setCell (p := ⟨w.heap.size + 1, 2, none⟩) (by simp) (.int .i64 0)).setCell (p := ⟨w.heap.size + 1, 3, none⟩) (by simp) (.int .i64 0)).setCell (p := ⟨w.heap.size + 1, 4, none⟩) (by simp) (.slice none 0 0)).setCell (p := ⟨w.heap.size + 1, 5, none⟩) (by simp) (.slice none 0 0)).setCell (p := ⟨w.heap.size + 1, 6, none⟩) (by simp) (.bool false))⟩
  · obtain ⟨hS1, hS2⟩ := drS_yes (most := most) hS hn
    rw [hS1, hS2]
    have HS := Lib.hid hS
    have hcl := cutN_le most nq
    have HCU := Lib.hid (show (most ≤ 0 → cutN most nq = 0) ∧ (0 < most → most ≤ (nq : Int) → (cutN most nq : Int) = most) ∧ (0 < most → (nq : Int) < most → cutN most nq = nq) from by
        unfold cutN
        refine ⟨fun h => if_pos h, fun h1 h2 => ?_, fun h1 h2 => ?_⟩
        · rw [if_neg (by omega), if_pos h2]; omega
        · rw [if_neg (by omega), if_neg (by omega)])
    clear hS hS1 hS2
    generalize cutN most nq = c at *
    go_enter Try.func27, Try.ntmps27
    go_wp2_with fail
    have b0 : ((w.alloc (.cells #[.slice ad s.D.length cd, .int .i64 s.r, .int .i64 s.b, .int .i64 s.a, .slice ac s.C.length cc, .slice aq nq cq, .bool s.z] 49)).alloc (.cells #[.slice none 0 0, .int .i64 0, .int .i64 0, .int .i64 0, .slice none 0 0, .slice none 0 0, .bool false] 49)).cell? ⟨w.heap.size, 0, none⟩ = some (.slice ad s.D.length cd) := by rw [cell_of_row _ _ 0 _ _ _ (heap_alloc2_old _ _ _)]; rfl
    have b1 : ((w.alloc (.cells #[.slice ad s.D.length cd, .int .i64 s.r, .int .i64 s.b, .int .i64 s.a, .slice ac s.C.length cc, .slice aq nq cq, .bool s.z] 49)).alloc (.cells #[.slice none 0 0, .int .i64 0, .int .i64 0, .int .i64 0, .slice none 0 0, .slice none 0 0, .bool false] 49)).cell? ⟨w.heap.size, 1, none⟩ = some (.int .i64 s.r) := by rw [cell_of_row _ _ 1 _ _ _ (heap_alloc2_old _ _ _)]; rfl
    have b2 : ((w.alloc (.cells #[.slice ad s.D.length cd, .int .i64 s.r, .int .i64 s.b, .int .i64 s.a, .slice ac s.C.length cc, .slice aq nq cq, .bool s.z] 49)).alloc (.cells #[.slice none 0 0, .int .i64 0, .int .i64 0, .int .i64 0, .slice none 0 0, .slice none 0 0, .bool false] 49)).cell? ⟨w.heap.size, 2, none⟩ = some (.int .i64 s.b) := by rw [cell_of_row _ _ 2 _ _ _ (heap_alloc2_old _ _ _)]; rfl
    have b3 : ((w.alloc (.cells #[.slice ad s.D.length cd, .int .i64 s.r, .int .i64 s.b, .int .i64 s.a, .slice ac s.C.length cc, .slice aq nq cq, .bool s.z] 49)).alloc (.cells #[.slice none 0 0, .int .i64 0, .int .i64 0, .int .i64 0, .slice none 0 0, .slice none 0 0, .bool false] 49)).cell? ⟨w.heap.size, 3, none⟩ = some (.int .i64 s.a) := by rw [cell_of_row _ _ 3 _ _ _ (heap_alloc2_old _ _ _)]; rfl
    have b4 : ((w.alloc (.cells #[.slice ad s.D.length cd, .int .i64 s.r, .int .i64 s.b, .int .i64 s.a, .slice ac s.C.length cc, .slice aq nq cq, .bool s.z] 49)).alloc (.cells #[.slice none 0 0, .int .i64 0, .int .i64 0, .int .i64 0, .slice none 0 0, .slice none 0 0, .bool false] 49)).cell? ⟨w.heap.size, 4, none⟩ = some (.slice ac s.C.length cc) := by rw [cell_of_row _ _ 4 _ _ _ (heap_alloc2_old _ _ _)]; rfl
    have b5 : ((w.alloc (.cells #[.slice ad s.D.length cd, .int .i64 s.r, .int .i64 s.b, .int .i64 s.a, .slice ac s.C.length cc, .slice aq nq cq, .bool s.z] 49)).alloc (.cells #[.slice none 0 0, .int .i64 0, .int .i64 0, .int .i64 0, .slice none 0 0, .slice none 0 0, .bool false] 49)).cell? ⟨w.heap.size, 5, none⟩ = some (.slice aq nq cq) := by rw [cell_of_row _ _ 5 _ _ _ (heap_alloc2_old _ _ _)]; rfl
    have b6 : ((w.alloc (.cells #[.slice ad s.D.length cd, .int .i64 s.r, .int .i64 s.b, .int .i64 s.a, .slice ac s.C.length cc, .slice aq nq cq, .bool s.z] 49)).alloc (.cells #[.slice none 0 0, .int .i64 0, .int .i64 0, .int .i64 0, .slice none 0 0, .slice none 0 0, .bool false] 49)).cell? ⟨w.heap.size, 6, none⟩ = some (.bool s.z) := by rw [cell_of_row _ _ 6 _ _ _ (heap_alloc2_old _ _ _)]; rfl
    have r0 : ((w.alloc (.cells #[.slice ad s.D.length cd, .int .i64 s.r, .int .i64 s.b, .int .i64 s.a, .slice ac s.C.length cc, .slice aq nq cq, .bool s.z] 49)).alloc (.cells #[.slice none 0 0, .int .i64 0, .int .i64 0, .int .i64 0, .slice none 0 0, .slice none 0 0, .bool false] 49)).cell? ⟨w.heap.size + 1, 0, none⟩ = some (.slice none 0 0) := by rw [cell_of_row _ _ 0 _ _ _ (heap_alloc2_new _ _ _)]; rfl
    have r1 : ((w.alloc (.cells #[.slice ad s.D.length cd, .int .i64 s.r, .int .i64 s.b, .int .i64 s.a, .slice ac s.C.length cc, .slice aq nq cq, .bool s.z] 49)).alloc (.cells #[.slice none 0 0, .int .i64 0, .int .i64 0, .int .i64 0, .slice none 0 0, .slice none 0 0, .bool false] 49)).cell? ⟨w.heap.size + 1, 1, none⟩ = some (.int .i64 0) := by rw [cell_of_row _ _ 1 _ _ _ (heap_alloc2_new _ _ _)]; rfl
    have r2 : ((w.alloc (.cells #[.slice ad s.D.length cd, .int .i64 s.r, .int .i64 s.b, .int .i64 s.a, .slice ac s.C.length cc, .slice aq nq cq, .bool s.z] 49)).alloc (.cells #[.slice none 0 0, .int .i64 0, .int .i64 0, .int .i64 0, .slice none 0 0, .slice none 0 0, .bool false] 49)).cell? ⟨w.heap.size + 1, 2, none⟩ = some (.int .i64 0) := by rw [cell_of_row _ _ 2 _ _ _ (heap_alloc2_new _ _ _)]; rfl
    have r3 : ((w.alloc (.cells #[.slice ad s.D.length cd, .int .i64 s.r, .int .i64 s.b, .int .i64 s.a, .slice ac s.C.length cc, .slice aq nq cq, .bool s.z] 49)).alloc (.cells #[.slice none 0 0, .int .i64 0, .int .i64 0, .int .i64 0, .slice none 0 0, .slice none 0 0, .bool false] 49)).cell? ⟨w.heap.size + 1, 3, none⟩ = some (.int .i64 0) := by rw [cell_of_row _ _ 3 _ _ _ (heap_alloc2_new _ _ _)]; rfl
    have r4 : ((w.alloc (.cells #[.slice ad s.D.length cd, .int .i64 s.r, .int .i64 s.b, .int .i64 s.a, .slice ac s.C.length cc, .slice aq nq cq, .bool s.z] 49)).alloc (.cells #[.slice none 0 0, .int .i64 0, .int .i64 0, .int .i64 0, .slice none 0 0, .slice none 0 0, .bool false] 49)).cell? ⟨w.heap.size + 1, 4, none⟩ = some (.slice none 0 0) := by rw [cell_of_row _ _ 4 _ _ _ (heap_alloc2_new _ _ _)]; rfl
    have r5 : ((w.alloc (.cells #[.slice ad s.D.length cd, .int .i64 s.r, .int .i64 s.b, .int .i64 s.a, .slice ac s.C.length cc, .slice aq nq cq, .bool s.z] 49)).alloc (.cells #[.slice none 0 0, .int .i64 0, .int .i64 0, .int .i64 0, .slice none 0 0, .slice none 0 0, .bool false] 49)).cell? ⟨w.heap.size + 1, 5, none⟩ = some (.slice none 0 0) := by rw [cell_of_row _ _ 5 _ _ _ (heap_alloc2_new _ _ _)]; rfl
    have r6 : ((w.alloc (.cells #[.slice ad s.D.length cd, .int .i64 s.r, .int .i64 s.b, .int .i64 s.a, .slice ac s.C.length cc, .slice aq nq cq, .bool s.z] 49)).alloc (.cells #[.slice none 0 0, .int .i64 0, .int .i64 0, .int .i64 0, .slice none 0 0, .slice none 0 0, .bool false] 49)).cell? ⟨w.heap.size + 1, 6, none⟩ = some (.bool false) := by rw [cell_of_row _ _ 6 _ _ _ (heap_alloc2_new _ _ _)]; rfl
    have fr : ∀ o, ((w.alloc (.cells #[.slice ad s.D.length cd, .int .i64 s.r, .int .i64 s.b, .int .i64 s.a, .slice ac s.C.length cc, .slice aq nq cq, .bool s.z] 49)).alloc (.cells #[.slice none 0 0, .int .i64 0, .int .i64 0, .int .i64 0, .slice none 0 0, .slice none 0 0, .bool false] 49)).frozen? ⟨w.heap.size + 1, o, none⟩ = false := fun o => frozen_of_row _ _ o _ _ (heap_alloc2_new _ _ _)
    have hrz0 : ((w.alloc (.cells #[.slice ad s.D.length cd, .int .i64 s.r, .int .i64 s.b, .int .i64 s.a, .slice ac s.C.length cc, .slice aq nq cq, .bool s.z] 49)).alloc (.cells #[.slice none 0 0, .int .i64 0, .int .i64 0, .int .i64 0, .slice none 0 0, .slice none 0 0, .bool false] 49)).heap[w.heap.size + 1]? = some (.cells #[.slice none 0 0, .int .i64 0, .int .i64 0, .int .i64 0, .slice none 0 0, .slice none 0 0, .bool false] 49 (0, 0)) := heap_alloc2_new _ _ _
    have HT0 : Below w.heap.size w ((w.alloc (.cells #[.slice ad s.D.length cd, .int .i64 s.r, .int .i64 s.b, .int .i64 s.a, .slice ac s.C.length cc, .slice aq nq cq, .bool s.z] 49)).alloc (.cells #[.slice none 0 0, .int .i64 0, .int .i64 0, .int .i64 0, .slice none 0 0, .slice none 0 0, .bool false] 49)) := (by repeat (first | exact Below.refl _ _ | assumption | (refine Below.drew ?_) | (refine below_drewN ?_ _) | (refine Below.alloc ?_ (by first | omega | (simp; done) | (simp; omega)) _) | (refine Below.setCell ?_ (by first | omega | (simp; done) | (simp; omega)) _)))
    have hs0l : w.heap.size + 2 ≤ ((w.alloc (.cells #[.slice ad s.D.length cd, .int .i64 s.r, .int .i64 s.b, .int .i64 s.a, .slice ac s.C.length cc, .slice aq nq cq, .bool s.z] 49)).alloc (.cells #[.slice none 0 0, .int .i64 0, .int .i64 0, .int .i64 0, .slice none 0 0, .slice none 0 0, .bool false] 49)).heap.size := by simp
    generalize ((w.alloc (.cells #[.slice ad s.D.length cd, .int .i64 s.r, .int .i64 s.b, .int .i64 s.a, .slice ac s.C.length cc, .slice aq nq cq, .bool s.z] 49)).alloc (.cells #[.slice none 0 0, .int .i64 0, .int .i64 0, .int .i64 0, .slice none 0 0, .slice none 0 0, .bool false] 49)) = w0 at *
    refine (spec_sessionOk s _ _ (HV.out.kept HT0) HB.out HF.out).mono ?_
    rintro e w1 ⟨rfl, hb1⟩
    rw [HS.out]
    replace b0 := (hb1.cell (p := ⟨w.heap.size, _, none⟩) (by simp only; omega)).trans b0
    replace b1 := (hb1.cell (p := ⟨w.heap.size, _, none⟩) (by simp only; omega)).trans b1
    replace b2 := (hb1.cell (p := ⟨w.heap.size, _, none⟩) (by simp only; omega)).trans b2
    replace b3 := (hb1.cell (p := ⟨w.heap.size, _, none⟩) (by simp only; omega)).trans b3
    replace b4 := (hb1.cell (p := ⟨w.heap.size, _, none⟩) (by simp only; omega)).trans b4
    replace b5 := (hb1.cell (p := ⟨w.heap.size, _, none⟩) (by simp only; omega)).trans b5
    replace b6 := (hb1.cell (p := ⟨w.heap.size, _, none⟩) (by simp only; omega)).trans b6
    replace r0 := (hb1.cell (p := ⟨w.heap.size + 1, _, none⟩) (by simp only; omega)).trans r0
    replace r1 := (hb1.cell (p := ⟨w.heap.size + 1, _, none⟩) (by simp only; omega)).trans r1
    replace r2 := (hb1.cell (p := ⟨w.heap.size + 1, _, none⟩) (by simp only; omega)).trans r2
    replace r3 := (hb1.cell (p := ⟨w.heap.size + 1, _, none⟩) (by simp only; omega)).trans r3
    replace r4 := (hb1.cell (p := ⟨w.heap.size + 1, _, none⟩) (by simp only; omega)).trans r4
    replace r5 := (hb1.cell (p := ⟨w.heap.size + 1, _, none⟩) (by simp only; omega)).trans r5
    replace r6 := (hb1.cell (p := ⟨w.heap.size + 1, _, none⟩) (by simp only; omega)).trans r6
    replace fr : ∀ o, w1.frozen? ⟨w.heap.size + 1, o, none⟩ = false := fun o => (hb1.frozen (p := ⟨w.heap.size + 1, o, none⟩) (by simp only; omega)).trans (fr o)
    replace hrz0 := (hb1.block (w.heap.size + 1) (by omega)).trans hrz0
    have HT1 := below_step HT0 hb1
    have hs1 : w.heap.size + 2 ≤ w1.heap.size := by have := hb1.size; omega
    clear hb1 HT0 hs0l
    go_wp2_with fail
    refine (spec_l11Copy s _ _ (HV.out.kept HT1) HB.out).mono ?_
    rintro e w2 ⟨ad2, ac2, aq2, cd2, cc2, cq2, nq2, rfl, hV2, ⟨g2, rfl, hcap⟩, hb2⟩
    obtain rfl : nq2 = nq := by obtain ⟨_, _, _, _, _, _, _, hv, hn2, _⟩ := hV2 _ (Trn.refl _ _); simp only [sesV, Value.agg.injEq, Array.mk.injEq, List.cons.injEq, Value.slice.injEq, and_true, true_and] at hv; omega
    replace r0 := (hb2.cell (p := ⟨w.heap.size + 1, _, none⟩) (by simp only; omega)).trans r0
    replace r1 := (hb2.cell (p := ⟨w.heap.size + 1, _, none⟩) (by simp only; omega)).trans r1
    replace r2 := (hb2.cell (p := ⟨w.heap.size + 1, _, none⟩) (by simp only; omega)).trans r2
    replace r3 := (hb2.cell (p := ⟨w.heap.size + 1, _, none⟩) (by simp only; omega)).trans r3
    replace r4 := (hb2.cell (p := ⟨w.heap.size + 1, _, none⟩) (by simp only; omega)).trans r4
    replace r5 := (hb2.cell (p := ⟨w.heap.size + 1, _, none⟩) (by simp only; omega)).trans r5
    replace r6 := (hb2.cell (p := ⟨w.heap.size + 1, _, none⟩) (by simp only; omega)).trans r6
    replace fr : ∀ o, w2.frozen? ⟨w.heap.size + 1, o, none⟩ = false := fun o => (hb2.frozen (p := ⟨w.heap.size + 1, o, none⟩) (by simp only; omega)).trans (fr o)
    have hrz2 := (hb2.block (w.heap.size + 1) (by omega)).trans hrz0
    have HT2 := below_step HT1 hb2
    have hs2 : w.heap.size + 2 ≤ w2.heap.size := by have := hb2.size; omega
    have HCL := Lib.hid hcl
    have hcc : c ≤ cq2 := by omega
    have s12 := hb2.size
    clear hb2 HT1 b0 b1 b2 b3 b4 b5 b6
    go_upto_region 4 with fail
    have hbN : Below w2.heap.size w2 (w2.alloc (.cells #[.slice ad2 s.D.length cd2, .int .i64 s.r, .int .i64 s.b, .int .i64 s.a, .slice ac2 s.C.length cc2, .slice (some ⟨g2, 0, none⟩) nq2 cq2, .bool s.z] 49)) := (Below.refl _ _).alloc (Nat.le_refl _) _
    have HRN := Lib.hid (show (w2.alloc (.cells #[.slice ad2 s.D.length cd2, .int .i64 s.r, .int .i64 s.b, .int .i64 s.a, .slice ac2 s.C.length cc2, .slice (some ⟨g2, 0, none⟩) nq2 cq2, .bool s.z] 49)).heap[w2.heap.size]? = some (.cells #[.slice ad2 s.D.length cd2, .int .i64 s.r, .int .i64 s.b, .int .i64 s.a, .slice ac2 s.C.length cc2, .slice (some ⟨g2, 0, none⟩) nq2 cq2, .bool s.z] 49 (0, 0)) from heap_alloc_new _ _)
    have HRZ := Lib.hid ((hbN.block (w.heap.size + 1) (by omega)).trans hrz2)
    have HBN := Lib.hid hbN
    have HTN := Lib.hid (below_step HT2 hbN)
    have hVN := (hV2 _ (Trn.refl _ _)).kept hbN
    have HVC := Lib.hid hV2
    have HTA := Lib.hid (show Trn (fun k => k < w1.heap.size ∨ w2.heap.size ≤ k) w2 (w2.alloc (.cells #[.slice ad2 s.D.length cd2, .int .i64 s.r, .int .i64 s.b, .int .i64 s.a, .slice ac2 s.C.length cc2, .slice (some ⟨g2, 0, none⟩) nq2 cq2, .bool s.z] 49)) from Trn.alloc _ _)
    have hsN : w2.heap.size < (w2.alloc (.cells #[.slice ad2 s.D.length cd2, .int .i64 s.r, .int .i64 s.b, .int .i64 s.a, .slice ac2 s.C.length cc2, .slice (some ⟨g2, 0, none⟩) nq2 cq2, .bool s.z] 49)).heap.size := by simp
    have hQN : Ints (w2.alloc (.cells #[.slice ad2 s.D.length cd2, .int .i64 s.r, .int .i64 s.b, .int .i64 s.a, .slice ac2 s.C.length cc2, .slice (some ⟨g2, 0, none⟩) nq2 cq2, .bool s.z] 49)) (some ⟨g2, 0, none⟩) s.Q := by
      obtain ⟨_, _, _, _, _, _, _, hv, _, _, _, hQ5⟩ := hVN
      simp only [sesV, Value.agg.injEq, Array.mk.injEq, List.cons.injEq, Value.slice.injEq, and_true, true_and] at hv
      obtain ⟨_, _, ⟨rfl, _⟩, _, _⟩ := hv
      exact hQ5
    have HVN := Lib.hid hVN
    have HQN := Lib.hid hQN
    clear hbN hV2 HT2 r0 r1 r2 r3 r4 r5 r6 fr hVN hQN hrz2
    generalize (w2.alloc (.cells #[.slice ad2 s.D.length cd2, .int .i64 s.r, .int .i64 s.b, .int .i64 s.a, .slice ac2 s.C.length cc2, .slice (some ⟨g2, 0, none⟩) nq2 cq2, .bool s.z] 49)) = wN at *
    have n5 : wN.cell? ⟨w2.heap.size, 5, none⟩ = some (.slice (some ⟨g2, 0, none⟩) nq2 cq2) := by rw [cell_of_row _ _ 5 _ _ _ HRN.out]; rfl
    have hnq : nq2 ≤ 1048576 := by omega
    go_cut [7] from 15 (fun x wr => x = .int .i64 c ∧ wr = wN)
    case first =>
      by_cases h1 : most ≤ (nq2 : Int)
      · by_cases h2 : (0 : Int) ≤ most
        · have hcm : (c : Int) = most := by have := HCU.out; by_cases h3 : most ≤ 0 <;> omega
          go_wp2_with fail
          all_goals (go_meet; exact ⟨by simp only [Value.int.injEq, true_and]; omega, rfl⟩)
        · have hcm : c = 0 := HCU.out.1 (by omega)
          subst hcm
          go_wp2_with fail
          all_goals (go_meet; exact ⟨by simp only [Value.int.injEq, true_and]; omega, rfl⟩)
      · have hcm : c = nq2 := HCU.out.2.2 (by omega) (by omega)
        have h2 : (0 : Int) ≤ (nq2 : Int) := by omega
        subst hcm
        go_wp2_with fail
        all_goals (go_meet; exact ⟨by first | rfl | (simp only [Value.int.injEq, true_and]; omega), rfl⟩)
    case rest =>
      obtain ⟨rfl, rfl⟩ := hcut
      have HN1 := Lib.hid (show News (wc.alloc (.cells #[] 106)) (some ⟨g2, 0, none⟩) ((s.Q.take (c * 3)).map (Value.int .i64)) from ((HQN.out.take _).kept ((Below.refl _ _).alloc (Nat.le_refl _) _)).vals.news)
      have HL1 := Lib.hid (show ((s.Q.take (c * 3)).map (Value.int .i64)).length = c * 3 by rw [List.length_map, List.length_take, hn]; have := HCL.out; omega)
      have HO1 := Lib.hid (ints_oneCell .i64 (s.Q.take (c * 3)))
      have HO2 := Lib.hid (ints_oneCell .i64 (s.Q.drop (c * 3)))
      have HL2 := Lib.hid (show ((s.Q.drop (c * 3)).map (Value.int .i64)).length = (nq2 - c) * 3 by rw [List.length_map, List.length_drop, hn]; omega)
      have HN0 := Lib.hid hn
      have hcl := HCL.out
      clear hn
      have HN2 := Lib.hid (fun (w3 : World) (h3 : Below wc.heap.size wc w3) => show News (w3.alloc (.cells #[] 106)) (some ⟨g2, c * 3, none⟩) ((s.Q.drop (c * 3)).map (Value.int .i64)) from (((HQN.out.kept h3).kept ((Below.refl _ _).alloc (Nat.le_refl _) _)).drop (c * 3)).vals.news |> fun h => by simpa using h)
      by_cases hcq : c < cq2
      · go_wp2_with (first | (at_builtin; refine wpList_append_vals rfl _ _ 37 rfl wc.heap.size 106 ir (.agg #[.int .i64 0, .int .i64 0, .int .i64 0]) 3 24 Try.underlying37 hir hr0 hr1 hr2 rfl (by decide) _ _ _ rfl (World.ownsRow_made wc #[] 0 (Nat.le_refl _) (by decide) rfl) (some ⟨g2, 0, none⟩) c cq2 _ rfl HL1.out HN1.out HO1.out (by unfold maxLen; omega) (by omega) (by simp) ?_; intro v3 w3 hown3 hg3; replace hg3 : (wc.alloc (.cells #[] 106)).grownBy w3 (some wc.heap.size) := hg3; have hb3 : Below wc.heap.size wc w3 := ((Below.refl _ wc).alloc (Nat.le_refl _) _).grown hg3 (by simp) (fun q hq => by cases hq; exact Nat.le_refl _); obtain ⟨a3, c3, rfl, hO3⟩ := OwnM.shape (show (s.Q.take (c * 3)).length = c * 3 by rw [List.length_take, HN0.out]; omega) (show w3.ownsRow wc.heap.size 106 3 v3 c ((s.Q.take (c * 3)).map (Value.int .i64)) by simpa using hown3); have HO3 := Lib.hid hO3; have HB3 := Lib.hid hb3; have hr3 := (hb3.block _ hsN).trans HRN.out; have m5 : w3.cell? ⟨w2.heap.size, 5, none⟩ = some (.slice (some ⟨g2, 0, none⟩) nq2 cq2) := (by rw [cell_of_row _ _ 5 _ _ _ hr3]; rfl); have y1 : w2.heap.size < w3.heap.size := (by have := hb3.size; omega); have y2 : ¬ w2.heap.size = w3.heap.size := (by omega); have y3 : ¬ w3.heap.size = w2.heap.size := (by omega); have HR3 := Lib.hid hr3; clear hr3 hown3 hg3 hO3 hb3) | (at_builtin; refine wpList_append_vals rfl _ _ 37 rfl w3.heap.size 106 ir (.agg #[.int .i64 0, .int .i64 0, .int .i64 0]) 3 24 Try.underlying37 hir hr0 hr1 hr2 rfl (by decide) _ _ _ rfl (World.ownsRow_made w3 #[] 0 (Nat.le_refl _) (by decide) rfl) (some ⟨g2, c * 3, none⟩) (nq2 - c) (cq2 - c) _ rfl HL2.out (HN2.out _ HB3.out) HO2.out (by unfold maxLen; omega) (by omega) (by simp) ?_; intro v4 w4 hown4 hg4; replace hg4 : (w3.alloc (.cells #[] 106)).grownBy w4 (some w3.heap.size) := hg4; have hb4 : Below w3.heap.size w3 w4 := ((Below.refl _ w3).alloc (Nat.le_refl _) _).grown hg4 (by simp) (fun q hq => by cases hq; exact Nat.le_refl _); obtain ⟨a4, c4, rfl, hO4⟩ := OwnM.shape (show (s.Q.drop (c * 3)).length = (nq2 - c) * 3 by rw [List.length_drop, HN0.out]; omega) (show w4.ownsRow w3.heap.size 106 3 v4 (nq2 - c) ((s.Q.drop (c * 3)).map (Value.int .i64)) by simpa using hown4); have HO4 := Lib.hid hO4; have HB4 := Lib.hid hb4; have hr4 := (hb4.block _ y1).trans HR3.out; have k0 : w4.cell? ⟨w2.heap.size, 0, none⟩ = some (.slice ad2 s.D.length cd2) := (by rw [cell_of_row _ _ 0 _ _ _ hr4]; rfl); have k1 : w4.cell? ⟨w2.heap.size, 1, none⟩ = some (.int .i64 s.r) := (by rw [cell_of_row _ _ 1 _ _ _ hr4]; rfl); have k2 : w4.cell? ⟨w2.heap.size, 2, none⟩ = some (.int .i64 s.b) := (by rw [cell_of_row _ _ 2 _ _ _ hr4]; rfl); have k3 : w4.cell? ⟨w2.heap.size, 3, none⟩ = some (.int .i64 s.a) := (by rw [cell_of_row _ _ 3 _ _ _ hr4]; rfl); have k4 : w4.cell? ⟨w2.heap.size, 4, none⟩ = some (.slice ac2 s.C.length cc2) := (by rw [cell_of_row _ _ 4 _ _ _ hr4]; rfl); have k5 : w4.cell? ⟨w2.heap.size, 5, none⟩ = some (.slice (some ⟨g2, 0, none⟩) nq2 cq2) := (by rw [cell_of_row _ _ 5 _ _ _ hr4]; rfl); have k6 : w4.cell? ⟨w2.heap.size, 6, none⟩ = some (.bool s.z) := (by rw [cell_of_row _ _ 6 _ _ _ hr4]; rfl); have fk := frozen_of_row _ _ 5 _ _ hr4; have hrz := (hb4.block (w.heap.size + 1) (by omega)).trans ((HB3.out.block (w.heap.size + 1) (by omega)).trans HRZ.out); have r0 : w4.cell? ⟨w.heap.size + 1, 0, none⟩ = some (.slice none 0 0) := (by rw [cell_of_row _ _ 0 _ _ _ hrz]; rfl); have fr0 := frozen_of_row _ _ 0 _ _ hrz; have r1 : w4.cell? ⟨w.heap.size + 1, 1, none⟩ = some (.int .i64 0) := (by rw [cell_of_row _ _ 1 _ _ _ hrz]; rfl); have fr1 := frozen_of_row _ _ 1 _ _ hrz; have r2 : w4.cell? ⟨w.heap.size + 1, 2, none⟩ = some (.int .i64 0) := (by rw [cell_of_row _ _ 2 _ _ _ hrz]; rfl); have fr2 := frozen_of_row _ _ 2 _ _ hrz; have r3 : w4.cell? ⟨w.heap.size + 1, 3, none⟩ = some (.int .i64 0) := (by rw [cell_of_row _ _ 3 _ _ _ hrz]; rfl); have fr3 := frozen_of_row _ _ 3 _ _ hrz; have r4 : w4.cell? ⟨w.heap.size + 1, 4, none⟩ = some (.slice none 0 0) := (by rw [cell_of_row _ _ 4 _ _ _ hrz]; rfl); have fr4 := frozen_of_row _ _ 4 _ _ hrz; have r5 : w4.cell? ⟨w.heap.size + 1, 5, none⟩ = some (.slice none 0 0) := (by rw [cell_of_row _ _ 5 _ _ _ hrz]; rfl); have fr5 := frozen_of_row _ _ 5 _ _ hrz; have r6 : w4.cell? ⟨w.heap.size + 1, 6, none⟩ = some (.bool false) := (by rw [cell_of_row _ _ 6 _ _ _ hrz]; rfl); have fr6 := frozen_of_row _ _ 6 _ _ hrz; have y4 : ¬ w2.heap.size = w.heap.size + 1 := (by omega); have y5 : ¬ w.heap.size + 1 = w2.heap.size := (by omega); clear hown4 hg4 hO4 hb4 hr4 hrz))
        have s34 := HB3.out.size
        have HTF := Lib.hid (((((((((((HTA.out.trans (Trn.of_below HB3.out |>.mono fun k _ h => by omega)).trans (Trn.of_below HB4.out |>.mono fun k _ h => by omega)).trans (Trn.set (S := fun k => k < w1.heap.size ∨ w2.heap.size ≤ k) _ w2.heap.size 5 (.slice a4 (nq2 - c) c4) (by omega)))).trans (Trn.set (S := fun k => k < w1.heap.size ∨ w2.heap.size ≤ k) _ (w.heap.size + 1) 0 (.slice ad2 s.D.length cd2) (by omega))).trans (Trn.set (S := fun k => k < w1.heap.size ∨ w2.heap.size ≤ k) _ (w.heap.size + 1) 1 (.int .i64 s.r) (by omega))).trans (Trn.set (S := fun k => k < w1.heap.size ∨ w2.heap.size ≤ k) _ (w.heap.size + 1) 2 (.int .i64 s.b) (by omega))).trans (Trn.set (S := fun k => k < w1.heap.size ∨ w2.heap.size ≤ k) _ (w.heap.size + 1) 3 (.int .i64 s.a) (by omega))).trans (Trn.set (S := fun k => k < w1.heap.size ∨ w2.heap.size ≤ k) _ (w.heap.size + 1) 4 (.slice ac2 s.C.length cc2) (by omega))).trans (Trn.set (S := fun k => k < w1.heap.size ∨ w2.heap.size ≤ k) _ (w.heap.size + 1) 5 (.slice a4 (nq2 - c) c4) (by omega))).trans (Trn.set (S := fun k => k < w1.heap.size ∨ w2.heap.size ≤ k) _ (w.heap.size + 1) 6 (.bool s.z) (by omega)))
        have HBF := Lib.hid (((((((((((HTN.out.trans (HB3.out.mono (by omega))).trans (HB4.out.mono (by omega))).setCell (p := ⟨w2.heap.size, 5, none⟩) (by simp; omega) (.slice a4 (nq2 - c) c4))).setCell (p := ⟨w.heap.size + 1, 0, none⟩) (by simp) (.slice ad2 s.D.length cd2)).setCell (p := ⟨w.heap.size + 1, 1, none⟩) (by simp) (.int .i64 s.r)).setCell (p := ⟨w.heap.size + 1, 2, none⟩) (by simp) (.int .i64 s.b)).setCell (p := ⟨w.heap.size + 1, 3, none⟩) (by simp) (.int .i64 s.a)).setCell (p := ⟨w.heap.size + 1, 4, none⟩) (by simp) (.slice ac2 s.C.length cc2)).setCell (p := ⟨w.heap.size + 1, 5, none⟩) (by simp) (.slice a4 (nq2 - c) c4)).setCell (p := ⟨w.heap.size + 1, 6, none⟩) (by simp) (.bool s.z))
        have HT4 := Lib.hid ((((((((Trn.set (S := fun k => k < wc.heap.size) w4 w2.heap.size 5 (.slice a4 (nq2 - c) c4) (by omega)).trans (Trn.set (S := fun k => k < wc.heap.size) _ (w.heap.size + 1) 0 (.slice ad2 s.D.length cd2) (by omega))).trans (Trn.set (S := fun k => k < wc.heap.size) _ (w.heap.size + 1) 1 (.int .i64 s.r) (by omega))).trans (Trn.set (S := fun k => k < wc.heap.size) _ (w.heap.size + 1) 2 (.int .i64 s.b) (by omega))).trans (Trn.set (S := fun k => k < wc.heap.size) _ (w.heap.size + 1) 3 (.int .i64 s.a) (by omega))).trans (Trn.set (S := fun k => k < wc.heap.size) _ (w.heap.size + 1) 4 (.slice ac2 s.C.length cc2) (by omega))).trans (Trn.set (S := fun k => k < wc.heap.size) _ (w.heap.size + 1) 5 (.slice a4 (nq2 - c) c4) (by omega))).trans (Trn.set (S := fun k => k < wc.heap.size) _ (w.heap.size + 1) 6 (.bool s.z) (by omega)))
        have HI4 := Lib.hid ((HO4.out.v_trn HT4.out (fun k hk => by omega)).ints)
        have HI3 := Lib.hid (((HO3.out.kept HB4.out).v_trn HT4.out (fun k hk => hk)).ints)
        refine bodyPost_ret (v := .tuple #[.agg #[.slice ad2 s.D.length cd2, .int .i64 s.r, .int .i64 s.b, .int .i64 s.a, .slice ac2 s.C.length cc2, .slice a4 (nq2 - c) c4, .bool s.z], .slice a3 c c3]) (by simp [results, Try.results27, go_sem, r0, r1, r2, r3, r4, r5, r6]) rfl ⟨ad2, ac2, a4, cd2, cc2, c4, (nq2 - c), a3, c, c3, rfl, SesV.que (HVC.out _ HTF.out) a4 (nq2 - c) c4 _ HO4.out.len HI4.out, HO3.out.len, HI3.out, HBF.out⟩
      · have hcn : c = nq2 := by omega
        have hcm : c = cq2 := by omega
        subst hcn
        subst hcm
        have HZZ := Lib.hid (show s.Q.drop (c * 3) = [] by apply List.drop_of_length_le; rw [HN0.out]; omega)
        go_wp2_with (first | (at_builtin; refine wpList_append_vals rfl _ _ 37 rfl wc.heap.size 106 ir (.agg #[.int .i64 0, .int .i64 0, .int .i64 0]) 3 24 Try.underlying37 hir hr0 hr1 hr2 rfl (by decide) _ _ _ rfl (World.ownsRow_made wc #[] 0 (Nat.le_refl _) (by decide) rfl) (some ⟨g2, 0, none⟩) c c _ rfl HL1.out HN1.out HO1.out (by unfold maxLen; omega) (by omega) (by simp) ?_; intro v3 w3 hown3 hg3; replace hg3 : (wc.alloc (.cells #[] 106)).grownBy w3 (some wc.heap.size) := hg3; have hb3 : Below wc.heap.size wc w3 := ((Below.refl _ wc).alloc (Nat.le_refl _) _).grown hg3 (by simp) (fun q hq => by cases hq; exact Nat.le_refl _); obtain ⟨a3, c3, rfl, hO3⟩ := OwnM.shape (show (s.Q.take (c * 3)).length = c * 3 by rw [List.length_take, HN0.out]; omega) (show w3.ownsRow wc.heap.size 106 3 v3 c ((s.Q.take (c * 3)).map (Value.int .i64)) by simpa using hown3); have HO3 := Lib.hid hO3; have HB3 := Lib.hid hb3; have hr3 := (hb3.block _ hsN).trans HRN.out; have m5 : w3.cell? ⟨w2.heap.size, 5, none⟩ = some (.slice (some ⟨g2, 0, none⟩) c c) := (by rw [cell_of_row _ _ 5 _ _ _ hr3]; rfl); have y1 : w2.heap.size < w3.heap.size := (by have := hb3.size; omega); have y2 : ¬ w2.heap.size = w3.heap.size := (by omega); have y3 : ¬ w3.heap.size = w2.heap.size := (by omega); have HR3 := Lib.hid hr3; clear hr3 hown3 hg3 hO3 hb3) | (at_builtin; refine wpList_append_vals rfl _ _ 37 rfl w3.heap.size 106 ir (.agg #[.int .i64 0, .int .i64 0, .int .i64 0]) 3 24 Try.underlying37 hir hr0 hr1 hr2 rfl (by decide) _ _ _ rfl (World.ownsRow_made w3 #[] 0 (Nat.le_refl _) (by decide) rfl) (some ⟨g2, 0, none⟩) 0 0 [] rfl rfl (.inr ⟨_, rfl, fun j u h => by simp at h⟩) (by simp) (by unfold maxLen; omega) (by omega) (by simp) ?_; intro v4 w4 hown4 hg4; replace hg4 : (w3.alloc (.cells #[] 106)).grownBy w4 (some w3.heap.size) := hg4; have hb4 : Below w3.heap.size w3 w4 := ((Below.refl _ w3).alloc (Nat.le_refl _) _).grown hg4 (by simp) (fun q hq => by cases hq; exact Nat.le_refl _); obtain ⟨a4, c4, rfl, hO4⟩ := OwnM.shape (show (s.Q.drop (c * 3)).length = 0 * 3 by rw [List.length_drop, HN0.out]; omega) (show w4.ownsRow w3.heap.size 106 3 v4 0 ((s.Q.drop (c * 3)).map (Value.int .i64)) by rw [HZZ.out]; simpa using hown4); have HO4 := Lib.hid hO4; have HB4 := Lib.hid hb4; have hr4 := (hb4.block _ y1).trans HR3.out; have k0 : w4.cell? ⟨w2.heap.size, 0, none⟩ = some (.slice ad2 s.D.length cd2) := (by rw [cell_of_row _ _ 0 _ _ _ hr4]; rfl); have k1 : w4.cell? ⟨w2.heap.size, 1, none⟩ = some (.int .i64 s.r) := (by rw [cell_of_row _ _ 1 _ _ _ hr4]; rfl); have k2 : w4.cell? ⟨w2.heap.size, 2, none⟩ = some (.int .i64 s.b) := (by rw [cell_of_row _ _ 2 _ _ _ hr4]; rfl); have k3 : w4.cell? ⟨w2.heap.size, 3, none⟩ = some (.int .i64 s.a) := (by rw [cell_of_row _ _ 3 _ _ _ hr4]; rfl); have k4 : w4.cell? ⟨w2.heap.size, 4, none⟩ = some (.slice ac2 s.C.length cc2) := (by rw [cell_of_row _ _ 4 _ _ _ hr4]; rfl); have k5 : w4.cell? ⟨w2.heap.size, 5, none⟩ = some (.slice (some ⟨g2, 0, none⟩) c c) := (by rw [cell_of_row _ _ 5 _ _ _ hr4]; rfl); have k6 : w4.cell? ⟨w2.heap.size, 6, none⟩ = some (.bool s.z) := (by rw [cell_of_row _ _ 6 _ _ _ hr4]; rfl); have fk := frozen_of_row _ _ 5 _ _ hr4; have hrz := (hb4.block (w.heap.size + 1) (by omega)).trans ((HB3.out.block (w.heap.size + 1) (by omega)).trans HRZ.out); have r0 : w4.cell? ⟨w.heap.size + 1, 0, none⟩ = some (.slice none 0 0) := (by rw [cell_of_row _ _ 0 _ _ _ hrz]; rfl); have fr0 := frozen_of_row _ _ 0 _ _ hrz; have r1 : w4.cell? ⟨w.heap.size + 1, 1, none⟩ = some (.int .i64 0) := (by rw [cell_of_row _ _ 1 _ _ _ hrz]; rfl); have fr1 := frozen_of_row _ _ 1 _ _ hrz; have r2 : w4.cell? ⟨w.heap.size + 1, 2, none⟩ = some (.int .i64 0) := (by rw [cell_of_row _ _ 2 _ _ _ hrz]; rfl); have fr2 := frozen_of_row _ _ 2 _ _ hrz; have r3 : w4.cell? ⟨w.heap.size + 1, 3, none⟩ = some (.int .i64 0) := (by rw [cell_of_row _ _ 3 _ _ _ hrz]; rfl); have fr3 := frozen_of_row _ _ 3 _ _ hrz; have r4 : w4.cell? ⟨w.heap.size + 1, 4, none⟩ = some (.slice none 0 0) := (by rw [cell_of_row _ _ 4 _ _ _ hrz]; rfl); have fr4 := frozen_of_row _ _ 4 _ _ hrz; have r5 : w4.cell? ⟨w.heap.size + 1, 5, none⟩ = some (.slice none 0 0) := (by rw [cell_of_row _ _ 5 _ _ _ hrz]; rfl); have fr5 := frozen_of_row _ _ 5 _ _ hrz; have r6 : w4.cell? ⟨w.heap.size + 1, 6, none⟩ = some (.bool false) := (by rw [cell_of_row _ _ 6 _ _ _ hrz]; rfl); have fr6 := frozen_of_row _ _ 6 _ _ hrz; have y4 : ¬ w2.heap.size = w.heap.size + 1 := (by omega); have y5 : ¬ w.heap.size + 1 = w2.heap.size := (by omega); clear hown4 hg4 hO4 hb4 hr4 hrz))
        have s34 := HB3.out.size
        have HTF := Lib.hid (((((((((((HTA.out.trans (Trn.of_below HB3.out |>.mono fun k _ h => by omega)).trans (Trn.of_below HB4.out |>.mono fun k _ h => by omega)).trans (Trn.set (S := fun k => k < w1.heap.size ∨ w2.heap.size ≤ k) _ w2.heap.size 5 (.slice a4 0 c4) (by omega)))).trans (Trn.set (S := fun k => k < w1.heap.size ∨ w2.heap.size ≤ k) _ (w.heap.size + 1) 0 (.slice ad2 s.D.length cd2) (by omega))).trans (Trn.set (S := fun k => k < w1.heap.size ∨ w2.heap.size ≤ k) _ (w.heap.size + 1) 1 (.int .i64 s.r) (by omega))).trans (Trn.set (S := fun k => k < w1.heap.size ∨ w2.heap.size ≤ k) _ (w.heap.size + 1) 2 (.int .i64 s.b) (by omega))).trans (Trn.set (S := fun k => k < w1.heap.size ∨ w2.heap.size ≤ k) _ (w.heap.size + 1) 3 (.int .i64 s.a) (by omega))).trans (Trn.set (S := fun k => k < w1.heap.size ∨ w2.heap.size ≤ k) _ (w.heap.size + 1) 4 (.slice ac2 s.C.length cc2) (by omega))).trans (Trn.set (S := fun k => k < w1.heap.size ∨ w2.heap.size ≤ k) _ (w.heap.size + 1) 5 (.slice a4 0 c4) (by omega))).trans (Trn.set (S := fun k => k < w1.heap.size ∨ w2.heap.size ≤ k) _ (w.heap.size + 1) 6 (.bool s.z) (by omega)))
        have HBF := Lib.hid (((((((((((HTN.out.trans (HB3.out.mono (by omega))).trans (HB4.out.mono (by omega))).setCell (p := ⟨w2.heap.size, 5, none⟩) (by simp; omega) (.slice a4 0 c4))).setCell (p := ⟨w.heap.size + 1, 0, none⟩) (by simp) (.slice ad2 s.D.length cd2)).setCell (p := ⟨w.heap.size + 1, 1, none⟩) (by simp) (.int .i64 s.r)).setCell (p := ⟨w.heap.size + 1, 2, none⟩) (by simp) (.int .i64 s.b)).setCell (p := ⟨w.heap.size + 1, 3, none⟩) (by simp) (.int .i64 s.a)).setCell (p := ⟨w.heap.size + 1, 4, none⟩) (by simp) (.slice ac2 s.C.length cc2)).setCell (p := ⟨w.heap.size + 1, 5, none⟩) (by simp) (.slice a4 0 c4)).setCell (p := ⟨w.heap.size + 1, 6, none⟩) (by simp) (.bool s.z))
        have HT4 := Lib.hid ((((((((Trn.set (S := fun k => k < wc.heap.size) w4 w2.heap.size 5 (.slice a4 0 c4) (by omega)).trans (Trn.set (S := fun k => k < wc.heap.size) _ (w.heap.size + 1) 0 (.slice ad2 s.D.length cd2) (by omega))).trans (Trn.set (S := fun k => k < wc.heap.size) _ (w.heap.size + 1) 1 (.int .i64 s.r) (by omega))).trans (Trn.set (S := fun k => k < wc.heap.size) _ (w.heap.size + 1) 2 (.int .i64 s.b) (by omega))).trans (Trn.set (S := fun k => k < wc.heap.size) _ (w.heap.size + 1) 3 (.int .i64 s.a) (by omega))).trans (Trn.set (S := fun k => k < wc.heap.size) _ (w.heap.size + 1) 4 (.slice ac2 s.C.length cc2) (by omega))).trans (Trn.set (S := fun k => k < wc.heap.size) _ (w.heap.size + 1) 5 (.slice a4 0 c4) (by omega))).trans (Trn.set (S := fun k => k < wc.heap.size) _ (w.heap.size + 1) 6 (.bool s.z) (by omega)))
        have HI4 := Lib.hid ((HO4.out.v_trn HT4.out (fun k hk => by omega)).ints)
        have HI3 := Lib.hid (((HO3.out.kept HB4.out).v_trn HT4.out (fun k hk => hk)).ints)
        refine bodyPost_ret (v := .tuple #[.agg #[.slice ad2 s.D.length cd2, .int .i64 s.r, .int .i64 s.b, .int .i64 s.a, .slice ac2 s.C.length cc2, .slice a4 0 c4, .bool s.z], .slice a3 c c3]) (by simp [results, Try.results27, go_sem, r0, r1, r2, r3, r4, r5, r6]) rfl ⟨ad2, ac2, a4, cd2, cc2, c4, 0, a3, c, ⟨c3, rfl⟩, SesV.que (HVC.out _ HTF.out) a4 0 c4 _ HO4.out.len HI4.out, by have := HN0.out; omega, HI3.out, HBF.out⟩
end Go.Proofs.Ytodmohepgmhipaa

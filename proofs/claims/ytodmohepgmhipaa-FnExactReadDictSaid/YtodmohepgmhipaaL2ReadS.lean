/-
  A line of a dictionary, read by the model.
-/
import Derived.Test.YtodmohepgmhipaaL2Line
import Derived.Test.YtodmohepgmhipaaL2Spec
import Derived.Test.YtodmohepgmhipaaL2Pat
namespace Go.Proofs.Ytodmohepgmhipaa
open Go.RowKit
set_option linter.unusedVariables false
set_option maxRecDepth 100000
def linePat (r : Except Nat Pt) : Value := match r with | .ok p => .agg #[.string p.t, .int .i64 p.k, .bool p.f] | .error _ => .agg #[.string ⟨#[]⟩, .int .i64 0, .bool false]
def lineCol (r : Except Nat Pt) : Int := match r with | .ok _ => 0 | .error q => (q : Int) + 1
theorem toL_neS {s : ByteArray} {l : List UInt8} (h : s ≠ ⟨l.toArray⟩) : (s.toList == l) = false := by
  rw [beq_eq_false_iff_ne]
  intro e
  apply h
  have h2 : s.data.toList = l := by rw [← e]; exact (ByteArray.toList_eq s).symm
  cases s
  simp only at h2
  rw [← h2]
set_option maxHeartbeats 4000000 in
theorem spec_l2Read (x : ByteArray) (w : World) (hs : x.size ≤ 1073741824) :
    Calls Try.prog 45 #[.string x] w fun e w' => e = .returned (.tuple #[linePat (lineR x), .int .i64 (lineCol (lineR x))]) ∧ Below w.heap.size w w' := by
  have has : (lnA x).size ≤ 1073741824 := by have := cutA_size x 32; have := cutI_le x 32; unfold lnA; omega
  have hrs : (lnR x).size ≤ 1073741824 := by have := cutB_size x 32; unfold lnR; omega
  have hts : (lnT x).size ≤ 1073741824 := by have := cutB_size (lnR x) 32; unfold lnT; omega
  have HC := Lib.hid (fun w => show Calls Try.prog 44 #[.string x, .int .u8 32] w fun e w' => e = .returned (.tuple #[.string (lnA x), .string (lnR x), .bool (cutF x 32)]) ∧ Below w.heap.size w w' from spec_l1Cut x 32 (by omega) w hs)
  have HC2 := Lib.hid (fun w => show Calls Try.prog 44 #[.string (lnR x), .int .u8 32] w fun e w' => e = .returned (.tuple #[.string (lnF x), .string (lnT x), .bool (cutF (lnR x) 32)]) ∧ Below w.heap.size w w' from spec_l1Cut (lnR x) 32 (by omega) w hrs)
  have HN := Lib.hid (fun w => spec_l1Num (lnA x) w has)
  have HU := Lib.hid (fun w => spec_l2Un (lnT x) w hts)
  have hxa : (lnA x).size ≤ x.size := by have := cutA_size x 32; have := cutI_le x 32; unfold lnA; omega
  cases h2 : numOk (lnA x)
  · have HL := Lib.hid (show lineR x = .error 0 by unfold lineR; rw [if_neg (by rw [h2]; simp)])
    have H2 := Lib.hid h2
    clear h2
    generalize lineR x = LR at *
    generalize numV (lnA x) = nv at *
    generalize numOk (lnA x) = nok at *
    generalize cutF x 32 = one at *
    generalize cutF (lnR x) 32 = two at *
    generalize lnA x = A at *
    generalize lnT x = T at *
    generalize lnR x = R at *
    go_enter Try.func45, Try.ntmps45
    go_wp2_with fail
    refine (HC.out _).mono ?_
    rintro e w1 ⟨rfl, hb1⟩
    have HB1 := Lib.hid (below_step (by repeat (first | exact Below.refl _ _ | assumption | (refine Below.drew ?_) | (refine below_drewN ?_ _) | (refine Below.alloc ?_ (by first | omega | (simp; done) | (simp; omega)) _) | (refine Below.setCell ?_ (by first | omega | (simp; done) | (simp; omega)) _))) hb1 : Below w.heap.size w w1)
    have HR1 := Lib.hid ((hb1.block w.heap.size (by simp)).trans (heap_alloc_new w (.cells #[.string ⟨#[]⟩, .int .i64 0, .bool false] 73)))
    have z1 : w.heap.size < w1.heap.size := by have h0 := hb1.size; simp at h0; omega
    clear hb1
    go_wp2_with fail
    refine (HN.out _).mono ?_
    rintro e w1b ⟨rfl, rfl⟩
    rw [H2.out]
    have p0 : w1.cell? ⟨w.heap.size, 0, none⟩ = some (.string ⟨#[]⟩) := by rw [cell_of_row _ _ 0 _ _ _ HR1.out]; rfl
    have f0 := frozen_of_row _ _ 0 _ _ HR1.out
    have p1 : w1.cell? ⟨w.heap.size, 1, none⟩ = some (.int .i64 0) := by rw [cell_of_row _ _ 1 _ _ _ HR1.out]; rfl
    have f1 := frozen_of_row _ _ 1 _ _ HR1.out
    have p2 : w1.cell? ⟨w.heap.size, 2, none⟩ = some (.bool false) := by rw [cell_of_row _ _ 2 _ _ _ HR1.out]; rfl
    have f2 := frozen_of_row _ _ 2 _ _ HR1.out
    go_wp2_with fail
    refine bodyPost_ret (v := .tuple #[.agg #[.string ⟨#[]⟩, .int .i64 0, .bool false], .int .i64 1]) (by simp [results, Try.results45, go_sem, p0, p1, p2]) rfl ⟨by rw [HL.out]; rfl, (((HB1.out.setCell (p := ⟨w.heap.size, 0, none⟩) (by simp) _).setCell (p := ⟨w.heap.size, 1, none⟩) (by simp) _).setCell (p := ⟨w.heap.size, 2, none⟩) (by simp) _)⟩
  have H2 := Lib.hid h2
  cases h1 : cutF x 32
  · have HL := Lib.hid (show lineR x = .error 0 by unfold lineR; rw [if_neg (by rw [h1]; simp)])
    have H1 := Lib.hid h1
    clear h1 h2
    generalize lineR x = LR at *
    generalize numV (lnA x) = nv at *
    generalize numOk (lnA x) = nok at *
    generalize cutF x 32 = one at *
    generalize cutF (lnR x) 32 = two at *
    generalize lnA x = A at *
    generalize lnT x = T at *
    generalize lnR x = R at *
    go_enter Try.func45, Try.ntmps45
    go_wp2_with fail
    refine (HC.out _).mono ?_
    rintro e w1 ⟨rfl, hb1⟩
    rw [H1.out]
    have HB1 := Lib.hid (below_step (by repeat (first | exact Below.refl _ _ | assumption | (refine Below.drew ?_) | (refine below_drewN ?_ _) | (refine Below.alloc ?_ (by first | omega | (simp; done) | (simp; omega)) _) | (refine Below.setCell ?_ (by first | omega | (simp; done) | (simp; omega)) _))) hb1 : Below w.heap.size w w1)
    have HR1 := Lib.hid ((hb1.block w.heap.size (by simp)).trans (heap_alloc_new w (.cells #[.string ⟨#[]⟩, .int .i64 0, .bool false] 73)))
    have z1 : w.heap.size < w1.heap.size := by have h0 := hb1.size; simp at h0; omega
    clear hb1
    go_wp2_with fail
    refine (HN.out _).mono ?_
    rintro e w1b ⟨rfl, rfl⟩
    rw [H2.out]
    have p0 : w1.cell? ⟨w.heap.size, 0, none⟩ = some (.string ⟨#[]⟩) := by rw [cell_of_row _ _ 0 _ _ _ HR1.out]; rfl
    have f0 := frozen_of_row _ _ 0 _ _ HR1.out
    have p1 : w1.cell? ⟨w.heap.size, 1, none⟩ = some (.int .i64 0) := by rw [cell_of_row _ _ 1 _ _ _ HR1.out]; rfl
    have f1 := frozen_of_row _ _ 1 _ _ HR1.out
    have p2 : w1.cell? ⟨w.heap.size, 2, none⟩ = some (.bool false) := by rw [cell_of_row _ _ 2 _ _ _ HR1.out]; rfl
    have f2 := frozen_of_row _ _ 2 _ _ HR1.out
    go_wp2_with fail
    refine bodyPost_ret (v := .tuple #[.agg #[.string ⟨#[]⟩, .int .i64 0, .bool false], .int .i64 1]) (by simp [results, Try.results45, go_sem, p0, p1, p2]) rfl ⟨by rw [HL.out]; rfl, (((HB1.out.setCell (p := ⟨w.heap.size, 0, none⟩) (by simp) _).setCell (p := ⟨w.heap.size, 1, none⟩) (by simp) _).setCell (p := ⟨w.heap.size, 2, none⟩) (by simp) _)⟩
  have H1 := Lib.hid h1
  by_cases h3 : numV (lnA x) ≤ 4
  rotate_left
  · have HL := Lib.hid (show lineR x = .error 0 by unfold lineR; rw [if_neg (by intro h; exact h3 h.2.2)])
    have h3' : (4 : Int) < (numV (lnA x) : Int) := by omega
    clear h1 h2
    generalize lineR x = LR at *
    generalize numV (lnA x) = nv at *
    generalize numOk (lnA x) = nok at *
    generalize cutF x 32 = one at *
    generalize cutF (lnR x) 32 = two at *
    generalize lnA x = A at *
    generalize lnT x = T at *
    generalize lnR x = R at *
    go_enter Try.func45, Try.ntmps45
    go_wp2_with fail
    refine (HC.out _).mono ?_
    rintro e w1 ⟨rfl, hb1⟩
    rw [H1.out]
    have HB1 := Lib.hid (below_step (by repeat (first | exact Below.refl _ _ | assumption | (refine Below.drew ?_) | (refine below_drewN ?_ _) | (refine Below.alloc ?_ (by first | omega | (simp; done) | (simp; omega)) _) | (refine Below.setCell ?_ (by first | omega | (simp; done) | (simp; omega)) _))) hb1 : Below w.heap.size w w1)
    have HR1 := Lib.hid ((hb1.block w.heap.size (by simp)).trans (heap_alloc_new w (.cells #[.string ⟨#[]⟩, .int .i64 0, .bool false] 73)))
    have z1 : w.heap.size < w1.heap.size := by have h0 := hb1.size; simp at h0; omega
    clear hb1
    go_wp2_with fail
    refine (HN.out _).mono ?_
    rintro e w1b ⟨rfl, rfl⟩
    rw [H2.out]
    have p0 : w1.cell? ⟨w.heap.size, 0, none⟩ = some (.string ⟨#[]⟩) := by rw [cell_of_row _ _ 0 _ _ _ HR1.out]; rfl
    have f0 := frozen_of_row _ _ 0 _ _ HR1.out
    have p1 : w1.cell? ⟨w.heap.size, 1, none⟩ = some (.int .i64 0) := by rw [cell_of_row _ _ 1 _ _ _ HR1.out]; rfl
    have f1 := frozen_of_row _ _ 1 _ _ HR1.out
    have p2 : w1.cell? ⟨w.heap.size, 2, none⟩ = some (.bool false) := by rw [cell_of_row _ _ 2 _ _ _ HR1.out]; rfl
    have f2 := frozen_of_row _ _ 2 _ _ HR1.out
    go_wp2_with fail
    refine bodyPost_ret (v := .tuple #[.agg #[.string ⟨#[]⟩, .int .i64 0, .bool false], .int .i64 1]) (by simp [results, Try.results45, go_sem, p0, p1, p2]) rfl ⟨by rw [HL.out]; rfl, (((HB1.out.setCell (p := ⟨w.heap.size, 0, none⟩) (by simp) _).setCell (p := ⟨w.heap.size, 1, none⟩) (by simp) _).setCell (p := ⟨w.heap.size, 2, none⟩) (by simp) _)⟩
  have h3' : ¬ (4 : Int) < (numV (lnA x) : Int) := by omega
  by_cases h5 : lnF x = strI ∨ lnF x = strM
  rotate_left
  · have HL := Lib.hid (show lineR x = .error ((lnA x).size + 1) by unfold lineR; rw [if_pos ⟨h1, h2, h3⟩, if_neg (by intro h; exact h5 h.2)])
    have n1 := toL_neS (s := lnF x) (l := [105]) (fun h => h5 (.inl h))
    have n2 := toL_neS (s := lnF x) (l := [45]) (fun h => h5 (.inr h))
    generalize lnF x = fs at *
    clear h1 h2 h5
    generalize lineR x = LR at *
    generalize numV (lnA x) = nv at *
    generalize numOk (lnA x) = nok at *
    generalize cutF x 32 = one at *
    generalize cutF (lnR x) 32 = two at *
    generalize lnA x = A at *
    generalize lnT x = T at *
    generalize lnR x = R at *
    go_enter Try.func45, Try.ntmps45
    go_wp2_with fail
    refine (HC.out _).mono ?_
    rintro e w1 ⟨rfl, hb1⟩
    rw [H1.out]
    have HB1 := Lib.hid (below_step (by repeat (first | exact Below.refl _ _ | assumption | (refine Below.drew ?_) | (refine below_drewN ?_ _) | (refine Below.alloc ?_ (by first | omega | (simp; done) | (simp; omega)) _) | (refine Below.setCell ?_ (by first | omega | (simp; done) | (simp; omega)) _))) hb1 : Below w.heap.size w w1)
    have HR1 := Lib.hid ((hb1.block w.heap.size (by simp)).trans (heap_alloc_new w (.cells #[.string ⟨#[]⟩, .int .i64 0, .bool false] 73)))
    have z1 : w.heap.size < w1.heap.size := by have h0 := hb1.size; simp at h0; omega
    clear hb1
    go_wp2_with fail
    refine (HN.out _).mono ?_
    rintro e w1b ⟨rfl, rfl⟩
    rw [H2.out]
    go_wp2_with fail
    refine (HC2.out _).mono ?_
    rintro e w2 ⟨rfl, hb2⟩
    have HB2 := Lib.hid (HB1.out.trans (hb2.mono HB1.out.size))
    have HR2 := Lib.hid ((hb2.block w.heap.size z1).trans HR1.out)
    have z2 : w.heap.size < w2.heap.size := by have h0 := hb2.size; omega
    clear hb2
    have p0 : w2.cell? ⟨w.heap.size, 0, none⟩ = some (.string ⟨#[]⟩) := by rw [cell_of_row _ _ 0 _ _ _ HR2.out]; rfl
    have f0 := frozen_of_row _ _ 0 _ _ HR2.out
    have p1 : w2.cell? ⟨w.heap.size, 1, none⟩ = some (.int .i64 0) := by rw [cell_of_row _ _ 1 _ _ _ HR2.out]; rfl
    have f1 := frozen_of_row _ _ 1 _ _ HR2.out
    have p2 : w2.cell? ⟨w.heap.size, 2, none⟩ = some (.bool false) := by rw [cell_of_row _ _ 2 _ _ _ HR2.out]; rfl
    have f2 := frozen_of_row _ _ 2 _ _ HR2.out
    go_wp2_with fail
    refine bodyPost_ret (v := .tuple #[.agg #[.string ⟨#[]⟩, .int .i64 0, .bool false], .int .i64 (A.size + 2 : Int)]) (by simp [results, Try.results45, go_sem, p0, p1, p2]) rfl ⟨by rw [HL.out]; simp only [linePat, lineCol]; rw [show (A.size + 2 : Int) = ((A.size + 1 : Nat) : Int) + 1 by omega], (((HB2.out.setCell (p := ⟨w.heap.size, 0, none⟩) (by simp) _).setCell (p := ⟨w.heap.size, 1, none⟩) (by simp) _).setCell (p := ⟨w.heap.size, 2, none⟩) (by simp) _)⟩
  cases h4 : cutF (lnR x) 32
  · have HL := Lib.hid (show lineR x = .error ((lnA x).size + 1) by unfold lineR; rw [if_pos ⟨h1, h2, h3⟩, if_neg (by rw [h4]; simp)])
    have H4 := Lib.hid h4
    rcases h5 with h5 | h5
    · have n1 : ((lnF x).toList == [105]) = true := by rw [h5]; exact strI_I
      generalize lnF x = fs at *
      clear h1 h2 h4 h5
      generalize lineR x = LR at *
      generalize numV (lnA x) = nv at *
      generalize numOk (lnA x) = nok at *
      generalize cutF x 32 = one at *
      generalize cutF (lnR x) 32 = two at *
      generalize lnA x = A at *
      generalize lnT x = T at *
      generalize lnR x = R at *
      go_enter Try.func45, Try.ntmps45
      go_wp2_with fail
      refine (HC.out _).mono ?_
      rintro e w1 ⟨rfl, hb1⟩
      rw [H1.out]
      have HB1 := Lib.hid (below_step (by repeat (first | exact Below.refl _ _ | assumption | (refine Below.drew ?_) | (refine below_drewN ?_ _) | (refine Below.alloc ?_ (by first | omega | (simp; done) | (simp; omega)) _) | (refine Below.setCell ?_ (by first | omega | (simp; done) | (simp; omega)) _))) hb1 : Below w.heap.size w w1)
      have HR1 := Lib.hid ((hb1.block w.heap.size (by simp)).trans (heap_alloc_new w (.cells #[.string ⟨#[]⟩, .int .i64 0, .bool false] 73)))
      have z1 : w.heap.size < w1.heap.size := by have h0 := hb1.size; simp at h0; omega
      clear hb1
      go_wp2_with fail
      refine (HN.out _).mono ?_
      rintro e w1b ⟨rfl, rfl⟩
      rw [H2.out]
      go_wp2_with fail
      refine (HC2.out _).mono ?_
      rintro e w2 ⟨rfl, hb2⟩
      rw [H4.out]
      have HB2 := Lib.hid (HB1.out.trans (hb2.mono HB1.out.size))
      have HR2 := Lib.hid ((hb2.block w.heap.size z1).trans HR1.out)
      have z2 : w.heap.size < w2.heap.size := by have h0 := hb2.size; omega
      clear hb2
      have p0 : w2.cell? ⟨w.heap.size, 0, none⟩ = some (.string ⟨#[]⟩) := by rw [cell_of_row _ _ 0 _ _ _ HR2.out]; rfl
      have f0 := frozen_of_row _ _ 0 _ _ HR2.out
      have p1 : w2.cell? ⟨w.heap.size, 1, none⟩ = some (.int .i64 0) := by rw [cell_of_row _ _ 1 _ _ _ HR2.out]; rfl
      have f1 := frozen_of_row _ _ 1 _ _ HR2.out
      have p2 : w2.cell? ⟨w.heap.size, 2, none⟩ = some (.bool false) := by rw [cell_of_row _ _ 2 _ _ _ HR2.out]; rfl
      have f2 := frozen_of_row _ _ 2 _ _ HR2.out
      go_wp2_with fail
      refine bodyPost_ret (v := .tuple #[.agg #[.string ⟨#[]⟩, .int .i64 0, .bool false], .int .i64 (A.size + 2 : Int)]) (by simp [results, Try.results45, go_sem, p0, p1, p2]) rfl ⟨by rw [HL.out]; simp only [linePat, lineCol]; rw [show (A.size + 2 : Int) = ((A.size + 1 : Nat) : Int) + 1 by omega], (((HB2.out.setCell (p := ⟨w.heap.size, 0, none⟩) (by simp) _).setCell (p := ⟨w.heap.size, 1, none⟩) (by simp) _).setCell (p := ⟨w.heap.size, 2, none⟩) (by simp) _)⟩
    · have n1 : ((lnF x).toList == [105]) = false := by rw [h5]; exact strM_I
      have n2 : ((lnF x).toList == [45]) = true := by rw [h5]; exact strM_M
      generalize lnF x = fs at *
      clear h1 h2 h4 h5
      generalize lineR x = LR at *
      generalize numV (lnA x) = nv at *
      generalize numOk (lnA x) = nok at *
      generalize cutF x 32 = one at *
      generalize cutF (lnR x) 32 = two at *
      generalize lnA x = A at *
      generalize lnT x = T at *
      generalize lnR x = R at *
      go_enter Try.func45, Try.ntmps45
      go_wp2_with fail
      refine (HC.out _).mono ?_
      rintro e w1 ⟨rfl, hb1⟩
      rw [H1.out]
      have HB1 := Lib.hid (below_step (by repeat (first | exact Below.refl _ _ | assumption | (refine Below.drew ?_) | (refine below_drewN ?_ _) | (refine Below.alloc ?_ (by first | omega | (simp; done) | (simp; omega)) _) | (refine Below.setCell ?_ (by first | omega | (simp; done) | (simp; omega)) _))) hb1 : Below w.heap.size w w1)
      have HR1 := Lib.hid ((hb1.block w.heap.size (by simp)).trans (heap_alloc_new w (.cells #[.string ⟨#[]⟩, .int .i64 0, .bool false] 73)))
      have z1 : w.heap.size < w1.heap.size := by have h0 := hb1.size; simp at h0; omega
      clear hb1
      go_wp2_with fail
      refine (HN.out _).mono ?_
      rintro e w1b ⟨rfl, rfl⟩
      rw [H2.out]
      go_wp2_with fail
      refine (HC2.out _).mono ?_
      rintro e w2 ⟨rfl, hb2⟩
      rw [H4.out]
      have HB2 := Lib.hid (HB1.out.trans (hb2.mono HB1.out.size))
      have HR2 := Lib.hid ((hb2.block w.heap.size z1).trans HR1.out)
      have z2 : w.heap.size < w2.heap.size := by have h0 := hb2.size; omega
      clear hb2
      have p0 : w2.cell? ⟨w.heap.size, 0, none⟩ = some (.string ⟨#[]⟩) := by rw [cell_of_row _ _ 0 _ _ _ HR2.out]; rfl
      have f0 := frozen_of_row _ _ 0 _ _ HR2.out
      have p1 : w2.cell? ⟨w.heap.size, 1, none⟩ = some (.int .i64 0) := by rw [cell_of_row _ _ 1 _ _ _ HR2.out]; rfl
      have f1 := frozen_of_row _ _ 1 _ _ HR2.out
      have p2 : w2.cell? ⟨w.heap.size, 2, none⟩ = some (.bool false) := by rw [cell_of_row _ _ 2 _ _ _ HR2.out]; rfl
      have f2 := frozen_of_row _ _ 2 _ _ HR2.out
      go_wp2_with fail
      refine bodyPost_ret (v := .tuple #[.agg #[.string ⟨#[]⟩, .int .i64 0, .bool false], .int .i64 (A.size + 2 : Int)]) (by simp [results, Try.results45, go_sem, p0, p1, p2]) rfl ⟨by rw [HL.out]; simp only [linePat, lineCol]; rw [show (A.size + 2 : Int) = ((A.size + 1 : Nat) : Int) + 1 by omega], (((HB2.out.setCell (p := ⟨w.heap.size, 0, none⟩) (by simp) _).setCell (p := ⟨w.heap.size, 1, none⟩) (by simp) _).setCell (p := ⟨w.heap.size, 2, none⟩) (by simp) _)⟩
  have H4 := Lib.hid h4
  cases h6 : unAll (lnT x) with
  | error q =>
    have HL := Lib.hid (show lineR x = .error ((lnA x).size + 3 + q) by unfold lineR; rw [if_pos ⟨h1, h2, h3⟩, if_pos ⟨h4, h5⟩, h6])
    have H6 := Lib.hid h6
    have hq : q ≤ 1073741824 := by have := unAll_err h6; omega
    rcases h5 with h5 | h5
    · have n1 : ((lnF x).toList == [105]) = true := by rw [h5]; exact strI_I
      generalize lnF x = fs at *
      clear h1 h2 h4 h5 h6
      generalize lineR x = LR at *
      generalize numV (lnA x) = nv at *
      generalize numOk (lnA x) = nok at *
      generalize cutF x 32 = one at *
      generalize cutF (lnR x) 32 = two at *
      generalize lnA x = A at *
      generalize lnT x = T at *
      generalize lnR x = R at *
      go_enter Try.func45, Try.ntmps45
      go_wp2_with fail
      refine (HC.out _).mono ?_
      rintro e w1 ⟨rfl, hb1⟩
      rw [H1.out]
      have HB1 := Lib.hid (below_step (by repeat (first | exact Below.refl _ _ | assumption | (refine Below.drew ?_) | (refine below_drewN ?_ _) | (refine Below.alloc ?_ (by first | omega | (simp; done) | (simp; omega)) _) | (refine Below.setCell ?_ (by first | omega | (simp; done) | (simp; omega)) _))) hb1 : Below w.heap.size w w1)
      have HR1 := Lib.hid ((hb1.block w.heap.size (by simp)).trans (heap_alloc_new w (.cells #[.string ⟨#[]⟩, .int .i64 0, .bool false] 73)))
      have z1 : w.heap.size < w1.heap.size := by have h0 := hb1.size; simp at h0; omega
      clear hb1
      go_wp2_with fail
      refine (HN.out _).mono ?_
      rintro e w1b ⟨rfl, rfl⟩
      rw [H2.out]
      go_wp2_with fail
      refine (HC2.out _).mono ?_
      rintro e w2 ⟨rfl, hb2⟩
      rw [H4.out]
      have HB2 := Lib.hid (HB1.out.trans (hb2.mono HB1.out.size))
      have HR2 := Lib.hid ((hb2.block w.heap.size z1).trans HR1.out)
      have z2 : w.heap.size < w2.heap.size := by have h0 := hb2.size; omega
      clear hb2
      go_wp2_with fail
      refine (HU.out _).mono ?_
      rintro e w3 ⟨he, hb3⟩
      unfold l2Post at he
      rw [H6.out] at he
      subst he
      have HB3 := Lib.hid (HB2.out.trans (hb3.mono HB2.out.size))
      have HR3 := Lib.hid ((hb3.block w.heap.size z2).trans HR2.out)
      have z3 : w.heap.size < w3.heap.size := by have h0 := hb3.size; omega
      clear hb3
      unfold unText unPos
      simp only
      have p0 : w3.cell? ⟨w.heap.size, 0, none⟩ = some (.string ⟨#[]⟩) := by rw [cell_of_row _ _ 0 _ _ _ HR3.out]; rfl
      have f0 := frozen_of_row _ _ 0 _ _ HR3.out
      have p1 : w3.cell? ⟨w.heap.size, 1, none⟩ = some (.int .i64 0) := by rw [cell_of_row _ _ 1 _ _ _ HR3.out]; rfl
      have f1 := frozen_of_row _ _ 1 _ _ HR3.out
      have p2 : w3.cell? ⟨w.heap.size, 2, none⟩ = some (.bool false) := by rw [cell_of_row _ _ 2 _ _ _ HR3.out]; rfl
      have f2 := frozen_of_row _ _ 2 _ _ HR3.out
      go_wp2_with fail
      refine bodyPost_ret (v := .tuple #[.agg #[.string ⟨#[]⟩, .int .i64 0, .bool false], .int .i64 (A.size + 2 + 2 + q : Int)]) (by simp [results, Try.results45, go_sem, p0, p1, p2]) rfl ⟨by rw [HL.out]; simp only [linePat, lineCol]; rw [show (A.size + 2 + 2 + q : Int) = ((A.size + 3 + q : Nat) : Int) + 1 by omega], (((HB3.out.setCell (p := ⟨w.heap.size, 0, none⟩) (by simp) _).setCell (p := ⟨w.heap.size, 1, none⟩) (by simp) _).setCell (p := ⟨w.heap.size, 2, none⟩) (by simp) _)⟩
    · have n1 : ((lnF x).toList == [105]) = false := by rw [h5]; exact strM_I
      have n2 : ((lnF x).toList == [45]) = true := by rw [h5]; exact strM_M
      generalize lnF x = fs at *
      clear h1 h2 h4 h5 h6
      generalize lineR x = LR at *
      generalize numV (lnA x) = nv at *
      generalize numOk (lnA x) = nok at *
      generalize cutF x 32 = one at *
      generalize cutF (lnR x) 32 = two at *
      generalize lnA x = A at *
      generalize lnT x = T at *
      generalize lnR x = R at *
      go_enter Try.func45, Try.ntmps45
      go_wp2_with fail
      refine (HC.out _).mono ?_
      rintro e w1 ⟨rfl, hb1⟩
      rw [H1.out]
      have HB1 := Lib.hid (below_step (by repeat (first | exact Below.refl _ _ | assumption | (refine Below.drew ?_) | (refine below_drewN ?_ _) | (refine Below.alloc ?_ (by first | omega | (simp; done) | (simp; omega)) _) | (refine Below.setCell ?_ (by first | omega | (simp; done) | (simp; omega)) _))) hb1 : Below w.heap.size w w1)
      have HR1 := Lib.hid ((hb1.block w.heap.size (by simp)).trans (heap_alloc_new w (.cells #[.string ⟨#[]⟩, .int .i64 0, .bool false] 73)))
      have z1 : w.heap.size < w1.heap.size := by have h0 := hb1.size; simp at h0; omega
      clear hb1
      go_wp2_with fail
      refine (HN.out _).mono ?_
      rintro e w1b ⟨rfl, rfl⟩
      rw [H2.out]
      go_wp2_with fail
      refine (HC2.out _).mono ?_
      rintro e w2 ⟨rfl, hb2⟩
      rw [H4.out]
      have HB2 := Lib.hid (HB1.out.trans (hb2.mono HB1.out.size))
      have HR2 := Lib.hid ((hb2.block w.heap.size z1).trans HR1.out)
      have z2 : w.heap.size < w2.heap.size := by have h0 := hb2.size; omega
      clear hb2
      go_wp2_with fail
      refine (HU.out _).mono ?_
      rintro e w3 ⟨he, hb3⟩
      unfold l2Post at he
      rw [H6.out] at he
      subst he
      have HB3 := Lib.hid (HB2.out.trans (hb3.mono HB2.out.size))
      have HR3 := Lib.hid ((hb3.block w.heap.size z2).trans HR2.out)
      have z3 : w.heap.size < w3.heap.size := by have h0 := hb3.size; omega
      clear hb3
      unfold unText unPos
      simp only
      have p0 : w3.cell? ⟨w.heap.size, 0, none⟩ = some (.string ⟨#[]⟩) := by rw [cell_of_row _ _ 0 _ _ _ HR3.out]; rfl
      have f0 := frozen_of_row _ _ 0 _ _ HR3.out
      have p1 : w3.cell? ⟨w.heap.size, 1, none⟩ = some (.int .i64 0) := by rw [cell_of_row _ _ 1 _ _ _ HR3.out]; rfl
      have f1 := frozen_of_row _ _ 1 _ _ HR3.out
      have p2 : w3.cell? ⟨w.heap.size, 2, none⟩ = some (.bool false) := by rw [cell_of_row _ _ 2 _ _ _ HR3.out]; rfl
      have f2 := frozen_of_row _ _ 2 _ _ HR3.out
      go_wp2_with fail
      refine bodyPost_ret (v := .tuple #[.agg #[.string ⟨#[]⟩, .int .i64 0, .bool false], .int .i64 (A.size + 2 + 2 + q : Int)]) (by simp [results, Try.results45, go_sem, p0, p1, p2]) rfl ⟨by rw [HL.out]; simp only [linePat, lineCol]; rw [show (A.size + 2 + 2 + q : Int) = ((A.size + 3 + q : Nat) : Int) + 1 by omega], (((HB3.out.setCell (p := ⟨w.heap.size, 0, none⟩) (by simp) _).setCell (p := ⟨w.heap.size, 1, none⟩) (by simp) _).setCell (p := ⟨w.heap.size, 2, none⟩) (by simp) _)⟩
  | ok l =>
    have H6 := Lib.hid h6
    have hll : (⟨l.toArray⟩ : ByteArray).size ≤ 1073741824 := Nat.le_trans (unAll_len h6) hts
    have HP := Lib.hid (fun (b : Bool) w => spec_patternOk ⟨l.toArray⟩ (numV (lnA x) : Int) b w (by omega))
    by_cases h7 : 1 ≤ l.length ∧ l.length ≤ 20
    · have H7 := Lib.hid (show patOk ⟨l.toArray⟩ (numV (lnA x) : Int) = true from patOk_yes ⟨h7.1, h7.2, by omega, by omega⟩)
      rcases h5 with h5 | h5
      · have n1 : ((lnF x).toList == [105]) = true := by rw [h5]; exact strI_I
        have HL := Lib.hid (show lineR x = .ok ⟨⟨l.toArray⟩, numV (lnA x), true⟩ by unfold lineR; rw [if_pos ⟨h1, h2, h3⟩, if_pos ⟨h4, by rw [h5]; simp⟩, h6]; simp only; rw [if_pos h7, h5]; rfl)
        generalize lnF x = fs at *
        clear h1 h2 h4 h5 h6
        generalize lineR x = LR at *
        generalize numV (lnA x) = nv at *
        generalize numOk (lnA x) = nok at *
        generalize cutF x 32 = one at *
        generalize cutF (lnR x) 32 = two at *
        generalize lnA x = A at *
        generalize lnT x = T at *
        generalize lnR x = R at *
        go_enter Try.func45, Try.ntmps45
        go_wp2_with fail
        refine (HC.out _).mono ?_
        rintro e w1 ⟨rfl, hb1⟩
        rw [H1.out]
        have HB1 := Lib.hid (below_step (by repeat (first | exact Below.refl _ _ | assumption | (refine Below.drew ?_) | (refine below_drewN ?_ _) | (refine Below.alloc ?_ (by first | omega | (simp; done) | (simp; omega)) _) | (refine Below.setCell ?_ (by first | omega | (simp; done) | (simp; omega)) _))) hb1 : Below w.heap.size w w1)
        have HR1 := Lib.hid ((hb1.block w.heap.size (by simp)).trans (heap_alloc_new w (.cells #[.string ⟨#[]⟩, .int .i64 0, .bool false] 73)))
        have z1 : w.heap.size < w1.heap.size := by have h0 := hb1.size; simp at h0; omega
        clear hb1
        go_wp2_with fail
        refine (HN.out _).mono ?_
        rintro e w1b ⟨rfl, rfl⟩
        rw [H2.out]
        go_wp2_with fail
        refine (HC2.out _).mono ?_
        rintro e w2 ⟨rfl, hb2⟩
        rw [H4.out]
        have HB2 := Lib.hid (HB1.out.trans (hb2.mono HB1.out.size))
        have HR2 := Lib.hid ((hb2.block w.heap.size z1).trans HR1.out)
        have z2 : w.heap.size < w2.heap.size := by have h0 := hb2.size; omega
        clear hb2
        go_wp2_with fail
        refine (HU.out _).mono ?_
        rintro e w3 ⟨he, hb3⟩
        unfold l2Post at he
        rw [H6.out] at he
        subst he
        have HB3 := Lib.hid (HB2.out.trans (hb3.mono HB2.out.size))
        have HR3 := Lib.hid ((hb3.block w.heap.size z2).trans HR2.out)
        have z3 : w.heap.size < w3.heap.size := by have h0 := hb3.size; omega
        clear hb3
        unfold unText unPos
        simp only
        go_wp2_with fail
        refine (HP.out _ _).mono ?_
        rintro e w4 ⟨rfl, hb4⟩
        rw [H7.out]
        have HB4 := Lib.hid (HB3.out.trans ((below_step (show Below w3.heap.size w3 _ from (by repeat (first | exact Below.refl _ _ | assumption | (refine Below.drew ?_) | (refine below_drewN ?_ _) | (refine Below.alloc ?_ (by first | omega | (simp; done) | (simp; omega)) _) | (refine Below.setCell ?_ (by first | omega | (simp; done) | (simp; omega)) _)))) hb4).mono HB3.out.size))
        have HR4 := Lib.hid (((below_step (show Below w3.heap.size w3 _ from (by repeat (first | exact Below.refl _ _ | assumption | (refine Below.drew ?_) | (refine below_drewN ?_ _) | (refine Below.alloc ?_ (by first | omega | (simp; done) | (simp; omega)) _) | (refine Below.setCell ?_ (by first | omega | (simp; done) | (simp; omega)) _)))) hb4 : Below w3.heap.size w3 w4).block w.heap.size z3).trans HR3.out)
        have hRp := (hb4.block w3.heap.size (by simp)).trans (heap_alloc_new w3 (.cells #[.string ⟨l.toArray⟩, .int .i64 (nv : Int), .bool true] 73))
        have c0 : w4.cell? ⟨w3.heap.size, 0, none⟩ = some (.string ⟨l.toArray⟩) := by rw [cell_of_row _ _ 0 _ _ _ hRp]; rfl
        have c1 : w4.cell? ⟨w3.heap.size, 1, none⟩ = some (.int .i64 (nv : Int)) := by rw [cell_of_row _ _ 1 _ _ _ hRp]; rfl
        have c2 : w4.cell? ⟨w3.heap.size, 2, none⟩ = some (.bool true) := by rw [cell_of_row _ _ 2 _ _ _ hRp]; rfl
        clear hb4 hRp
        have p0 : w4.cell? ⟨w.heap.size, 0, none⟩ = some (.string ⟨#[]⟩) := by rw [cell_of_row _ _ 0 _ _ _ HR4.out]; rfl
        have f0 := frozen_of_row _ _ 0 _ _ HR4.out
        have p1 : w4.cell? ⟨w.heap.size, 1, none⟩ = some (.int .i64 0) := by rw [cell_of_row _ _ 1 _ _ _ HR4.out]; rfl
        have f1 := frozen_of_row _ _ 1 _ _ HR4.out
        have p2 : w4.cell? ⟨w.heap.size, 2, none⟩ = some (.bool false) := by rw [cell_of_row _ _ 2 _ _ _ HR4.out]; rfl
        have f2 := frozen_of_row _ _ 2 _ _ HR4.out
        go_wp2_with fail
        refine bodyPost_ret (v := .tuple #[.agg #[.string ⟨l.toArray⟩, .int .i64 (nv : Int), .bool true], .int .i64 0]) (by simp [results, Try.results45, go_sem, p0, p1, p2]) rfl ⟨by rw [HL.out]; rfl, (((HB4.out.setCell (p := ⟨w.heap.size, 0, none⟩) (by simp) _).setCell (p := ⟨w.heap.size, 1, none⟩) (by simp) _).setCell (p := ⟨w.heap.size, 2, none⟩) (by simp) _)⟩
      · have n1 : ((lnF x).toList == [105]) = false := by rw [h5]; exact strM_I
        have n2 : ((lnF x).toList == [45]) = true := by rw [h5]; exact strM_M
        have HL := Lib.hid (show lineR x = .ok ⟨⟨l.toArray⟩, numV (lnA x), false⟩ by unfold lineR; rw [if_pos ⟨h1, h2, h3⟩, if_pos ⟨h4, by rw [h5]; simp⟩, h6]; simp only; rw [if_pos h7, h5]; rfl)
        generalize lnF x = fs at *
        clear h1 h2 h4 h5 h6
        generalize lineR x = LR at *
        generalize numV (lnA x) = nv at *
        generalize numOk (lnA x) = nok at *
        generalize cutF x 32 = one at *
        generalize cutF (lnR x) 32 = two at *
        generalize lnA x = A at *
        generalize lnT x = T at *
        generalize lnR x = R at *
        go_enter Try.func45, Try.ntmps45
        go_wp2_with fail
        refine (HC.out _).mono ?_
        rintro e w1 ⟨rfl, hb1⟩
        rw [H1.out]
        have HB1 := Lib.hid (below_step (by repeat (first | exact Below.refl _ _ | assumption | (refine Below.drew ?_) | (refine below_drewN ?_ _) | (refine Below.alloc ?_ (by first | omega | (simp; done) | (simp; omega)) _) | (refine Below.setCell ?_ (by first | omega | (simp; done) | (simp; omega)) _))) hb1 : Below w.heap.size w w1)
        have HR1 := Lib.hid ((hb1.block w.heap.size (by simp)).trans (heap_alloc_new w (.cells #[.string ⟨#[]⟩, .int .i64 0, .bool false] 73)))
        have z1 : w.heap.size < w1.heap.size := by have h0 := hb1.size; simp at h0; omega
        clear hb1
        go_wp2_with fail
        refine (HN.out _).mono ?_
        rintro e w1b ⟨rfl, rfl⟩
        rw [H2.out]
        go_wp2_with fail
        refine (HC2.out _).mono ?_
        rintro e w2 ⟨rfl, hb2⟩
        rw [H4.out]
        have HB2 := Lib.hid (HB1.out.trans (hb2.mono HB1.out.size))
        have HR2 := Lib.hid ((hb2.block w.heap.size z1).trans HR1.out)
        have z2 : w.heap.size < w2.heap.size := by have h0 := hb2.size; omega
        clear hb2
        go_wp2_with fail
        refine (HU.out _).mono ?_
        rintro e w3 ⟨he, hb3⟩
        unfold l2Post at he
        rw [H6.out] at he
        subst he
        have HB3 := Lib.hid (HB2.out.trans (hb3.mono HB2.out.size))
        have HR3 := Lib.hid ((hb3.block w.heap.size z2).trans HR2.out)
        have z3 : w.heap.size < w3.heap.size := by have h0 := hb3.size; omega
        clear hb3
        unfold unText unPos
        simp only
        go_wp2_with fail
        refine (HP.out _ _).mono ?_
        rintro e w4 ⟨rfl, hb4⟩
        rw [H7.out]
        have HB4 := Lib.hid (HB3.out.trans ((below_step (show Below w3.heap.size w3 _ from (by repeat (first | exact Below.refl _ _ | assumption | (refine Below.drew ?_) | (refine below_drewN ?_ _) | (refine Below.alloc ?_ (by first | omega | (simp; done) | (simp; omega)) _) | (refine Below.setCell ?_ (by first | omega | (simp; done) | (simp; omega)) _)))) hb4).mono HB3.out.size))
        have HR4 := Lib.hid (((below_step (show Below w3.heap.size w3 _ from (by repeat (first | exact Below.refl _ _ | assumption | (refine Below.drew ?_) | (refine below_drewN ?_ _) | (refine Below.alloc ?_ (by first | omega | (simp; done) | (simp; omega)) _) | (refine Below.setCell ?_ (by first | omega | (simp; done) | (simp; omega)) _)))) hb4 : Below w3.heap.size w3 w4).block w.heap.size z3).trans HR3.out)
        have hRp := (hb4.block w3.heap.size (by simp)).trans (heap_alloc_new w3 (.cells #[.string ⟨l.toArray⟩, .int .i64 (nv : Int), .bool false] 73))
        have c0 : w4.cell? ⟨w3.heap.size, 0, none⟩ = some (.string ⟨l.toArray⟩) := by rw [cell_of_row _ _ 0 _ _ _ hRp]; rfl
        have c1 : w4.cell? ⟨w3.heap.size, 1, none⟩ = some (.int .i64 (nv : Int)) := by rw [cell_of_row _ _ 1 _ _ _ hRp]; rfl
        have c2 : w4.cell? ⟨w3.heap.size, 2, none⟩ = some (.bool false) := by rw [cell_of_row _ _ 2 _ _ _ hRp]; rfl
        clear hb4 hRp
        have p0 : w4.cell? ⟨w.heap.size, 0, none⟩ = some (.string ⟨#[]⟩) := by rw [cell_of_row _ _ 0 _ _ _ HR4.out]; rfl
        have f0 := frozen_of_row _ _ 0 _ _ HR4.out
        have p1 : w4.cell? ⟨w.heap.size, 1, none⟩ = some (.int .i64 0) := by rw [cell_of_row _ _ 1 _ _ _ HR4.out]; rfl
        have f1 := frozen_of_row _ _ 1 _ _ HR4.out
        have p2 : w4.cell? ⟨w.heap.size, 2, none⟩ = some (.bool false) := by rw [cell_of_row _ _ 2 _ _ _ HR4.out]; rfl
        have f2 := frozen_of_row _ _ 2 _ _ HR4.out
        go_wp2_with fail
        refine bodyPost_ret (v := .tuple #[.agg #[.string ⟨l.toArray⟩, .int .i64 (nv : Int), .bool false], .int .i64 0]) (by simp [results, Try.results45, go_sem, p0, p1, p2]) rfl ⟨by rw [HL.out]; rfl, (((HB4.out.setCell (p := ⟨w.heap.size, 0, none⟩) (by simp) _).setCell (p := ⟨w.heap.size, 1, none⟩) (by simp) _).setCell (p := ⟨w.heap.size, 2, none⟩) (by simp) _)⟩
    · have H7 := Lib.hid (show patOk ⟨l.toArray⟩ (numV (lnA x) : Int) = false from patOk_no (fun h => h7 ⟨h.1, h.2.1⟩))
      have HL := Lib.hid (show lineR x = .error ((lnA x).size + 3) by unfold lineR; rw [if_pos ⟨h1, h2, h3⟩, if_pos ⟨h4, h5⟩, h6]; simp only; rw [if_neg h7])
      rcases h5 with h5 | h5
      · have n1 : ((lnF x).toList == [105]) = true := by rw [h5]; exact strI_I
        generalize lnF x = fs at *
        clear h1 h2 h4 h5 h6
        generalize lineR x = LR at *
        generalize numV (lnA x) = nv at *
        generalize numOk (lnA x) = nok at *
        generalize cutF x 32 = one at *
        generalize cutF (lnR x) 32 = two at *
        generalize lnA x = A at *
        generalize lnT x = T at *
        generalize lnR x = R at *
        go_enter Try.func45, Try.ntmps45
        go_wp2_with fail
        refine (HC.out _).mono ?_
        rintro e w1 ⟨rfl, hb1⟩
        rw [H1.out]
        have HB1 := Lib.hid (below_step (by repeat (first | exact Below.refl _ _ | assumption | (refine Below.drew ?_) | (refine below_drewN ?_ _) | (refine Below.alloc ?_ (by first | omega | (simp; done) | (simp; omega)) _) | (refine Below.setCell ?_ (by first | omega | (simp; done) | (simp; omega)) _))) hb1 : Below w.heap.size w w1)
        have HR1 := Lib.hid ((hb1.block w.heap.size (by simp)).trans (heap_alloc_new w (.cells #[.string ⟨#[]⟩, .int .i64 0, .bool false] 73)))
        have z1 : w.heap.size < w1.heap.size := by have h0 := hb1.size; simp at h0; omega
        clear hb1
        go_wp2_with fail
        refine (HN.out _).mono ?_
        rintro e w1b ⟨rfl, rfl⟩
        rw [H2.out]
        go_wp2_with fail
        refine (HC2.out _).mono ?_
        rintro e w2 ⟨rfl, hb2⟩
        rw [H4.out]
        have HB2 := Lib.hid (HB1.out.trans (hb2.mono HB1.out.size))
        have HR2 := Lib.hid ((hb2.block w.heap.size z1).trans HR1.out)
        have z2 : w.heap.size < w2.heap.size := by have h0 := hb2.size; omega
        clear hb2
        go_wp2_with fail
        refine (HU.out _).mono ?_
        rintro e w3 ⟨he, hb3⟩
        unfold l2Post at he
        rw [H6.out] at he
        subst he
        have HB3 := Lib.hid (HB2.out.trans (hb3.mono HB2.out.size))
        have HR3 := Lib.hid ((hb3.block w.heap.size z2).trans HR2.out)
        have z3 : w.heap.size < w3.heap.size := by have h0 := hb3.size; omega
        clear hb3
        unfold unText unPos
        simp only
        go_wp2_with fail
        refine (HP.out _ _).mono ?_
        rintro e w4 ⟨rfl, hb4⟩
        rw [H7.out]
        have HB4 := Lib.hid (HB3.out.trans ((below_step (show Below w3.heap.size w3 _ from (by repeat (first | exact Below.refl _ _ | assumption | (refine Below.drew ?_) | (refine below_drewN ?_ _) | (refine Below.alloc ?_ (by first | omega | (simp; done) | (simp; omega)) _) | (refine Below.setCell ?_ (by first | omega | (simp; done) | (simp; omega)) _)))) hb4).mono HB3.out.size))
        have HR4 := Lib.hid (((below_step (show Below w3.heap.size w3 _ from (by repeat (first | exact Below.refl _ _ | assumption | (refine Below.drew ?_) | (refine below_drewN ?_ _) | (refine Below.alloc ?_ (by first | omega | (simp; done) | (simp; omega)) _) | (refine Below.setCell ?_ (by first | omega | (simp; done) | (simp; omega)) _)))) hb4 : Below w3.heap.size w3 w4).block w.heap.size z3).trans HR3.out)
        have hRp := (hb4.block w3.heap.size (by simp)).trans (heap_alloc_new w3 (.cells #[.string ⟨l.toArray⟩, .int .i64 (nv : Int), .bool true] 73))
        have c0 : w4.cell? ⟨w3.heap.size, 0, none⟩ = some (.string ⟨l.toArray⟩) := by rw [cell_of_row _ _ 0 _ _ _ hRp]; rfl
        have c1 : w4.cell? ⟨w3.heap.size, 1, none⟩ = some (.int .i64 (nv : Int)) := by rw [cell_of_row _ _ 1 _ _ _ hRp]; rfl
        have c2 : w4.cell? ⟨w3.heap.size, 2, none⟩ = some (.bool true) := by rw [cell_of_row _ _ 2 _ _ _ hRp]; rfl
        clear hb4 hRp
        have p0 : w4.cell? ⟨w.heap.size, 0, none⟩ = some (.string ⟨#[]⟩) := by rw [cell_of_row _ _ 0 _ _ _ HR4.out]; rfl
        have f0 := frozen_of_row _ _ 0 _ _ HR4.out
        have p1 : w4.cell? ⟨w.heap.size, 1, none⟩ = some (.int .i64 0) := by rw [cell_of_row _ _ 1 _ _ _ HR4.out]; rfl
        have f1 := frozen_of_row _ _ 1 _ _ HR4.out
        have p2 : w4.cell? ⟨w.heap.size, 2, none⟩ = some (.bool false) := by rw [cell_of_row _ _ 2 _ _ _ HR4.out]; rfl
        have f2 := frozen_of_row _ _ 2 _ _ HR4.out
        go_wp2_with fail
        refine bodyPost_ret (v := .tuple #[.agg #[.string ⟨#[]⟩, .int .i64 0, .bool false], .int .i64 (A.size + 2 + 2 : Int)]) (by simp [results, Try.results45, go_sem, p0, p1, p2]) rfl ⟨by rw [HL.out]; simp only [linePat, lineCol]; rw [show (A.size + 2 + 2 : Int) = ((A.size + 3 : Nat) : Int) + 1 by omega], (((HB4.out.setCell (p := ⟨w.heap.size, 0, none⟩) (by simp) _).setCell (p := ⟨w.heap.size, 1, none⟩) (by simp) _).setCell (p := ⟨w.heap.size, 2, none⟩) (by simp) _)⟩
      · have n1 : ((lnF x).toList == [105]) = false := by rw [h5]; exact strM_I
        have n2 : ((lnF x).toList == [45]) = true := by rw [h5]; exact strM_M
        generalize lnF x = fs at *
        clear h1 h2 h4 h5 h6
        generalize lineR x = LR at *
        generalize numV (lnA x) = nv at *
        generalize numOk (lnA x) = nok at *
        generalize cutF x 32 = one at *
        generalize cutF (lnR x) 32 = two at *
        generalize lnA x = A at *
        generalize lnT x = T at *
        generalize lnR x = R at *
        go_enter Try.func45, Try.ntmps45
        go_wp2_with fail
        refine (HC.out _).mono ?_
        rintro e w1 ⟨rfl, hb1⟩
        rw [H1.out]
        have HB1 := Lib.hid (below_step (by repeat (first | exact Below.refl _ _ | assumption | (refine Below.drew ?_) | (refine below_drewN ?_ _) | (refine Below.alloc ?_ (by first | omega | (simp; done) | (simp; omega)) _) | (refine Below.setCell ?_ (by first | omega | (simp; done) | (simp; omega)) _))) hb1 : Below w.heap.size w w1)
        have HR1 := Lib.hid ((hb1.block w.heap.size (by simp)).trans (heap_alloc_new w (.cells #[.string ⟨#[]⟩, .int .i64 0, .bool false] 73)))
        have z1 : w.heap.size < w1.heap.size := by have h0 := hb1.size; simp at h0; omega
        clear hb1
        go_wp2_with fail
        refine (HN.out _).mono ?_
        rintro e w1b ⟨rfl, rfl⟩
        rw [H2.out]
        go_wp2_with fail
        refine (HC2.out _).mono ?_
        rintro e w2 ⟨rfl, hb2⟩
        rw [H4.out]
        have HB2 := Lib.hid (HB1.out.trans (hb2.mono HB1.out.size))
        have HR2 := Lib.hid ((hb2.block w.heap.size z1).trans HR1.out)
        have z2 : w.heap.size < w2.heap.size := by have h0 := hb2.size; omega
        clear hb2
        go_wp2_with fail
        refine (HU.out _).mono ?_
        rintro e w3 ⟨he, hb3⟩
        unfold l2Post at he
        rw [H6.out] at he
        subst he
        have HB3 := Lib.hid (HB2.out.trans (hb3.mono HB2.out.size))
        have HR3 := Lib.hid ((hb3.block w.heap.size z2).trans HR2.out)
        have z3 : w.heap.size < w3.heap.size := by have h0 := hb3.size; omega
        clear hb3
        unfold unText unPos
        simp only
        go_wp2_with fail
        refine (HP.out _ _).mono ?_
        rintro e w4 ⟨rfl, hb4⟩
        rw [H7.out]
        have HB4 := Lib.hid (HB3.out.trans ((below_step (show Below w3.heap.size w3 _ from (by repeat (first | exact Below.refl _ _ | assumption | (refine Below.drew ?_) | (refine below_drewN ?_ _) | (refine Below.alloc ?_ (by first | omega | (simp; done) | (simp; omega)) _) | (refine Below.setCell ?_ (by first | omega | (simp; done) | (simp; omega)) _)))) hb4).mono HB3.out.size))
        have HR4 := Lib.hid (((below_step (show Below w3.heap.size w3 _ from (by repeat (first | exact Below.refl _ _ | assumption | (refine Below.drew ?_) | (refine below_drewN ?_ _) | (refine Below.alloc ?_ (by first | omega | (simp; done) | (simp; omega)) _) | (refine Below.setCell ?_ (by first | omega | (simp; done) | (simp; omega)) _)))) hb4 : Below w3.heap.size w3 w4).block w.heap.size z3).trans HR3.out)
        have hRp := (hb4.block w3.heap.size (by simp)).trans (heap_alloc_new w3 (.cells #[.string ⟨l.toArray⟩, .int .i64 (nv : Int), .bool false] 73))
        have c0 : w4.cell? ⟨w3.heap.size, 0, none⟩ = some (.string ⟨l.toArray⟩) := by rw [cell_of_row _ _ 0 _ _ _ hRp]; rfl
        have c1 : w4.cell? ⟨w3.heap.size, 1, none⟩ = some (.int .i64 (nv : Int)) := by rw [cell_of_row _ _ 1 _ _ _ hRp]; rfl
        have c2 : w4.cell? ⟨w3.heap.size, 2, none⟩ = some (.bool false) := by rw [cell_of_row _ _ 2 _ _ _ hRp]; rfl
        clear hb4 hRp
        have p0 : w4.cell? ⟨w.heap.size, 0, none⟩ = some (.string ⟨#[]⟩) := by rw [cell_of_row _ _ 0 _ _ _ HR4.out]; rfl
        have f0 := frozen_of_row _ _ 0 _ _ HR4.out
        have p1 : w4.cell? ⟨w.heap.size, 1, none⟩ = some (.int .i64 0) := by rw [cell_of_row _ _ 1 _ _ _ HR4.out]; rfl
        have f1 := frozen_of_row _ _ 1 _ _ HR4.out
        have p2 : w4.cell? ⟨w.heap.size, 2, none⟩ = some (.bool false) := by rw [cell_of_row _ _ 2 _ _ _ HR4.out]; rfl
        have f2 := frozen_of_row _ _ 2 _ _ HR4.out
        go_wp2_with fail
        refine bodyPost_ret (v := .tuple #[.agg #[.string ⟨#[]⟩, .int .i64 0, .bool false], .int .i64 (A.size + 2 + 2 : Int)]) (by simp [results, Try.results45, go_sem, p0, p1, p2]) rfl ⟨by rw [HL.out]; simp only [linePat, lineCol]; rw [show (A.size + 2 + 2 : Int) = ((A.size + 3 : Nat) : Int) + 1 by omega], (((HB4.out.setCell (p := ⟨w.heap.size, 0, none⟩) (by simp) _).setCell (p := ⟨w.heap.size, 1, none⟩) (by simp) _).setCell (p := ⟨w.heap.size, 2, none⟩) (by simp) _)⟩
end Go.Proofs.Ytodmohepgmhipaa

/-
  FnExactDrain's walk.
-/
import Derived.Test.YtodmohepgmhipaaDrainS
import Derived.Test.YtodmohepgmhipaaDrainI
import Derived.Test.YtodmohepgmhipaaSesMark3
namespace Go.Proofs.Ytodmohepgmhipaa
open Go.RowKit
set_option linter.unusedVariables false
set_option maxRecDepth 100000
theorem colSum_zero : colSum ([] : List (List Int)) 0 = 0 := rfl
theorem drS_bound (s : Ses) (most : Int) (hB : SesB 1048576 s) (hs : colSum s.C s.C.length ≤ 1048576) : SesB 1048576 (drS s most) ∧ colSum (drS s most).C (drS s most).C.length ≤ 1048576 ∧ (drQ s most).length ≤ 1048576 * 3 := by
  unfold drS drQ
  split
  · exact ⟨⟨hB.d, hB.t, hB.c, hB.r, by show (s.Q.drop _).length ≤ _; rw [List.length_drop]; have := hB.q; omega⟩, hs, by rw [List.length_take]; have := hB.q; omega⟩
  · exact ⟨⟨by decide, fun i hi => by simp [zeroS] at hi, by decide, fun i hi => by simp [zeroS] at hi, by decide⟩, by simp [zeroS, colSum], by simp⟩
theorem sesN_bound {d : Ses} (hB : SesB 1048576 d) (hs : colSum d.C d.C.length ≤ 1048576) : 0 ≤ sesN d ∧ sesN d ≤ 8000000 := by
  unfold sesN
  have h1 := hB.d; have h2 := hB.q
  omega
set_option maxHeartbeats 8000000 in
theorem law_FnExactDrain (s : Ses) (v : Value) (hM : SesB maxLen s) (hF : SesF s) (most : Int) (_wm : (Lit.int .i64 most).wf = true) (w : World) (h : SesV w v s) :
    Calls Try.prog 6 #[v, .int .i64 most] w fun e w' => e = .returned (.bool true) ∧ Below w.heap.size w w' := by
  unfold maxLen at hM
  have h' := h
  obtain ⟨ad, ac, aq, cd, cc, cq, nq, rfl, _⟩ := h
  unfold sesV at h' ⊢
  have HV := Lib.hid h'
  have hM2 : SesB 9223372036854775807 s := ⟨by have := hM.d; omega, fun i hi => by have := hM.t i hi; omega, by have := hM.c; omega, fun i hi => by have := hM.r i hi; omega, by have := hM.q; omega⟩
  have HM := Lib.hid hM2
  have HF := Lib.hid hF
  clear hM hM2 hF h'
  go_enter Try.func6, Try.ntmps6
  go_wp2_with fail
  have HW := Lib.hid (Below.refl w.heap.size w)
  have hbN : Below w.heap.size w (w.alloc (.cells #[.slice ad s.D.length cd, .int .i64 s.r, .int .i64 s.b, .int .i64 s.a, .slice ac s.C.length cc, .slice aq nq cq, .bool s.z] 46)) := (Below.refl _ _).alloc (Nat.le_refl _) _
  have RA := Lib.hid (show (w.alloc (.cells #[.slice ad s.D.length cd, .int .i64 s.r, .int .i64 s.b, .int .i64 s.a, .slice ac s.C.length cc, .slice aq nq cq, .bool s.z] 46)).heap[w.heap.size]? = some (.cells #[.slice ad s.D.length cd, .int .i64 s.r, .int .i64 s.b, .int .i64 s.a, .slice ac s.C.length cc, .slice aq nq cq, .bool s.z] 46 (0, 0)) from heap_alloc_new _ _)
  have LA : w.heap.size < (w.alloc (.cells #[.slice ad s.D.length cd, .int .i64 s.r, .int .i64 s.b, .int .i64 s.a, .slice ac s.C.length cc, .slice aq nq cq, .bool s.z] 46)).heap.size := by simp
  have SA := LA
  have z1 := hbN.size
  replace HW := Lib.hid (below_step HW.out hbN)
  clear hbN
  generalize (w.alloc (.cells #[.slice ad s.D.length cd, .int .i64 s.r, .int .i64 s.b, .int .i64 s.a, .slice ac s.C.length cc, .slice aq nq cq, .bool s.z] 46)) = w0 at *
  refine (laws_szSession s _ _ _ (HV.out.kept HW.out) HM.out HM.out.q (by omega) (by omega)).mono ?_
  rintro e w1 ⟨r, rfl, hr, hb⟩
  have z2 := hb.size
  replace RA := Lib.hid ((hb.block _ LA).trans RA.out)
  replace LA := Nat.lt_of_lt_of_le LA hb.size
  replace HW := Lib.hid (below_step HW.out hb)
  clear hb
  rcases hr with rfl | ⟨hr0, hB, hsum⟩
  · go_wp2_with fail
    go_ret
    exact ⟨rfl, HW.out⟩
  obtain ⟨hBd, hsd, hqd⟩ := drS_bound s most hB hsum
  have HB := Lib.hid hB
  have HS := Lib.hid hsum
  obtain ⟨hn0, hn1⟩ := sesN_bound hBd hsd
  have HBD := Lib.hid hBd
  have HSD := Lib.hid hsd
  have HSPEC := Lib.hid (fun v W h => spec_drain s v most W h hB HF.out)
  have HIMPL := Lib.hid (fun v W h => impl_drain s v most W h hB)
  clear hB hsum hBd hsd
  generalize drS s most = d at *
  generalize drQ s most = Q at *
  generalize hN : sesN d = N at *
  have HN := Lib.hid hN
  clear hN
  have a0 : w1.cell? ⟨w.heap.size, 0, none⟩ = some (.slice ad s.D.length cd) := by rw [cell_of_row _ _ 0 _ _ _ RA.out]; rfl
  have a1 : w1.cell? ⟨w.heap.size, 1, none⟩ = some (.int .i64 s.r) := by rw [cell_of_row _ _ 1 _ _ _ RA.out]; rfl
  have a2 : w1.cell? ⟨w.heap.size, 2, none⟩ = some (.int .i64 s.b) := by rw [cell_of_row _ _ 2 _ _ _ RA.out]; rfl
  have a3 : w1.cell? ⟨w.heap.size, 3, none⟩ = some (.int .i64 s.a) := by rw [cell_of_row _ _ 3 _ _ _ RA.out]; rfl
  have a4 : w1.cell? ⟨w.heap.size, 4, none⟩ = some (.slice ac s.C.length cc) := by rw [cell_of_row _ _ 4 _ _ _ RA.out]; rfl
  have a5 : w1.cell? ⟨w.heap.size, 5, none⟩ = some (.slice aq nq cq) := by rw [cell_of_row _ _ 5 _ _ _ RA.out]; rfl
  have a6 : w1.cell? ⟨w.heap.size, 6, none⟩ = some (.bool s.z) := by rw [cell_of_row _ _ 6 _ _ _ RA.out]; rfl
  go_wp2_with fail
  clear a0 a1 a2 a3 a4 a5 a6
  refine (laws_toSession s _ _ (HV.out.kept HW.out) HB.out).mono ?_
  rintro e w2 ⟨v2, rfl, hW2, hb⟩
  have HR2 := Lib.hid hW2.read
  have z3 := hb.size
  replace RA := Lib.hid ((hb.block _ LA).trans RA.out)
  replace LA := Nat.lt_of_lt_of_le LA hb.size
  replace HW := Lib.hid (below_step HW.out hb)
  clear hb hW2
  go_wp2_with fail
  refine (HSPEC.out v2 _ HR2.out).mono ?_
  rintro e w3 ⟨ad3, ac3, aq3, cd3, cc3, cq3, nq3, af3, nf3, cf3, rfl, hV3, hl3, hI3, hb⟩
  have z4 := hb.size
  replace RA := Lib.hid ((hb.block _ LA).trans RA.out)
  replace LA := Nat.lt_of_lt_of_le LA hb.size
  replace HW := Lib.hid (below_step HW.out hb)
  have H3 := Lib.hid hV3
  have I3 := Lib.hid hI3
  have HL3 := Lib.hid hl3
  have HK := Lib.hid (Below.refl w3.heap.size w3)
  clear hb hV3 hI3 hl3 HR2
  have a0 : w3.cell? ⟨w.heap.size, 0, none⟩ = some (.slice ad s.D.length cd) := by rw [cell_of_row _ _ 0 _ _ _ RA.out]; rfl
  have a1 : w3.cell? ⟨w.heap.size, 1, none⟩ = some (.int .i64 s.r) := by rw [cell_of_row _ _ 1 _ _ _ RA.out]; rfl
  have a2 : w3.cell? ⟨w.heap.size, 2, none⟩ = some (.int .i64 s.b) := by rw [cell_of_row _ _ 2 _ _ _ RA.out]; rfl
  have a3 : w3.cell? ⟨w.heap.size, 3, none⟩ = some (.int .i64 s.a) := by rw [cell_of_row _ _ 3 _ _ _ RA.out]; rfl
  have a4 : w3.cell? ⟨w.heap.size, 4, none⟩ = some (.slice ac s.C.length cc) := by rw [cell_of_row _ _ 4 _ _ _ RA.out]; rfl
  have a5 : w3.cell? ⟨w.heap.size, 5, none⟩ = some (.slice aq nq cq) := by rw [cell_of_row _ _ 5 _ _ _ RA.out]; rfl
  have a6 : w3.cell? ⟨w.heap.size, 6, none⟩ = some (.bool s.z) := by rw [cell_of_row _ _ 6 _ _ _ RA.out]; rfl
  go_wp2_with fail
  clear a0 a1 a2 a3 a4 a5 a6
  have hbN : Below w3.heap.size w3 (w3.alloc (.cells #[.slice ad3 d.D.length cd3, .int .i64 d.r, .int .i64 d.b, .int .i64 d.a, .slice ac3 d.C.length cc3, .slice aq3 nq3 cq3, .bool d.z] 49)) := (Below.refl _ _).alloc (Nat.le_refl _) _
  have RB := Lib.hid (show (w3.alloc (.cells #[.slice ad3 d.D.length cd3, .int .i64 d.r, .int .i64 d.b, .int .i64 d.a, .slice ac3 d.C.length cc3, .slice aq3 nq3 cq3, .bool d.z] 49)).heap[w3.heap.size]? = some (.cells #[.slice ad3 d.D.length cd3, .int .i64 d.r, .int .i64 d.b, .int .i64 d.a, .slice ac3 d.C.length cc3, .slice aq3 nq3 cq3, .bool d.z] 49 (0, 0)) from heap_alloc_new _ _)
  have LB : w3.heap.size < (w3.alloc (.cells #[.slice ad3 d.D.length cd3, .int .i64 d.r, .int .i64 d.b, .int .i64 d.a, .slice ac3 d.C.length cc3, .slice aq3 nq3 cq3, .bool d.z] 49)).heap.size := by simp
  have SB := LB
  have z5 := hbN.size
  replace RA := Lib.hid ((hbN.block _ LA).trans RA.out)
  replace LA := Nat.lt_of_lt_of_le LA hbN.size
  replace HW := Lib.hid (below_step HW.out hbN)
  replace HK := Lib.hid (below_step HK.out hbN)
  clear hbN
  generalize (w3.alloc (.cells #[.slice ad3 d.D.length cd3, .int .i64 d.r, .int .i64 d.b, .int .i64 d.a, .slice ac3 d.C.length cc3, .slice aq3 nq3 cq3, .bool d.z] 49)) = w3b at *
  refine (laws_toSession_x s _ _ (HV.out.kept HW.out) HB.out).mono ?_
  rintro e w4 ⟨ad4, ac4, aq4, cd4, cc4, cq4, nq4, rfl, hW4, hb⟩
  have z6 := hb.size
  replace RA := Lib.hid ((hb.block _ LA).trans RA.out)
  replace LA := Nat.lt_of_lt_of_le LA hb.size
  replace RB := Lib.hid ((hb.block _ LB).trans RB.out)
  replace LB := Nat.lt_of_lt_of_le LB hb.size
  replace HW := Lib.hid (below_step HW.out hb)
  replace HK := Lib.hid (below_step HK.out hb)
  have HX := Lib.hid hW4
  have s34 := hb.size
  clear hb hW4
  go_wp2_with fail
  have hbN : Below w4.heap.size w4 (w4.alloc (.cells #[.slice ad4 s.D.length cd4, .int .i64 s.r, .int .i64 s.b, .int .i64 s.a, .slice ac4 s.C.length cc4, .slice aq4 nq4 cq4, .bool s.z] 49)) := (Below.refl _ _).alloc (Nat.le_refl _) _
  have RX := Lib.hid (show (w4.alloc (.cells #[.slice ad4 s.D.length cd4, .int .i64 s.r, .int .i64 s.b, .int .i64 s.a, .slice ac4 s.C.length cc4, .slice aq4 nq4 cq4, .bool s.z] 49)).heap[w4.heap.size]? = some (.cells #[.slice ad4 s.D.length cd4, .int .i64 s.r, .int .i64 s.b, .int .i64 s.a, .slice ac4 s.C.length cc4, .slice aq4 nq4 cq4, .bool s.z] 49 (0, 0)) from heap_alloc_new _ _)
  have LX : w4.heap.size < (w4.alloc (.cells #[.slice ad4 s.D.length cd4, .int .i64 s.r, .int .i64 s.b, .int .i64 s.a, .slice ac4 s.C.length cc4, .slice aq4 nq4 cq4, .bool s.z] 49)).heap.size := by simp
  have SX := LX
  have z7 := hbN.size
  replace RA := Lib.hid ((hbN.block _ LA).trans RA.out)
  replace LA := Nat.lt_of_lt_of_le LA hbN.size
  replace RB := Lib.hid ((hbN.block _ LB).trans RB.out)
  replace LB := Nat.lt_of_lt_of_le LB hbN.size
  replace HX := Lib.hid (HX.out.kept hbN)
  replace HW := Lib.hid (below_step HW.out hbN)
  replace HK := Lib.hid (below_step HK.out hbN)
  clear hbN
  generalize (w4.alloc (.cells #[.slice ad4 s.D.length cd4, .int .i64 s.r, .int .i64 s.b, .int .i64 s.a, .slice ac4 s.C.length cc4, .slice aq4 nq4 cq4, .bool s.z] 49)) = w4b at *
  refine (HIMPL.out _ _ HX.out.read).mono ?_
  rintro e w5 ⟨X, ad5, ac5, aq5, cd5, cc5, cq5, nq5, af5, nf5, cf5, rfl, hW5, hO5, hX1, hX2, hb⟩
  have z8 := hb.size
  replace RA := Lib.hid ((hb.block _ LA).trans RA.out)
  replace LA := Nat.lt_of_lt_of_le LA hb.size
  replace RB := Lib.hid ((hb.block _ LB).trans RB.out)
  replace LB := Nat.lt_of_lt_of_le LB hb.size
  replace RX := Lib.hid ((hb.block _ LX).trans RX.out)
  replace LX := Nat.lt_of_lt_of_le LX hb.size
  replace HX := Lib.hid (HX.out.kept hb)
  replace HW := Lib.hid (below_step HW.out hb)
  replace HK := Lib.hid (below_step HK.out hb)
  have HG := Lib.hid hW5
  have HO := Lib.hid hO5
  have hnf : nf5 = nf3 := by have h1 := hO5.len; have h2 := HL3.out; omega
  subst hnf
  have HGW := Lib.hid (show ∀ b, (Value.slice af5 nf5 cf5).ownBlock = some b → b < w5.heap.size from fun b e => hO5.turn_lt b e)
  have hnf2 : nf5 ≤ 1048576 := by have h1 := HL3.out; omega
  clear hb hW5 hO5
  have b0 : w5.cell? ⟨w3.heap.size, 0, none⟩ = some (.slice ad3 d.D.length cd3) := by rw [cell_of_row _ _ 0 _ _ _ RB.out]; rfl
  have b1 : w5.cell? ⟨w3.heap.size, 1, none⟩ = some (.int .i64 d.r) := by rw [cell_of_row _ _ 1 _ _ _ RB.out]; rfl
  have b2 : w5.cell? ⟨w3.heap.size, 2, none⟩ = some (.int .i64 d.b) := by rw [cell_of_row _ _ 2 _ _ _ RB.out]; rfl
  have b3 : w5.cell? ⟨w3.heap.size, 3, none⟩ = some (.int .i64 d.a) := by rw [cell_of_row _ _ 3 _ _ _ RB.out]; rfl
  have b4 : w5.cell? ⟨w3.heap.size, 4, none⟩ = some (.slice ac3 d.C.length cc3) := by rw [cell_of_row _ _ 4 _ _ _ RB.out]; rfl
  have b5 : w5.cell? ⟨w3.heap.size, 5, none⟩ = some (.slice aq3 nq3 cq3) := by rw [cell_of_row _ _ 5 _ _ _ RB.out]; rfl
  have b6 : w5.cell? ⟨w3.heap.size, 6, none⟩ = some (.bool d.z) := by rw [cell_of_row _ _ 6 _ _ _ RB.out]; rfl
  go_wp2_with fail
  clear b0 b1 b2 b3 b4 b5 b6
  have hbN : Below w5.heap.size w5 (w5.alloc (.cells #[.slice ad5 d.D.length cd5, .int .i64 d.r, .int .i64 d.b, .int .i64 d.a, .slice ac5 d.C.length cc5, .slice aq5 nq5 cq5, .bool d.z] 49)) := (Below.refl _ _).alloc (Nat.le_refl _) _
  have RG := Lib.hid (show (w5.alloc (.cells #[.slice ad5 d.D.length cd5, .int .i64 d.r, .int .i64 d.b, .int .i64 d.a, .slice ac5 d.C.length cc5, .slice aq5 nq5 cq5, .bool d.z] 49)).heap[w5.heap.size]? = some (.cells #[.slice ad5 d.D.length cd5, .int .i64 d.r, .int .i64 d.b, .int .i64 d.a, .slice ac5 d.C.length cc5, .slice aq5 nq5 cq5, .bool d.z] 49 (0, 0)) from heap_alloc_new _ _)
  have LG : w5.heap.size < (w5.alloc (.cells #[.slice ad5 d.D.length cd5, .int .i64 d.r, .int .i64 d.b, .int .i64 d.a, .slice ac5 d.C.length cc5, .slice aq5 nq5 cq5, .bool d.z] 49)).heap.size := by simp
  have SG := LG
  have z9 := hbN.size
  replace RA := Lib.hid ((hbN.block _ LA).trans RA.out)
  replace LA := Nat.lt_of_lt_of_le LA hbN.size
  replace RB := Lib.hid ((hbN.block _ LB).trans RB.out)
  replace LB := Nat.lt_of_lt_of_le LB hbN.size
  replace RX := Lib.hid ((hbN.block _ LX).trans RX.out)
  replace LX := Nat.lt_of_lt_of_le LX hbN.size
  replace HX := Lib.hid (HX.out.kept hbN)
  replace HG := Lib.hid (HG.out.kept hbN)
  replace HO := Lib.hid (HO.out.kept hbN)
  replace HW := Lib.hid (below_step HW.out hbN)
  replace HK := Lib.hid (below_step HK.out hbN)
  clear hbN
  generalize (w5.alloc (.cells #[.slice ad5 d.D.length cd5, .int .i64 d.r, .int .i64 d.b, .int .i64 d.a, .slice ac5 d.C.length cc5, .slice aq5 nq5 cq5, .bool d.z] 49)) = w5b at *
  refine (laws_eqSession d _ _ _ HG.out.read (H3.out.kept HK.out) HBD.out).mono ?_
  rintro e w6 ⟨rfl, hb⟩
  have z10 := hb.size
  replace RA := Lib.hid ((hb.block _ LA).trans RA.out)
  replace LA := Nat.lt_of_lt_of_le LA hb.size
  replace RB := Lib.hid ((hb.block _ LB).trans RB.out)
  replace LB := Nat.lt_of_lt_of_le LB hb.size
  replace RX := Lib.hid ((hb.block _ LX).trans RX.out)
  replace LX := Nat.lt_of_lt_of_le LX hb.size
  replace RG := Lib.hid ((hb.block _ LG).trans RG.out)
  replace LG := Nat.lt_of_lt_of_le LG hb.size
  replace HX := Lib.hid (HX.out.kept hb)
  replace HG := Lib.hid (HG.out.kept hb)
  replace HO := Lib.hid (HO.out.kept hb)
  replace HW := Lib.hid (below_step HW.out hb)
  replace HK := Lib.hid (below_step HK.out hb)
  clear hb
  go_wp2_with fail
  refine (laws_eqRecS Q _ _ _ _ _ _ HO.out.len HO.out.ints (I3.out.kept HK.out) (by omega)).mono ?_
  rintro e w7 ⟨rfl, hb⟩
  have z11 := hb.size
  replace RA := Lib.hid ((hb.block _ LA).trans RA.out)
  replace LA := Nat.lt_of_lt_of_le LA hb.size
  replace RB := Lib.hid ((hb.block _ LB).trans RB.out)
  replace LB := Nat.lt_of_lt_of_le LB hb.size
  replace RX := Lib.hid ((hb.block _ LX).trans RX.out)
  replace LX := Nat.lt_of_lt_of_le LX hb.size
  replace RG := Lib.hid ((hb.block _ LG).trans RG.out)
  replace LG := Nat.lt_of_lt_of_le LG hb.size
  replace HX := Lib.hid (HX.out.kept hb)
  replace HG := Lib.hid (HG.out.kept hb)
  replace HO := Lib.hid (HO.out.kept hb)
  replace HW := Lib.hid (below_step HW.out hb)
  replace HK := Lib.hid (below_step HK.out hb)
  clear hb
  have a0 : w7.cell? ⟨w.heap.size, 0, none⟩ = some (.slice ad s.D.length cd) := by rw [cell_of_row _ _ 0 _ _ _ RA.out]; rfl
  have a1 : w7.cell? ⟨w.heap.size, 1, none⟩ = some (.int .i64 s.r) := by rw [cell_of_row _ _ 1 _ _ _ RA.out]; rfl
  have a2 : w7.cell? ⟨w.heap.size, 2, none⟩ = some (.int .i64 s.b) := by rw [cell_of_row _ _ 2 _ _ _ RA.out]; rfl
  have a3 : w7.cell? ⟨w.heap.size, 3, none⟩ = some (.int .i64 s.a) := by rw [cell_of_row _ _ 3 _ _ _ RA.out]; rfl
  have a4 : w7.cell? ⟨w.heap.size, 4, none⟩ = some (.slice ac s.C.length cc) := by rw [cell_of_row _ _ 4 _ _ _ RA.out]; rfl
  have a5 : w7.cell? ⟨w.heap.size, 5, none⟩ = some (.slice aq nq cq) := by rw [cell_of_row _ _ 5 _ _ _ RA.out]; rfl
  have a6 : w7.cell? ⟨w.heap.size, 6, none⟩ = some (.bool s.z) := by rw [cell_of_row _ _ 6 _ _ _ RA.out]; rfl
  have x0 : w7.cell? ⟨w4.heap.size, 0, none⟩ = some (.slice ad4 s.D.length cd4) := by rw [cell_of_row _ _ 0 _ _ _ RX.out]; rfl
  have x1 : w7.cell? ⟨w4.heap.size, 1, none⟩ = some (.int .i64 s.r) := by rw [cell_of_row _ _ 1 _ _ _ RX.out]; rfl
  have x2 : w7.cell? ⟨w4.heap.size, 2, none⟩ = some (.int .i64 s.b) := by rw [cell_of_row _ _ 2 _ _ _ RX.out]; rfl
  have x3 : w7.cell? ⟨w4.heap.size, 3, none⟩ = some (.int .i64 s.a) := by rw [cell_of_row _ _ 3 _ _ _ RX.out]; rfl
  have x4 : w7.cell? ⟨w4.heap.size, 4, none⟩ = some (.slice ac4 s.C.length cc4) := by rw [cell_of_row _ _ 4 _ _ _ RX.out]; rfl
  have x5 : w7.cell? ⟨w4.heap.size, 5, none⟩ = some (.slice aq4 nq4 cq4) := by rw [cell_of_row _ _ 5 _ _ _ RX.out]; rfl
  have x6 : w7.cell? ⟨w4.heap.size, 6, none⟩ = some (.bool s.z) := by rw [cell_of_row _ _ 6 _ _ _ RX.out]; rfl
  go_upto_region 10 with fail
  go_cut [50] from 46 (fun x wr => x = .bool false ∧ Below w7.heap.size w7 wr)
  case first =>
    go_region_law ((go_simp; first | (go_at_call 28; refine (laws_toSession_x s _ _ ((HV.out.kept HW.out).kept (by repeat (first | exact Below.refl _ _ | assumption | (refine Below.drew ?_) | (refine below_drewN ?_ _) | (refine Below.alloc ?_ (by first | omega | (simp; done) | (simp; omega)) _) | (refine Below.setCell ?_ (by first | omega | (simp; done) | (simp; omega)) _)))) HB.out).mono ?_; rintro e w8 ⟨ad8, ac8, aq8, cd8, cc8, cq8, nq8, rfl, hW8, hb8d⟩; have hb8 : Below w7.heap.size w7 w8 := below_step (by repeat (first | exact Below.refl _ _ | assumption | (refine Below.drew ?_) | (refine below_drewN ?_ _) | (refine Below.alloc ?_ (by first | omega | (simp; done) | (simp; omega)) _) | (refine Below.setCell ?_ (by first | omega | (simp; done) | (simp; omega)) _))) hb8d; obtain ⟨hc_w8, hf_w8⟩ := bcell hb8) | (go_at_call 30; refine (laws_eqSession s _ _ _ (HX.out.read.kept (hb8.trans ((show Below w8.heap.size w8 _ from (by repeat (first | exact Below.refl _ _ | assumption | (refine Below.drew ?_) | (refine below_drewN ?_ _) | (refine Below.alloc ?_ (by first | omega | (simp; done) | (simp; omega)) _) | (refine Below.setCell ?_ (by first | omega | (simp; done) | (simp; omega)) _)))).mono hb8.size))) (hW8.read.kept (by repeat (first | exact Below.refl _ _ | assumption | (refine Below.drew ?_) | (refine below_drewN ?_ _) | (refine Below.alloc ?_ (by first | omega | (simp; done) | (simp; omega)) _) | (refine Below.setCell ?_ (by first | omega | (simp; done) | (simp; omega)) _)))) HB.out).mono ?_; rintro e w9 ⟨rfl, hb9⟩; have hb9c : Below w7.heap.size w7 w9 := (hb8.trans ((show Below w8.heap.size w8 _ from (by repeat (first | exact Below.refl _ _ | assumption | (refine Below.drew ?_) | (refine below_drewN ?_ _) | (refine Below.alloc ?_ (by first | omega | (simp; done) | (simp; omega)) _) | (refine Below.setCell ?_ (by first | omega | (simp; done) | (simp; omega)) _)))).mono hb8.size)).trans (hb9.mono (by simpa using hb8.size)))))
    all_goals
      go_wp2_with fail
      go_meet
      exact ⟨rfl, hb9c⟩
  case rest =>
  obtain ⟨rfl, hb⟩ := hcut
  clear a0 a1 a2 a3 a4 a5 a6 x0 x1 x2 x3 x4 x5 x6
  generalize wc = w9 at *
  have z12 := hb.size
  replace RA := Lib.hid ((hb.block _ LA).trans RA.out)
  replace LA := Nat.lt_of_lt_of_le LA hb.size
  replace RB := Lib.hid ((hb.block _ LB).trans RB.out)
  replace LB := Nat.lt_of_lt_of_le LB hb.size
  replace RX := Lib.hid ((hb.block _ LX).trans RX.out)
  replace LX := Nat.lt_of_lt_of_le LX hb.size
  replace RG := Lib.hid ((hb.block _ LG).trans RG.out)
  replace LG := Nat.lt_of_lt_of_le LG hb.size
  replace HX := Lib.hid (HX.out.kept hb)
  replace HG := Lib.hid (HG.out.kept hb)
  replace HO := Lib.hid (HO.out.kept hb)
  replace HW := Lib.hid (below_step HW.out hb)
  replace HK := Lib.hid (below_step HK.out hb)
  clear hb
  have x0 : w9.cell? ⟨w4.heap.size, 0, none⟩ = some (.slice ad4 s.D.length cd4) := by rw [cell_of_row _ _ 0 _ _ _ RX.out]; rfl
  have x1 : w9.cell? ⟨w4.heap.size, 1, none⟩ = some (.int .i64 s.r) := by rw [cell_of_row _ _ 1 _ _ _ RX.out]; rfl
  have x2 : w9.cell? ⟨w4.heap.size, 2, none⟩ = some (.int .i64 s.b) := by rw [cell_of_row _ _ 2 _ _ _ RX.out]; rfl
  have x3 : w9.cell? ⟨w4.heap.size, 3, none⟩ = some (.int .i64 s.a) := by rw [cell_of_row _ _ 3 _ _ _ RX.out]; rfl
  have x4 : w9.cell? ⟨w4.heap.size, 4, none⟩ = some (.slice ac4 s.C.length cc4) := by rw [cell_of_row _ _ 4 _ _ _ RX.out]; rfl
  have x5 : w9.cell? ⟨w4.heap.size, 5, none⟩ = some (.slice aq4 nq4 cq4) := by rw [cell_of_row _ _ 5 _ _ _ RX.out]; rfl
  have x6 : w9.cell? ⟨w4.heap.size, 6, none⟩ = some (.bool s.z) := by rw [cell_of_row _ _ 6 _ _ _ RX.out]; rfl
  go_wp2_with fail
  clear x0 x1 x2 x3 x4 x5 x6
  refine (laws_markSession s _ _ _ _ _ HX.out HB.out HS.out (by omega) (by omega)).mono ?_
  rintro e w10 ⟨rfl, _, ht⟩
  have SW := HW.out.size
  have SK := HK.out.size
  have HGL : ∀ g, (Value.slice af5 nf5 cf5).ownBlock = some g → X ≤ g := fun g e => (HO.out.2.lt g e).1
  replace RA := Lib.hid ((ht.block _ LA (by omega)).trans RA.out)
  replace LA := Nat.lt_of_lt_of_le LA ht.size
  replace RB := Lib.hid ((ht.block _ LB (by omega)).trans RB.out)
  replace LB := Nat.lt_of_lt_of_le LB ht.size
  replace RX := Lib.hid ((ht.block _ LX (by omega)).trans RX.out)
  replace LX := Nat.lt_of_lt_of_le LX ht.size
  replace RG := Lib.hid ((ht.block _ LG (by omega)).trans RG.out)
  replace LG := Nat.lt_of_lt_of_le LG ht.size
  replace HW := Lib.hid (HW.out.trans (ht.below (fun b hb => by omega) SW))
  replace HK := Lib.hid (HK.out.trans (ht.below (fun b hb => by omega) SK))
  replace HO := Lib.hid (HO.out.on (w1 := w10) fun g e => ht.block g (HO.out.turn_lt g e) fun e2 => by have := HGL g e; omega)
  replace HG := Lib.hid (HG.out.trn ht (fun k hk => by omega))
  clear ht SW SK
  have g0 : w10.cell? ⟨w5.heap.size, 0, none⟩ = some (.slice ad5 d.D.length cd5) := by rw [cell_of_row _ _ 0 _ _ _ RG.out]; rfl
  have g1 : w10.cell? ⟨w5.heap.size, 1, none⟩ = some (.int .i64 d.r) := by rw [cell_of_row _ _ 1 _ _ _ RG.out]; rfl
  have g2 : w10.cell? ⟨w5.heap.size, 2, none⟩ = some (.int .i64 d.b) := by rw [cell_of_row _ _ 2 _ _ _ RG.out]; rfl
  have g3 : w10.cell? ⟨w5.heap.size, 3, none⟩ = some (.int .i64 d.a) := by rw [cell_of_row _ _ 3 _ _ _ RG.out]; rfl
  have g4 : w10.cell? ⟨w5.heap.size, 4, none⟩ = some (.slice ac5 d.C.length cc5) := by rw [cell_of_row _ _ 4 _ _ _ RG.out]; rfl
  have g5 : w10.cell? ⟨w5.heap.size, 5, none⟩ = some (.slice aq5 nq5 cq5) := by rw [cell_of_row _ _ 5 _ _ _ RG.out]; rfl
  have g6 : w10.cell? ⟨w5.heap.size, 6, none⟩ = some (.bool d.z) := by rw [cell_of_row _ _ 6 _ _ _ RG.out]; rfl
  have b0 : w10.cell? ⟨w3.heap.size, 0, none⟩ = some (.slice ad3 d.D.length cd3) := by rw [cell_of_row _ _ 0 _ _ _ RB.out]; rfl
  have b1 : w10.cell? ⟨w3.heap.size, 1, none⟩ = some (.int .i64 d.r) := by rw [cell_of_row _ _ 1 _ _ _ RB.out]; rfl
  have b2 : w10.cell? ⟨w3.heap.size, 2, none⟩ = some (.int .i64 d.b) := by rw [cell_of_row _ _ 2 _ _ _ RB.out]; rfl
  have b3 : w10.cell? ⟨w3.heap.size, 3, none⟩ = some (.int .i64 d.a) := by rw [cell_of_row _ _ 3 _ _ _ RB.out]; rfl
  have b4 : w10.cell? ⟨w3.heap.size, 4, none⟩ = some (.slice ac3 d.C.length cc3) := by rw [cell_of_row _ _ 4 _ _ _ RB.out]; rfl
  have b5 : w10.cell? ⟨w3.heap.size, 5, none⟩ = some (.slice aq3 nq3 cq3) := by rw [cell_of_row _ _ 5 _ _ _ RB.out]; rfl
  have b6 : w10.cell? ⟨w3.heap.size, 6, none⟩ = some (.bool d.z) := by rw [cell_of_row _ _ 6 _ _ _ RB.out]; rfl
  have hsN0 : ¬ ((1 : Int) + sesN s < 0) := by have := (sesN_bound HB.out HS.out).1; omega
  go_wp2_with fail
  refine (laws_eqSession d _ _ _ HG.out.read (H3.out.kept HK.out) HBD.out).mono ?_
  rintro e w11 ⟨rfl, hb⟩
  have z13 := hb.size
  replace RA := Lib.hid ((hb.block _ LA).trans RA.out)
  replace LA := Nat.lt_of_lt_of_le LA hb.size
  replace RB := Lib.hid ((hb.block _ LB).trans RB.out)
  replace LB := Nat.lt_of_lt_of_le LB hb.size
  replace RX := Lib.hid ((hb.block _ LX).trans RX.out)
  replace LX := Nat.lt_of_lt_of_le LX hb.size
  replace RG := Lib.hid ((hb.block _ LG).trans RG.out)
  replace LG := Nat.lt_of_lt_of_le LG hb.size
  replace HG := Lib.hid (HG.out.kept hb)
  replace HO := Lib.hid (HO.out.kept hb)
  replace HW := Lib.hid (below_step HW.out hb)
  replace HK := Lib.hid (below_step HK.out hb)
  clear hb
  clear g0 g1 g2 g3 g4 g5 g6 b0 b1 b2 b3 b4 b5 b6
  go_wp2_with fail
  refine (laws_eqRecS Q _ _ _ _ _ _ HO.out.len HO.out.ints (I3.out.kept HK.out) (by omega)).mono ?_
  rintro e w12 ⟨rfl, hb⟩
  have z14 := hb.size
  replace RA := Lib.hid ((hb.block _ LA).trans RA.out)
  replace LA := Nat.lt_of_lt_of_le LA hb.size
  replace RB := Lib.hid ((hb.block _ LB).trans RB.out)
  replace LB := Nat.lt_of_lt_of_le LB hb.size
  replace RX := Lib.hid ((hb.block _ LX).trans RX.out)
  replace LX := Nat.lt_of_lt_of_le LX hb.size
  replace RG := Lib.hid ((hb.block _ LG).trans RG.out)
  replace LG := Nat.lt_of_lt_of_le LG hb.size
  replace HG := Lib.hid (HG.out.kept hb)
  replace HO := Lib.hid (HO.out.kept hb)
  replace HW := Lib.hid (below_step HW.out hb)
  replace HK := Lib.hid (below_step HK.out hb)
  clear hb
  have g0 : w12.cell? ⟨w5.heap.size, 0, none⟩ = some (.slice ad5 d.D.length cd5) := by rw [cell_of_row _ _ 0 _ _ _ RG.out]; rfl
  have g1 : w12.cell? ⟨w5.heap.size, 1, none⟩ = some (.int .i64 d.r) := by rw [cell_of_row _ _ 1 _ _ _ RG.out]; rfl
  have g2 : w12.cell? ⟨w5.heap.size, 2, none⟩ = some (.int .i64 d.b) := by rw [cell_of_row _ _ 2 _ _ _ RG.out]; rfl
  have g3 : w12.cell? ⟨w5.heap.size, 3, none⟩ = some (.int .i64 d.a) := by rw [cell_of_row _ _ 3 _ _ _ RG.out]; rfl
  have g4 : w12.cell? ⟨w5.heap.size, 4, none⟩ = some (.slice ac5 d.C.length cc5) := by rw [cell_of_row _ _ 4 _ _ _ RG.out]; rfl
  have g5 : w12.cell? ⟨w5.heap.size, 5, none⟩ = some (.slice aq5 nq5 cq5) := by rw [cell_of_row _ _ 5 _ _ _ RG.out]; rfl
  have g6 : w12.cell? ⟨w5.heap.size, 6, none⟩ = some (.bool d.z) := by rw [cell_of_row _ _ 6 _ _ _ RG.out]; rfl
  go_wp2_with fail
  clear g0 g1 g2 g3 g4 g5 g6
  refine (laws_markSession d _ _ _ _ _ HG.out HBD.out HSD.out (by omega) (by omega)).mono ?_
  rintro e w13 ⟨rfl, hG13, ht⟩
  rw [HN.out]
  have SW := HW.out.size
  have SK := HK.out.size
  replace RA := Lib.hid ((ht.block _ LA (by omega)).trans RA.out)
  replace LA := Nat.lt_of_lt_of_le LA ht.size
  replace RB := Lib.hid ((ht.block _ LB (by omega)).trans RB.out)
  replace LB := Nat.lt_of_lt_of_le LB ht.size
  replace RX := Lib.hid ((ht.block _ LX (by omega)).trans RX.out)
  replace LX := Nat.lt_of_lt_of_le LX ht.size
  replace RG := Lib.hid ((ht.block _ LG (by omega)).trans RG.out)
  replace LG := Nat.lt_of_lt_of_le LG ht.size
  replace HW := Lib.hid (HW.out.trans (ht.below (fun b hb => by omega) SW))
  replace HK := Lib.hid (HK.out.trans (ht.below (fun b hb => by omega) SK))
  replace HO := Lib.hid (HO.out.on (w1 := w13) fun g e => ht.block g (HO.out.turn_lt g e) fun e2 => by have := HGL g e; omega)
  replace HG := Lib.hid hG13
  clear ht SW SK hG13
  go_wp2_with fail
  refine (laws_markRecS Q _ _ _ _ _ _ HO.out (by omega) (by omega) (by omega)).mono ?_
  rintro e w14 ⟨M, rfl, hO14, hu14, hg14⟩
  have ht : Trn (fun b => X ≤ b ∧ (Value.slice af5 nf5 cf5).ownBlock = some b) w13 w14 := Trn.of_grown hg14 fun k e => ⟨HGL k e, e⟩
  have HXG : ∀ b, (Value.slice af5 nf5 cf5).ownBlock = some b → b < w5.heap.size := HGW.out
  have SW := HW.out.size
  have SK := HK.out.size
  replace RA := Lib.hid ((ht.block _ LA (by rintro ⟨h1, h2⟩; have := HXG _ h2; omega)).trans RA.out)
  replace LA := Nat.lt_of_lt_of_le LA ht.size
  replace RB := Lib.hid ((ht.block _ LB (by rintro ⟨h1, h2⟩; have := HXG _ h2; omega)).trans RB.out)
  replace LB := Nat.lt_of_lt_of_le LB ht.size
  replace RX := Lib.hid ((ht.block _ LX (by rintro ⟨h1, h2⟩; have := HXG _ h2; omega)).trans RX.out)
  replace LX := Nat.lt_of_lt_of_le LX ht.size
  replace RG := Lib.hid ((ht.block _ LG (by rintro ⟨h1, h2⟩; have := HXG _ h2; omega)).trans RG.out)
  replace LG := Nat.lt_of_lt_of_le LG ht.size
  replace HW := Lib.hid (HW.out.trans (ht.below (fun b hb => by omega) SW))
  replace HK := Lib.hid (HK.out.trans (ht.below (fun b hb => by omega) SK))
  replace HG := Lib.hid (HG.out.trn ht (fun k hk => .inr hk.1))
  replace HO := Lib.hid hO14
  have HU := Lib.hid hu14
  clear ht SW SK hO14 hu14 hg14 HXG
  have g0 : w14.cell? ⟨w5.heap.size, 0, none⟩ = some (.slice ad5 d.D.length cd5) := by rw [cell_of_row _ _ 0 _ _ _ RG.out]; rfl
  have g1 : w14.cell? ⟨w5.heap.size, 1, none⟩ = some (.int .i64 d.r) := by rw [cell_of_row _ _ 1 _ _ _ RG.out]; rfl
  have g2 : w14.cell? ⟨w5.heap.size, 2, none⟩ = some (.int .i64 d.b) := by rw [cell_of_row _ _ 2 _ _ _ RG.out]; rfl
  have g3 : w14.cell? ⟨w5.heap.size, 3, none⟩ = some (.int .i64 d.a) := by rw [cell_of_row _ _ 3 _ _ _ RG.out]; rfl
  have g4 : w14.cell? ⟨w5.heap.size, 4, none⟩ = some (.slice ac5 d.C.length cc5) := by rw [cell_of_row _ _ 4 _ _ _ RG.out]; rfl
  have g5 : w14.cell? ⟨w5.heap.size, 5, none⟩ = some (.slice aq5 nq5 cq5) := by rw [cell_of_row _ _ 5 _ _ _ RG.out]; rfl
  have g6 : w14.cell? ⟨w5.heap.size, 6, none⟩ = some (.bool d.z) := by rw [cell_of_row _ _ 6 _ _ _ RG.out]; rfl
  have hq0 : ¬ ((1 : Int) + N < 0) := by omega
  have hq1 : ¬ ((1 : Int) + N + (nf5 : Int) * 3 < 0) := by omega
  have hq2 : ((1 : Int) + N + (nf5 : Int) * 3 != 1 + N + (nf5 : Int) * 3) = false := by simp
  go_wp2_with fail
  clear g0 g1 g2 g3 g4 g5 g6
  refine (laws_heldSession d _ _ _ HG.out.read HBD.out HSD.out (by omega) (by omega)).mono ?_
  rintro e w15 ⟨rfl, hb⟩
  rw [HN.out]
  have z15 := hb.size
  replace RA := Lib.hid ((hb.block _ LA).trans RA.out)
  replace LA := Nat.lt_of_lt_of_le LA hb.size
  replace RB := Lib.hid ((hb.block _ LB).trans RB.out)
  replace LB := Nat.lt_of_lt_of_le LB hb.size
  replace RX := Lib.hid ((hb.block _ LX).trans RX.out)
  replace LX := Nat.lt_of_lt_of_le LX hb.size
  replace RG := Lib.hid ((hb.block _ LG).trans RG.out)
  replace LG := Nat.lt_of_lt_of_le LG hb.size
  replace HG := Lib.hid (HG.out.kept hb)
  replace HO := Lib.hid (HO.out.kept hb)
  replace HW := Lib.hid (below_step HW.out hb)
  replace HK := Lib.hid (below_step HK.out hb)
  clear hb
  go_wp2_with fail
  refine (laws_heldRecS M _ _ _ _ _ HO.out.len HO.out.ints HU.out (by omega) (by omega) (by omega)).mono ?_
  rintro e w16 ⟨rfl, hb⟩
  have z16 := hb.size
  replace RA := Lib.hid ((hb.block _ LA).trans RA.out)
  replace LA := Nat.lt_of_lt_of_le LA hb.size
  replace RB := Lib.hid ((hb.block _ LB).trans RB.out)
  replace LB := Nat.lt_of_lt_of_le LB hb.size
  replace RX := Lib.hid ((hb.block _ LX).trans RX.out)
  replace LX := Nat.lt_of_lt_of_le LX hb.size
  replace RG := Lib.hid ((hb.block _ LG).trans RG.out)
  replace LG := Nat.lt_of_lt_of_le LG hb.size
  replace HG := Lib.hid (HG.out.kept hb)
  replace HO := Lib.hid (HO.out.kept hb)
  replace HW := Lib.hid (below_step HW.out hb)
  replace HK := Lib.hid (below_step HK.out hb)
  clear hb
  have a0 : w16.cell? ⟨w.heap.size, 0, none⟩ = some (.slice ad s.D.length cd) := by rw [cell_of_row _ _ 0 _ _ _ RA.out]; rfl
  have a1 : w16.cell? ⟨w.heap.size, 1, none⟩ = some (.int .i64 s.r) := by rw [cell_of_row _ _ 1 _ _ _ RA.out]; rfl
  have a2 : w16.cell? ⟨w.heap.size, 2, none⟩ = some (.int .i64 s.b) := by rw [cell_of_row _ _ 2 _ _ _ RA.out]; rfl
  have a3 : w16.cell? ⟨w.heap.size, 3, none⟩ = some (.int .i64 s.a) := by rw [cell_of_row _ _ 3 _ _ _ RA.out]; rfl
  have a4 : w16.cell? ⟨w.heap.size, 4, none⟩ = some (.slice ac s.C.length cc) := by rw [cell_of_row _ _ 4 _ _ _ RA.out]; rfl
  have a5 : w16.cell? ⟨w.heap.size, 5, none⟩ = some (.slice aq nq cq) := by rw [cell_of_row _ _ 5 _ _ _ RA.out]; rfl
  have a6 : w16.cell? ⟨w.heap.size, 6, none⟩ = some (.bool s.z) := by rw [cell_of_row _ _ 6 _ _ _ RA.out]; rfl
  go_wp2_with fail
  clear a0 a1 a2 a3 a4 a5 a6
  refine (laws_toSession s _ _ (HV.out.kept HW.out) HB.out).mono ?_
  rintro e w17 ⟨v17, rfl, hW17, hb⟩
  have z17 := hb.size
  replace RA := Lib.hid ((hb.block _ LA).trans RA.out)
  replace LA := Nat.lt_of_lt_of_le LA hb.size
  replace RB := Lib.hid ((hb.block _ LB).trans RB.out)
  replace LB := Nat.lt_of_lt_of_le LB hb.size
  replace RX := Lib.hid ((hb.block _ LX).trans RX.out)
  replace LX := Nat.lt_of_lt_of_le LX hb.size
  replace RG := Lib.hid ((hb.block _ LG).trans RG.out)
  replace LG := Nat.lt_of_lt_of_le LG hb.size
  replace HG := Lib.hid (HG.out.kept hb)
  replace HO := Lib.hid (HO.out.kept hb)
  replace HW := Lib.hid (below_step HW.out hb)
  replace HK := Lib.hid (below_step HK.out hb)
  clear hb
  go_wp2_with fail
  refine (HIMPL.out _ _ hW17.read).mono ?_
  rintro e w18 ⟨X8, ad8, ac8, aq8, cd8, cc8, cq8, nq8, af8, nf8, cf8, rfl, hW18, hO18, _, _, hb⟩
  have z18 := hb.size
  replace RA := Lib.hid ((hb.block _ LA).trans RA.out)
  replace LA := Nat.lt_of_lt_of_le LA hb.size
  replace RB := Lib.hid ((hb.block _ LB).trans RB.out)
  replace LB := Nat.lt_of_lt_of_le LB hb.size
  replace RX := Lib.hid ((hb.block _ LX).trans RX.out)
  replace LX := Nat.lt_of_lt_of_le LX hb.size
  replace RG := Lib.hid ((hb.block _ LG).trans RG.out)
  replace LG := Nat.lt_of_lt_of_le LG hb.size
  replace HG := Lib.hid (HG.out.kept hb)
  replace HO := Lib.hid (HO.out.kept hb)
  replace HW := Lib.hid (below_step HW.out hb)
  replace HK := Lib.hid (below_step HK.out hb)
  have HH := Lib.hid hW18
  have HO8 := Lib.hid hO18
  have hnf8 : nf8 = nf5 := by have h1 := hO18.len; have h2 := HL3.out; omega
  subst hnf8
  clear hb hW18 hO18 hW17
  have b0 : w18.cell? ⟨w3.heap.size, 0, none⟩ = some (.slice ad3 d.D.length cd3) := by rw [cell_of_row _ _ 0 _ _ _ RB.out]; rfl
  have b1 : w18.cell? ⟨w3.heap.size, 1, none⟩ = some (.int .i64 d.r) := by rw [cell_of_row _ _ 1 _ _ _ RB.out]; rfl
  have b2 : w18.cell? ⟨w3.heap.size, 2, none⟩ = some (.int .i64 d.b) := by rw [cell_of_row _ _ 2 _ _ _ RB.out]; rfl
  have b3 : w18.cell? ⟨w3.heap.size, 3, none⟩ = some (.int .i64 d.a) := by rw [cell_of_row _ _ 3 _ _ _ RB.out]; rfl
  have b4 : w18.cell? ⟨w3.heap.size, 4, none⟩ = some (.slice ac3 d.C.length cc3) := by rw [cell_of_row _ _ 4 _ _ _ RB.out]; rfl
  have b5 : w18.cell? ⟨w3.heap.size, 5, none⟩ = some (.slice aq3 nq3 cq3) := by rw [cell_of_row _ _ 5 _ _ _ RB.out]; rfl
  have b6 : w18.cell? ⟨w3.heap.size, 6, none⟩ = some (.bool d.z) := by rw [cell_of_row _ _ 6 _ _ _ RB.out]; rfl
  go_wp2_with fail
  clear b0 b1 b2 b3 b4 b5 b6
  have hbN : Below w18.heap.size w18 (w18.alloc (.cells #[.slice ad8 d.D.length cd8, .int .i64 d.r, .int .i64 d.b, .int .i64 d.a, .slice ac8 d.C.length cc8, .slice aq8 nq8 cq8, .bool d.z] 49)) := (Below.refl _ _).alloc (Nat.le_refl _) _
  have RH := Lib.hid (show (w18.alloc (.cells #[.slice ad8 d.D.length cd8, .int .i64 d.r, .int .i64 d.b, .int .i64 d.a, .slice ac8 d.C.length cc8, .slice aq8 nq8 cq8, .bool d.z] 49)).heap[w18.heap.size]? = some (.cells #[.slice ad8 d.D.length cd8, .int .i64 d.r, .int .i64 d.b, .int .i64 d.a, .slice ac8 d.C.length cc8, .slice aq8 nq8 cq8, .bool d.z] 49 (0, 0)) from heap_alloc_new _ _)
  have LH : w18.heap.size < (w18.alloc (.cells #[.slice ad8 d.D.length cd8, .int .i64 d.r, .int .i64 d.b, .int .i64 d.a, .slice ac8 d.C.length cc8, .slice aq8 nq8 cq8, .bool d.z] 49)).heap.size := by simp
  have SH := LH
  have z19 := hbN.size
  replace RA := Lib.hid ((hbN.block _ LA).trans RA.out)
  replace LA := Nat.lt_of_lt_of_le LA hbN.size
  replace RB := Lib.hid ((hbN.block _ LB).trans RB.out)
  replace LB := Nat.lt_of_lt_of_le LB hbN.size
  replace RX := Lib.hid ((hbN.block _ LX).trans RX.out)
  replace LX := Nat.lt_of_lt_of_le LX hbN.size
  replace RG := Lib.hid ((hbN.block _ LG).trans RG.out)
  replace LG := Nat.lt_of_lt_of_le LG hbN.size
  replace HG := Lib.hid (HG.out.kept hbN)
  replace HO := Lib.hid (HO.out.kept hbN)
  replace HH := Lib.hid (HH.out.kept hbN)
  replace HO8 := Lib.hid (HO8.out.kept hbN)
  replace HW := Lib.hid (below_step HW.out hbN)
  replace HK := Lib.hid (below_step HK.out hbN)
  clear hbN
  generalize (w18.alloc (.cells #[.slice ad8 d.D.length cd8, .int .i64 d.r, .int .i64 d.b, .int .i64 d.a, .slice ac8 d.C.length cc8, .slice aq8 nq8 cq8, .bool d.z] 49)) = w18b at *
  refine (laws_eqSession d _ _ _ HH.out.read (H3.out.kept HK.out) HBD.out).mono ?_
  rintro e w19 ⟨rfl, hb⟩
  have z20 := hb.size
  replace RA := Lib.hid ((hb.block _ LA).trans RA.out)
  replace LA := Nat.lt_of_lt_of_le LA hb.size
  replace RB := Lib.hid ((hb.block _ LB).trans RB.out)
  replace LB := Nat.lt_of_lt_of_le LB hb.size
  replace RX := Lib.hid ((hb.block _ LX).trans RX.out)
  replace LX := Nat.lt_of_lt_of_le LX hb.size
  replace RG := Lib.hid ((hb.block _ LG).trans RG.out)
  replace LG := Nat.lt_of_lt_of_le LG hb.size
  replace RH := Lib.hid ((hb.block _ LH).trans RH.out)
  replace LH := Nat.lt_of_lt_of_le LH hb.size
  replace HG := Lib.hid (HG.out.kept hb)
  replace HO := Lib.hid (HO.out.kept hb)
  replace HH := Lib.hid (HH.out.kept hb)
  replace HO8 := Lib.hid (HO8.out.kept hb)
  replace HW := Lib.hid (below_step HW.out hb)
  replace HK := Lib.hid (below_step HK.out hb)
  clear hb
  go_wp2_with fail
  refine (laws_eqRecS Q _ _ _ _ _ _ HO8.out.len HO8.out.ints (I3.out.kept HK.out) (by omega)).mono ?_
  rintro e w20 ⟨rfl, hb⟩
  have z21 := hb.size
  replace RA := Lib.hid ((hb.block _ LA).trans RA.out)
  replace LA := Nat.lt_of_lt_of_le LA hb.size
  replace RB := Lib.hid ((hb.block _ LB).trans RB.out)
  replace LB := Nat.lt_of_lt_of_le LB hb.size
  replace RX := Lib.hid ((hb.block _ LX).trans RX.out)
  replace LX := Nat.lt_of_lt_of_le LX hb.size
  replace RG := Lib.hid ((hb.block _ LG).trans RG.out)
  replace LG := Nat.lt_of_lt_of_le LG hb.size
  replace RH := Lib.hid ((hb.block _ LH).trans RH.out)
  replace LH := Nat.lt_of_lt_of_le LH hb.size
  replace HG := Lib.hid (HG.out.kept hb)
  replace HO := Lib.hid (HO.out.kept hb)
  replace HH := Lib.hid (HH.out.kept hb)
  replace HO8 := Lib.hid (HO8.out.kept hb)
  replace HW := Lib.hid (below_step HW.out hb)
  replace HK := Lib.hid (below_step HK.out hb)
  clear hb
  have g0 : w20.cell? ⟨w5.heap.size, 0, none⟩ = some (.slice ad5 d.D.length cd5) := by rw [cell_of_row _ _ 0 _ _ _ RG.out]; rfl
  have g1 : w20.cell? ⟨w5.heap.size, 1, none⟩ = some (.int .i64 d.r) := by rw [cell_of_row _ _ 1 _ _ _ RG.out]; rfl
  have g2 : w20.cell? ⟨w5.heap.size, 2, none⟩ = some (.int .i64 d.b) := by rw [cell_of_row _ _ 2 _ _ _ RG.out]; rfl
  have g3 : w20.cell? ⟨w5.heap.size, 3, none⟩ = some (.int .i64 d.a) := by rw [cell_of_row _ _ 3 _ _ _ RG.out]; rfl
  have g4 : w20.cell? ⟨w5.heap.size, 4, none⟩ = some (.slice ac5 d.C.length cc5) := by rw [cell_of_row _ _ 4 _ _ _ RG.out]; rfl
  have g5 : w20.cell? ⟨w5.heap.size, 5, none⟩ = some (.slice aq5 nq5 cq5) := by rw [cell_of_row _ _ 5 _ _ _ RG.out]; rfl
  have g6 : w20.cell? ⟨w5.heap.size, 6, none⟩ = some (.bool d.z) := by rw [cell_of_row _ _ 6 _ _ _ RG.out]; rfl
  go_wp2_with fail
  clear g0 g1 g2 g3 g4 g5 g6
  refine (laws_heldSession d _ _ _ HG.out.read HBD.out HSD.out (by omega) (by omega)).mono ?_
  rintro e w21 ⟨rfl, hb⟩
  rw [HN.out]
  have z22 := hb.size
  replace RA := Lib.hid ((hb.block _ LA).trans RA.out)
  replace LA := Nat.lt_of_lt_of_le LA hb.size
  replace RB := Lib.hid ((hb.block _ LB).trans RB.out)
  replace LB := Nat.lt_of_lt_of_le LB hb.size
  replace RX := Lib.hid ((hb.block _ LX).trans RX.out)
  replace LX := Nat.lt_of_lt_of_le LX hb.size
  replace RG := Lib.hid ((hb.block _ LG).trans RG.out)
  replace LG := Nat.lt_of_lt_of_le LG hb.size
  replace RH := Lib.hid ((hb.block _ LH).trans RH.out)
  replace LH := Nat.lt_of_lt_of_le LH hb.size
  replace HG := Lib.hid (HG.out.kept hb)
  replace HO := Lib.hid (HO.out.kept hb)
  replace HH := Lib.hid (HH.out.kept hb)
  replace HO8 := Lib.hid (HO8.out.kept hb)
  replace HW := Lib.hid (below_step HW.out hb)
  replace HK := Lib.hid (below_step HK.out hb)
  clear hb
  go_wp2_with fail
  refine (laws_heldRecS M _ _ _ _ _ HO.out.len HO.out.ints HU.out (by omega) (by omega) (by omega)).mono ?_
  rintro e w22 ⟨rfl, hb⟩
  have z23 := hb.size
  replace RA := Lib.hid ((hb.block _ LA).trans RA.out)
  replace LA := Nat.lt_of_lt_of_le LA hb.size
  replace RB := Lib.hid ((hb.block _ LB).trans RB.out)
  replace LB := Nat.lt_of_lt_of_le LB hb.size
  replace RX := Lib.hid ((hb.block _ LX).trans RX.out)
  replace LX := Nat.lt_of_lt_of_le LX hb.size
  replace RG := Lib.hid ((hb.block _ LG).trans RG.out)
  replace LG := Nat.lt_of_lt_of_le LG hb.size
  replace RH := Lib.hid ((hb.block _ LH).trans RH.out)
  replace LH := Nat.lt_of_lt_of_le LH hb.size
  replace HG := Lib.hid (HG.out.kept hb)
  replace HO := Lib.hid (HO.out.kept hb)
  replace HH := Lib.hid (HH.out.kept hb)
  replace HO8 := Lib.hid (HO8.out.kept hb)
  replace HW := Lib.hid (below_step HW.out hb)
  replace HK := Lib.hid (below_step HK.out hb)
  clear hb
  go_wp2_with fail
  go_ret
  exact ⟨rfl, HW.out⟩
end Go.Proofs.Ytodmohepgmhipaa

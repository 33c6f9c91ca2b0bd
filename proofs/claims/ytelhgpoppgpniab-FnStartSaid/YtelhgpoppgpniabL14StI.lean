/-
  Chapter 14: StartOf, in the program.
-/
import Derived.Test.YtelhgpoppgpniabStartB
import Derived.Test.YtelhgpoppgpniabRevB
import Derived.Test.YtelhgpoppgpniabL2Pat
import Derived.Deep.RegionLaw
import Derived.ControlIn
import Derived.Shelf.RegionOpenPlain
import Derived.Deep.Cut
namespace Go.Proofs.Ytelhgpoppgpniab
open Go Go.RowKit Go.Shelf
set_option linter.unusedVariables false
set_option maxRecDepth 100000
attribute [local go_sem] Oper.semAt_some
theorem alloc_box (W : World) (v : Value) (T : TypeId) : (W.alloc (.cells #[v] T)).cell? ⟨W.heap.size, 0, none⟩ = some v := by
  rw [cell_of_row _ _ 0 _ _ _ (World.alloc_heap_new W _)]; rfl
theorem alloc_box_frozen (W : World) (v : Value) (T : TypeId) : (W.alloc (.cells #[v] T)).frozen? ⟨W.heap.size, 0, none⟩ = false := frozen_of_row _ _ 0 _ _ (World.alloc_heap_new W _)
theorem alloc_set (W : World) (v u : Value) (T : TypeId) : ((W.alloc (.cells #[v] T)).setCell ⟨W.heap.size, 0, none⟩ u).cell? ⟨W.heap.size, 0, none⟩ = some u := World.cell?_setCell_same' _ _ _ (by rw [alloc_box]; rfl)
theorem alloc_set_frozen (W : World) (v u : Value) (T : TypeId) : ((W.alloc (.cells #[v] T)).setCell ⟨W.heap.size, 0, none⟩ u).frozen? ⟨W.heap.size, 0, none⟩ = false := by rw [World.frozen?_setCell]; exact alloc_box_frozen W v T
theorem alloc_box_drew (W : World) (v : Value) (T : TypeId) : (W.alloc (.cells #[v] T)).drew.cell? ⟨W.heap.size, 0, none⟩ = some v :=
  (World.cell?_of_block (w := W.alloc (.cells #[v] T)) rfl).trans (alloc_box W v T)
theorem alloc_box_frozen_drew (W : World) (v : Value) (T : TypeId) : (W.alloc (.cells #[v] T)).drew.frozen? ⟨W.heap.size, 0, none⟩ = false :=
  (World.frozen?_of_block (w := W.alloc (.cells #[v] T)) rfl).trans (alloc_box_frozen W v T)
/-- a way that neither panics nor leaves: whatever is asked of those -/
theorem wp_calm {P : Program} {c : Code} {K : Act → World → Prop} {Q : Exit → Act → World → Prop} {a : Act} {w : World} (h : c.wp P (Exit.then K (fun _ _ _ => False)) a w) : c.wp P (Exit.then K Q) a w :=
  Code.wp_mono (fun e a w h => by
    cases e
    case normal => exact h
    all_goals exact False.elim h) h
set_option maxHeartbeats 4000000 in
theorem impl_startOf_yes (s : ByteArray) (K : Int) (f : Bool) (r : ByteArray) (en : Nat) (w : World) (hp : patOk s K = true) (hr : r.size ≤ 200) (he : en ≤ r.size) :
    Calls Try.prog 20 #[.agg #[.string s, .int .i64 K, .bool f], .string r, .int .i64 (en : Int)] w fun e w' => e = .returned (.tuple #[.int .i64 (startTo s r f en (en + 1)).1, .int .i64 (startTo s r f en (en + 1)).2]) ∧ Below w.heap.size w w' := by
  obtain ⟨p1, p2, p3, p4⟩ := (patOk_iff s K).1 hp
  have HP := Lib.hid hp
  have HB := Lib.hid (startTo_bnd s r f en (by omega) he hr)
  have d2 : decide ((200 : Int) < (r.size : Int)) = false := by simp; omega
  have d2n : decide (200 < r.size) = false := by simp; omega
  have d3 : decide ((en : Int) < 0) = false := by simp
  have d4 : decide ((r.size : Int) < (en : Int)) = false := by simp; omega
  have d4n : decide (r.size < en) = false := by simp; omega
  have d5 : (0 : Int) ≤ (en : Int) := by omega
  have d6 : (en : Int) ≤ (r.size : Int) := by omega
  obtain ⟨R, hR⟩ : ∃ R, r.extract 0 en = R := ⟨_, rfl⟩
  have hRz : R.size = en := by rw [← hR, extract_len r 0 en he]; omega
  have HR := Lib.hid hRz
  have hR2 : R.size ≤ 200 := by omega
  clear hp hRz
  refine (callsIn_wide (n := 6)).1 ?_
  refine callsIn_of_wp_marks Try.func20 rfl trivial ?_ rfl
  simp only [Try.ntmps20, List.size_toArray, List.length_cons, List.length_nil, Nat.reduceAdd, Nat.reduceSub, Array.replicate_succ, Array.replicate_zero, List.push_toArray, List.append_toArray, List.nil_append, List.cons_append]
  refine wpIn_wide.2 ?_
  go_wp2_with fail
  have hbx : Below w.heap.size w ((w.alloc (.cells #[.string s, .int .i64 K, .bool f] 34)).alloc (.cells #[.int .i64 (en : Int)] 2)) := (by repeat (first | exact Below.refl _ _ | assumption | (refine Below.drew ?_) | (refine below_drewN ?_ _) | (refine Below.alloc ?_ (by first | omega | (simp; done) | (simp; omega)) _) | (refine Below.setCell ?_ (by first | omega | (simp; done) | (simp; omega)) _)))
  have q0 : ((w.alloc (.cells #[.string s, .int .i64 K, .bool f] 34)).alloc (.cells #[.int .i64 (en : Int)] 2)).cell? ⟨w.heap.size, 0, none⟩ = some (.string s) := by go_simp
  have q2 : ((w.alloc (.cells #[.string s, .int .i64 K, .bool f] 34)).alloc (.cells #[.int .i64 (en : Int)] 2)).cell? ⟨w.heap.size, 2, none⟩ = some (.bool f) := by go_simp
  have q1 : ((w.alloc (.cells #[.string s, .int .i64 K, .bool f] 34)).alloc (.cells #[.int .i64 (en : Int)] 2)).cell? ⟨w.heap.size, 1, none⟩ = some (.int .i64 K) := by go_simp
  have q3 : ((w.alloc (.cells #[.string s, .int .i64 K, .bool f] 34)).alloc (.cells #[.int .i64 (en : Int)] 2)).cell? ⟨w.heap.size + 1, 0, none⟩ = some (.int .i64 (en : Int)) := by go_simp
  have hsz : ((w.alloc (.cells #[.string s, .int .i64 K, .bool f] 34)).alloc (.cells #[.int .i64 (en : Int)] 2)).heap.size = w.heap.size + 2 := by simp
  generalize ((w.alloc (.cells #[.string s, .int .i64 K, .bool f] 34)).alloc (.cells #[.int .i64 (en : Int)] 2)) = V at *
  refine (impl_patternOk s K f _ (by omega)).mono ?_
  rintro e w1 ⟨rfl, hb1⟩
  rw [HP.out]
  obtain ⟨bP, hP⟩ : ∃ b, b = w.heap.size := ⟨_, rfl⟩
  obtain ⟨bE, hE⟩ : ∃ b, b = w.heap.size + 1 := ⟨_, rfl⟩
  rw [← hP] at q0 q1 q2
  rw [← hE] at q3
  rw [← hE, ← hP]
  have a0 := (hb1.cell (p := ⟨bP, 0, none⟩) (by show bP < _; omega)).trans q0
  have a1 := (hb1.cell (p := ⟨bP, 1, none⟩) (by show bP < _; omega)).trans q1
  have a2 := (hb1.cell (p := ⟨bP, 2, none⟩) (by show bP < _; omega)).trans q2
  have a3 := (hb1.cell (p := ⟨bE, 0, none⟩) (by show bE < _; omega)).trans q3
  have hB1 := hbx.trans (hb1.mono hbx.size)
  have hs1 := hb1.size
  have lP : bP < w1.heap.size := by omega
  have lE : bE < w1.heap.size := by omega
  have hPE : ¬ bP = bE := by omega
  have uP : w.heap.size ≤ bP := by omega
  have uE : w.heap.size ≤ bE := by omega
  clear q0 q1 q2 q3 hb1 hbx hsz hs1 hP hE
  go_wp2_with fail
  go_cut [8, 9] from 40 (fun x y wr => ∃ bW : Nat, x = .pointer (some ⟨bW, 0, none⟩) ∧ y = .string (backS R) ∧ wr.cell? ⟨bW, 0, none⟩ = some (.string (backS s)) ∧ wr.frozen? ⟨bW, 0, none⟩ = false ∧ wr.cell? ⟨bP, 2, none⟩ = some (.bool f) ∧ wr.cell? ⟨bE, 0, none⟩ = some (.int .i64 (en : Int)) ∧ bW < wr.heap.size ∧ w1.heap.size ≤ bW ∧ Below w1.heap.size w1 wr)
  case first =>
    have b1 : Below w1.heap.size w1 w1 := Below.refl _ _
    have H2 := Lib.hid a2; have H3 := Lib.hid a3
    refine wp_calm ?_
    go_region_law ((go_simp; go_at_call 62; first
      | (with_reducible refine (impl_reversed s _ (by omega)).mono ?_; rintro e wA ⟨rfl, hbA⟩; have hA : Below w1.heap.size w1 wA := below_step (by repeat (first | exact Below.refl _ _ | assumption | (refine Below.drew ?_) | (refine below_drewN ?_ _) | (refine Below.alloc ?_ (by first | omega | (simp; done) | (simp; omega)) _) | (refine Below.setCell ?_ (by first | omega | (simp; done) | (simp; omega)) _))) hbA; have a2 := (hA.cell (p := ⟨bP, 2, none⟩) lP).trans H2.out; have a3 := (hA.cell (p := ⟨bE, 0, none⟩) lE).trans H3.out; have hAz := hA.size; have lPA : bP < wA.heap.size := (by omega); have lEA : bE < wA.heap.size := (by omega); obtain ⟨hcA, hfA⟩ := bcell hbA; (try simp only [World.size_alloc, heap_drew] at hcA hfA); have lW := hbA.size; (try simp only [World.size_alloc, heap_drew] at lW); (try have eW0 := (hcA w1.heap.size 0 (Nat.lt_succ_self _)).trans (alloc_box_drew w1 _ _)); (try have fW0 := (hfA w1.heap.size 0 (Nat.lt_succ_self _)).trans (alloc_box_frozen_drew w1 _ _)))
      | (with_reducible refine (impl_reversed R _ (by omega)).mono ?_; rintro e wB ⟨rfl, hbB⟩; have hB : Below w1.heap.size w1 wB := below_step (by repeat (first | exact Below.refl _ _ | assumption | (refine Below.drew ?_) | (refine below_drewN ?_ _) | (refine Below.alloc ?_ (by first | omega | (simp; done) | (simp; omega)) _) | (refine Below.setCell ?_ (by first | omega | (simp; done) | (simp; omega)) _))) hbB; have a2 := (hB.cell (p := ⟨bP, 2, none⟩) lP).trans H2.out; have a3 := (hB.cell (p := ⟨bE, 0, none⟩) lE).trans H3.out; have hBz := hB.size; have lPB : bP < wB.heap.size := (by omega); have lEB : bE < wB.heap.size := (by omega); obtain ⟨hcB, hfB⟩ := bcell hbB; (try simp only [World.size_alloc] at hcB hfB); (try have eW1 := (hcB wA.heap.size 0 (Nat.lt_succ_self _)).trans (alloc_box wA _ _)); (try have fW1 := (hfB wA.heap.size 0 (Nat.lt_succ_self _)).trans (alloc_box_frozen wA _ _)); (try have eW2 := (hcB w1.heap.size 0 (Nat.lt_of_succ_le lW)).trans eW0); (try have fW2 := (hfB w1.heap.size 0 (Nat.lt_of_succ_le lW)).trans fW0))))
    all_goals
      go_wp2_with fail
      go_meet
      case rel =>
        refine ⟨_, rfl, rfl, ?_, ?_, ?_, ?_, ?_, ?_, ?_⟩
        · first | (go_simp; done) | exact alloc_set _ _ _ _ | exact World.cell?_setCell_same' _ _ _ (by first | assumption | (rw [eW1]; rfl) | (rw [eW2]; rfl))
        · first | (go_simp; done) | exact alloc_set_frozen _ _ _ _
        · first | (go_simp; done) | assumption
        · first | (go_simp; done) | assumption
        · have hz9 := hbB.size
          (try simp only [World.size_alloc] at hz9)
          simp [World.setCell]
          try omega
        · omega
        · exact (by repeat (first | exact Below.refl _ _ | assumption | (refine Below.drew ?_) | (refine below_drewN ?_ _) | (refine Below.alloc ?_ (by first | omega | (simp; done) | (simp; omega)) _) | (refine Below.setCell ?_ (by first | omega | (simp; done) | (simp; omega)) _)))
  case rest =>
    obtain ⟨bW, rfl, rfl, cW, fW, cF, cE, lW, uW, hBc⟩ := hcut
    have zA : (backS s).size = s.size := backS_size s
    have hBs := hBc.size
    have lEc : bE < wc.heap.size := by omega
    have lPc : bP < wc.heap.size := by omega
    clear a0 a1 a2 a3
    have zB : (backS R).size = en := by rw [backS_size, HR.out]
    go_upto_if 41 with (fail)
    go_cut [9] from 42 (fun y wr => y = .string (foldIf f (backS R)) ∧ wr.cell? ⟨bW, 0, none⟩ = some (.string (foldIf f (backS s))) ∧ wr.cell? ⟨bE, 0, none⟩ = some (.int .i64 (en : Int)) ∧ Below w1.heap.size w1 wr ∧ wc.heap.size ≤ wr.heap.size)
    case first =>
      cases f
      · go_wp2_with fail
        go_meet
        case rel => exact ⟨rfl, cW, cE, hBc, Nat.le_refl _⟩
      · have HA : Hid ((foldIf true (backS s)) = foldS (backS s)) := Lib.hid rfl
        have HBB : Hid ((foldIf true (backS R)) = foldS (backS R)) := Lib.hid rfl
        go_wp2_with fail
        refine (impl_folded (backS s) _ (by omega)).mono ?_
        rintro e wA ⟨rfl, hbA⟩
        have eA := (hbA.cell (p := ⟨bE, 0, none⟩) lEc).trans cE
        have kA := (hbA.cell (p := ⟨bW, 0, none⟩) lW).trans cW
        have fA := (hbA.frozen (p := ⟨bW, 0, none⟩) lW).trans fW
        have zAA := hbA.size
        go_wp2_with fail
        refine (impl_folded (backS R) _ (by omega)).mono ?_
        rintro e wB ⟨rfl, hbB⟩
        have eB := (hbB.cell (p := ⟨bE, 0, none⟩) (by show bE < _; omega)).trans eA
        have kB := (hbB.cell (p := ⟨bW, 0, none⟩) (by show bW < _; omega)).trans kA
        have fB := (hbB.frozen (p := ⟨bW, 0, none⟩) (by show bW < _; omega)).trans fA
        have zBB := hbB.size
        have hnE : ¬ bE = bW := by omega
        have hnE2 : ¬ bW = bE := by omega
        have hBB := (hBc.trans (hbA.mono hBc.size)).trans (hbB.mono (by omega))
        go_wp2_with fail
        go_meet
        case rel => exact ⟨rfl, World.cell?_setCell_same' _ _ _ (by rw [kB]; rfl), by go_simp, hBB.setCell uW _, by simp [World.setCell]; omega⟩
    case rest =>
      obtain ⟨rfl, cW2, cE2, hBc2, hz2⟩ := hcut
      have zA2 : (foldIf f (backS s)).size = s.size := by rw [foldIf_size]; exact zA
      have zB2 : (foldIf f (backS R)).size = en := by rw [foldIf_size]; exact zB
      have HCOL := Lib.hid (fun k (hk : k ≤ en) => backD_col s r f en k (by omega) he hr hk)
      rw [hR] at HCOL
      obtain ⟨A, hA⟩ : ∃ A, foldIf f (backS s) = A := ⟨_, rfl⟩
      obtain ⟨B, hBq⟩ : ∃ B, foldIf f (backS R) = B := ⟨_, rfl⟩
      rw [hA] at cW2 zA2 HCOL
      rw [hBq] at zB2 HCOL ⊢
      have hWc : bW < wc.heap.size := by omega
      have hEc : bE < wc.heap.size := by omega
      have hsc := hBc2.size
      have zA3 : (A.size : Int) = (s.size : Int) := by omega
      clear hA hBq cW cE cF fW hBc zA zB lW lEc lPc hz2 hBs lP lE uP hR
      go_wp2_with fail
      go_cut [10, 11] from 46 (fun x y wr => ∃ bS bL : Nat, x = .pointer (some ⟨bS, 0, none⟩) ∧ y = .pointer (some ⟨bL, 0, none⟩) ∧ wr.cell? ⟨bS, 0, none⟩ = some (.int .i64 (en : Int)) ∧ wr.cell? ⟨bL, 0, none⟩ = some (.int .i64 (s.size : Int)) ∧ wr.frozen? ⟨bS, 0, none⟩ = false ∧ wr.frozen? ⟨bL, 0, none⟩ = false ∧ wr.cell? ⟨bW, 0, none⟩ = some (.string A) ∧ wr.cell? ⟨bE, 0, none⟩ = some (.int .i64 (en : Int)) ∧ wc.heap.size ≤ bS ∧ wc.heap.size ≤ bL ∧ ¬ bS = bL ∧ bS < wr.heap.size ∧ bL < wr.heap.size ∧ Below w1.heap.size w1 wr)
      case first =>
        go_region
        all_goals
          go_wp2_with fail
          go_meet
          case rel =>
            refine ⟨_, _, rfl, rfl, by go_simp, by go_simp, by go_simp, by go_simp, by go_simp, by go_simp, ?_, ?_, ?_, ?_, ?_, (by repeat (first | exact Below.refl _ _ | assumption | (refine Below.drew ?_) | (refine below_drewN ?_ _) | (refine Below.alloc ?_ (by first | omega | (simp; done) | (simp; omega)) _) | (refine Below.setCell ?_ (by first | omega | (simp; done) | (simp; omega)) _)))⟩
            · omega
            · omega
            · omega
            · simp; try omega
            · simp; try omega
      case rest =>
        obtain ⟨bS, bL, rfl, rfl, c10, c11, f10, f11, cW3, cE3, uS, uL, nSL, lS, lL, hB3⟩ := hcut
        go_wp2_with fail
        generalize wc = wr3 at *
        refine (impl_columns A B 1 _).mono ?_
        rintro e wd ⟨rfl, rfl⟩
        have hsW := hB3.size
        have hbc3 : Below w.heap.size w wr3 := hB1.trans (hB3.mono hB1.size)
        have lW3 : bW < wr3.heap.size := block_lt_of_cell cW3
        have lE3 : bE < wr3.heap.size := block_lt_of_cell cE3
        have nWS : ¬ bW = bS := by omega
        have nWL : ¬ bW = bL := by omega
        have nES : ¬ bE = bS := by omega
        have nEL : ¬ bE = bL := by omega
        have nLS : ¬ bL = bS := fun h => nSL h.symm
        obtain ⟨e1, e2, e3⟩ := heap_alloc3 wr3 (.cells #[.string A] 9) (.cells #[.string B] 9) (.cells #[.int .i64 1] 2)
        have hBV : Below wr3.heap.size wr3 (((wr3.alloc (.cells #[.string A] 9)).alloc (.cells #[.string B] 9)).alloc (.cells #[.int .i64 1] 2)) := (((Below.refl _ wr3).alloc (Nat.le_refl _) _).alloc (by simp) _).alloc (by simp; omega) _
        have hsz : (((wr3.alloc (.cells #[.string A] 9)).alloc (.cells #[.string B] 9)).alloc (.cells #[.int .i64 1] 2)).heap.size = wr3.heap.size + 3 := by simp
        have k2 : (((wr3.alloc (.cells #[.string A] 9)).alloc (.cells #[.string B] 9)).alloc (.cells #[.int .i64 1] 2)).cell? ⟨wr3.heap.size, 0, none⟩ = some (.string A) := by rw [cell_of_row _ _ 0 _ _ _ e1]; rfl
        have k3 : (((wr3.alloc (.cells #[.string A] 9)).alloc (.cells #[.string B] 9)).alloc (.cells #[.int .i64 1] 2)).cell? ⟨wr3.heap.size + 1, 0, none⟩ = some (.string B) := by rw [cell_of_row _ _ 0 _ _ _ e2]; rfl
        have k4 : (((wr3.alloc (.cells #[.string A] 9)).alloc (.cells #[.string B] 9)).alloc (.cells #[.int .i64 1] 2)).cell? ⟨wr3.heap.size + 2, 0, none⟩ = some (.int .i64 1) := by rw [cell_of_row _ _ 0 _ _ _ e3]; rfl
        generalize (((wr3.alloc (.cells #[.string A] 9)).alloc (.cells #[.string B] 9)).alloc (.cells #[.int .i64 1] 2)) = WR at *
        have m10 := (hBV.cell (p := ⟨bS, 0, none⟩) lS).trans c10
        have m11 := (hBV.cell (p := ⟨bL, 0, none⟩) lL).trans c11
        have g10 := (hBV.frozen (p := ⟨bS, 0, none⟩) lS).trans f10
        have g11 := (hBV.frozen (p := ⟨bL, 0, none⟩) lL).trans f11
        have mW := (hBV.cell (p := ⟨bW, 0, none⟩) lW3).trans cW3
        have mE := (hBV.cell (p := ⟨bE, 0, none⟩) lE3).trans cE3
        have hBW : Below w1.heap.size w1 WR := hB3.trans (hBV.mono hsW)
        have hVW : wr3.heap.size ≤ WR.heap.size := by omega
        have HSZ := Lib.hid hsz
        have zAs : A.size ≤ 200 := by omega
        have zBs : B.size ≤ 200 := by omega
        have hB1' := Lib.hid hB1
        clear e1 e2 e3 c10 c11 f10 f11 cW3 cE3 hsz hB3 cW2 cE2 hBc2 hsc hbc3 hB1
        have HZA := Lib.hid zA2
        clear zA2 zA3
        go_wp2_with fail
        refine wpIn_wide (n := 6).1 ?_
        refine range_law rfl (by omega) (gf := 95) (lb := #[boxV wr3.heap.size, boxV (wr3.heap.size + 1), boxV (wr3.heap.size + 2)]) rfl trivial (enters_of Try.func95 (by kernel_rfl) rfl)
          (columns_iter A B 1 wr3.heap.size (wr3.heap.size + 1) (wr3.heap.size + 2) _ (fun b => b < wr3.heap.size) WR zAs zBs (by decide) (by decide) k2 k3 k4 (by omega) (by omega) (by omega)) (fun x => rfl) (fun k x W l o o' h hl ho => handC_put _ _ _ k x W l o o' h hl ho)
          (fun k T W => (∀ b, T b ↔ b < wr3.heap.size) ∧ W.cell? ⟨bS, 0, none⟩ = some (.int .i64 (startTo s r f en k).1) ∧ W.cell? ⟨bL, 0, none⟩ = some (.int .i64 (startTo s r f en k).2) ∧ W.frozen? ⟨bS, 0, none⟩ = false ∧ W.frozen? ⟨bL, 0, none⟩ = false ∧ W.cell? ⟨bW, 0, none⟩ = some (.string A) ∧ W.cell? ⟨bE, 0, none⟩ = some (.int .i64 (en : Int)) ∧ Below w1.heap.size w1 W ∧ wr3.heap.size ≤ W.heap.size)
          ?hJ (fun b h => by omega) ⟨fun b => Iff.rfl, m10, m11, g10, g11, mW, mE, hBW, hVW⟩ ?a1 ?assign ?body ?done
        case assign =>
          intro l x W K hK
          unfold encC
          gi_wp2
          exact hK
        case hJ =>
          rintro k T A1 B1 ⟨hT, c1, c2, d1, d2, c3, c4, hb, hl⟩ hAB
          refine ⟨hT, (hAB.cell (p := ⟨bS, 0, none⟩) ((hT _).2 lS) (by show bS < _; omega)).trans c1, (hAB.cell (p := ⟨bL, 0, none⟩) ((hT _).2 lL) (by show bL < _; omega)).trans c2, (hAB.frozen (p := ⟨bS, 0, none⟩) ((hT _).2 lS) (by show bS < _; omega)).trans d1, (hAB.frozen (p := ⟨bL, 0, none⟩) ((hT _).2 lL) (by show bL < _; omega)).trans d2, (hAB.cell (p := ⟨bW, 0, none⟩) ((hT _).2 lW3) (by show bW < _; omega)).trans c3, (hAB.cell (p := ⟨bE, 0, none⟩) ((hT _).2 lE3) (by show bE < _; omega)).trans c4, hb.trans (hAB.below hb.size fun b h => (hT b).2 (by omega)), Nat.le_trans hl hAB.size⟩
        case body =>
          rintro l k T ⟨x1, g, cap⟩ W hk ⟨hT, c1, c2, d1, d2, c3, c4, hb, hl⟩ ⟨hx1, hcol⟩
          simp only at hx1
          subst hx1
          have hc := hcol A.size (by omega)
          have hy : colAt A B 1 x1 A.size = backD s r f en x1 := by rw [HZA.out]; exact HCOL.out x1 (by omega)
          rw [hy] at hc
          simp only at hc
          have hn1 : ((A.size : Nat) : Int) < ((A.size : Nat) : Int) + 1 := by omega
          have hbS : ¬ ¬ T bS := fun h => h ((hT bS).2 lS)
          have hbL : ¬ ¬ T bL := fun h => h ((hT bL).2 lL)
          have hdb := backD_bnd s r f en x1 (by omega) he hr
          have hyes := startTo_yes (s := s) (r := r) (f := f) (e := en) (k := x1)
          have hno := startTo_no (s := s) (r := r) (f := f) (e := en) (k := x1)
          have hsb := HB.out x1 (by omega)
          obtain ⟨d, hd⟩ : ∃ d, backD s r f en x1 = d := ⟨_, rfl⟩
          rw [hd] at hyes hno hdb hc
          obtain ⟨q, x, hbx⟩ : ∃ q x, startTo s r f en x1 = (q, x) := ⟨_, _, rfl⟩
          rw [hbx] at hyes hno c1 c2 hsb
          simp only at hyes hno c1 c2 hsb
          have hw : IntKind.i64.wrap ((en : Int) - (x1 : Int)) = (en : Int) - (x1 : Int) := by rw [IntKind.wrap_i64]; omega
          have lSW : bS < W.heap.size := block_lt_of_cell c1
          have lLW : bL < W.heap.size := block_lt_of_cell c2
          have HBX := Lib.hid hbx
          clear hcol hy hd hbx
          by_cases hdx : d < x
          · have HS := Lib.hid (hyes hdx)
            clear hyes hno
            gi_wp2
            refine ⟨T, ⟨hT, by rw [HS.out]; go_simp, by rw [HS.out]; go_simp, by go_simp, by go_simp, by go_simp, by go_simp, (hb.setCell (p := ⟨bS, 0, none⟩) (by show _ ≤ bS; omega) _).setCell (p := ⟨bL, 0, none⟩) (by show _ ≤ bL; omega) _, by simp [World.setCell]; omega⟩, ((On.refl _ W).setCell (p := ⟨bS, 0, none⟩) hbS _).setCell (p := ⟨bL, 0, none⟩) hbL _, fun b hb2 => ⟨.inl hb2, ?_⟩⟩
            have := (hT b).1 hb2; simp [World.setCell]; omega
          · have HS := Lib.hid (hno hdx)
            clear hyes hno
            gi_wp2
            refine ⟨T, ⟨hT, by rw [HS.out]; exact c1, by rw [HS.out]; exact c2, d1, d2, c3, c4, hb, hl⟩, On.refl _ W, fun b hb2 => ⟨.inl hb2, ?_⟩⟩
            have := (hT b).1 hb2; omega
        case done =>
          rintro D T W hD hTD ⟨hT, c1, c2, d1, d2, c3, c4, hb, hl⟩ hK
          rw [zB2] at c1 c2
          obtain ⟨q, x, hbx⟩ : ∃ q x, startTo s r f en (en + 1) = (q, x) := ⟨_, _, rfl⟩
          rw [hbx] at c1 c2
          simp only at c1 c2
          have HBX := Lib.hid hbx
          have HFIN := Lib.hid (hB1'.out.trans (hb.mono hB1'.out.size))
          have hwD : w.heap.size ≤ D := by have := hB1'.out.size; have := hb.size; omega
          clear hbx
          go_wp2_with fail
          go_quiet (fail)
          go_wp2
          refine ⟨by simp, .inl ⟨_, _, rfl, run_takeDeferred (show (W.drewN nq).heap[D]? = _ from hK), ?_⟩⟩
          exact ⟨.tuple #[.int .i64 q, .int .i64 x], by simp [results, Try.results20, go_sem], by rw [HBX.out], (below_drewN HFIN.out nq).trans (belowK_b (w := w) (Nat.le_refl _) (W.drewN nq) D _ _ hwD hK rfl rfl)⟩
set_option maxHeartbeats 2000000 in
theorem impl_startOf (s : ByteArray) (K : Int) (f : Bool) (r : ByteArray) (en : Int) (w : World) (hs : s.size ≤ 1048576) (hr : r.size ≤ 1048576) :
    Calls Try.prog 20 #[.agg #[.string s, .int .i64 K, .bool f], .string r, .int .i64 en] w fun e w' => e = .returned (.tuple #[.int .i64 (startS s K f r en).1, .int .i64 (startS s K f r en).2]) ∧ Below w.heap.size w w' := by
  by_cases h : patOk s K = true ∧ r.size ≤ 200 ∧ 0 ≤ en ∧ en ≤ r.size
  · obtain ⟨h1, h2, h3, h4⟩ := h
    obtain ⟨e, rfl⟩ : ∃ e : Nat, en = (e : Int) := ⟨en.toNat, by omega⟩
    rw [startS_yes h1 h2 (by omega)]
    exact impl_startOf_yes s K f r e w h1 h2 (by omega)
  · rw [startS_no h]
    cases hp : patOk s K
    · have HP := Lib.hid hp
      clear hp h
      go_enter Try.func20, Try.ntmps20
      go_wp2_with fail
      have hbx : Below w.heap.size w ((w.alloc (.cells #[.string s, .int .i64 K, .bool f] 34)).alloc (.cells #[.int .i64 en] 2)) := (by repeat (first | exact Below.refl _ _ | assumption | (refine Below.drew ?_) | (refine below_drewN ?_ _) | (refine Below.alloc ?_ (by first | omega | (simp; done) | (simp; omega)) _) | (refine Below.setCell ?_ (by first | omega | (simp; done) | (simp; omega)) _)))
      generalize ((w.alloc (.cells #[.string s, .int .i64 K, .bool f] 34)).alloc (.cells #[.int .i64 en] 2)) = V at *
      refine (impl_patternOk s K f _ (by omega)).mono ?_
      rintro e w1 ⟨rfl, hb1⟩
      rw [HP.out]
      have hB := hbx.trans (hb1.mono hbx.size)
      go_wp2
      refine bodyPost_ret (v := .tuple #[.int .i64 0, .int .i64 (-1)]) (by simp [results, Try.results20, go_sem]) rfl ⟨rfl, hB⟩
    · have HP := Lib.hid hp
      by_cases h2 : r.size ≤ 200
      · have d2 : decide ((200 : Int) < (r.size : Int)) = false := by simp; omega
        have d2n : decide (200 < r.size) = false := by simp; omega
        by_cases h3 : en < 0
        · have d3 : decide (en < 0) = true := by simp; omega
          clear hp h
          go_enter Try.func20, Try.ntmps20
          go_wp2_with fail
          have hbx : Below w.heap.size w ((w.alloc (.cells #[.string s, .int .i64 K, .bool f] 34)).alloc (.cells #[.int .i64 en] 2)) := (by repeat (first | exact Below.refl _ _ | assumption | (refine Below.drew ?_) | (refine below_drewN ?_ _) | (refine Below.alloc ?_ (by first | omega | (simp; done) | (simp; omega)) _) | (refine Below.setCell ?_ (by first | omega | (simp; done) | (simp; omega)) _)))
          have q3 : ((w.alloc (.cells #[.string s, .int .i64 K, .bool f] 34)).alloc (.cells #[.int .i64 en] 2)).cell? ⟨w.heap.size + 1, 0, none⟩ = some (.int .i64 en) := by go_simp
          have hsz : ((w.alloc (.cells #[.string s, .int .i64 K, .bool f] 34)).alloc (.cells #[.int .i64 en] 2)).heap.size = w.heap.size + 2 := by simp
          generalize ((w.alloc (.cells #[.string s, .int .i64 K, .bool f] 34)).alloc (.cells #[.int .i64 en] 2)) = V at *
          refine (impl_patternOk s K f _ (by omega)).mono ?_
          rintro e w1 ⟨rfl, hb1⟩
          rw [HP.out]
          have a3 := (hb1.cell (p := ⟨w.heap.size + 1, 0, none⟩) (by show w.heap.size + 1 < _; omega)).trans q3
          have hB := hbx.trans (hb1.mono hbx.size)
          go_wp2
          refine bodyPost_ret (v := .tuple #[.int .i64 0, .int .i64 (-1)]) (by simp [results, Try.results20, go_sem]) rfl ⟨rfl, hB⟩
        · have d3 : decide (en < 0) = false := by simp; omega
          have d4 : decide ((r.size : Int) < en) = true := by
            have : ¬ en ≤ (r.size : Int) := fun h4 => h ⟨hp, h2, by omega, h4⟩
            simp; omega
          clear hp h
          go_enter Try.func20, Try.ntmps20
          go_wp2_with fail
          have hbx : Below w.heap.size w ((w.alloc (.cells #[.string s, .int .i64 K, .bool f] 34)).alloc (.cells #[.int .i64 en] 2)) := (by repeat (first | exact Below.refl _ _ | assumption | (refine Below.drew ?_) | (refine below_drewN ?_ _) | (refine Below.alloc ?_ (by first | omega | (simp; done) | (simp; omega)) _) | (refine Below.setCell ?_ (by first | omega | (simp; done) | (simp; omega)) _)))
          have q3 : ((w.alloc (.cells #[.string s, .int .i64 K, .bool f] 34)).alloc (.cells #[.int .i64 en] 2)).cell? ⟨w.heap.size + 1, 0, none⟩ = some (.int .i64 en) := by go_simp
          have hsz : ((w.alloc (.cells #[.string s, .int .i64 K, .bool f] 34)).alloc (.cells #[.int .i64 en] 2)).heap.size = w.heap.size + 2 := by simp
          generalize ((w.alloc (.cells #[.string s, .int .i64 K, .bool f] 34)).alloc (.cells #[.int .i64 en] 2)) = V at *
          refine (impl_patternOk s K f _ (by omega)).mono ?_
          rintro e w1 ⟨rfl, hb1⟩
          rw [HP.out]
          have a3 := (hb1.cell (p := ⟨w.heap.size + 1, 0, none⟩) (by show w.heap.size + 1 < _; omega)).trans q3
          have hB := hbx.trans (hb1.mono hbx.size)
          go_wp2
          refine bodyPost_ret (v := .tuple #[.int .i64 0, .int .i64 (-1)]) (by simp [results, Try.results20, go_sem]) rfl ⟨rfl, hB⟩
      · have d2 : decide ((200 : Int) < (r.size : Int)) = true := by simp; omega
        have d2n : decide (200 < r.size) = true := by simp; omega
        clear hp h
        go_enter Try.func20, Try.ntmps20
        go_wp2_with fail
        have hbx : Below w.heap.size w ((w.alloc (.cells #[.string s, .int .i64 K, .bool f] 34)).alloc (.cells #[.int .i64 en] 2)) := (by repeat (first | exact Below.refl _ _ | assumption | (refine Below.drew ?_) | (refine below_drewN ?_ _) | (refine Below.alloc ?_ (by first | omega | (simp; done) | (simp; omega)) _) | (refine Below.setCell ?_ (by first | omega | (simp; done) | (simp; omega)) _)))
        generalize ((w.alloc (.cells #[.string s, .int .i64 K, .bool f] 34)).alloc (.cells #[.int .i64 en] 2)) = V at *
        refine (impl_patternOk s K f _ (by omega)).mono ?_
        rintro e w1 ⟨rfl, hb1⟩
        rw [HP.out]
        have hB := hbx.trans (hb1.mono hbx.size)
        go_wp2
        refine bodyPost_ret (v := .tuple #[.int .i64 0, .int .i64 (-1)]) (by simp [results, Try.results20, go_sem]) rfl ⟨rfl, hB⟩
end Go.Proofs.Ytelhgpoppgpniab

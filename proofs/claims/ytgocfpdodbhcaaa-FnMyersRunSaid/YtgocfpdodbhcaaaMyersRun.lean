/-
  FnMyersRun: the walk.
-/
import Derived.Test.YtgocfpdodbhcaaaL4Run
import Derived.Test.YtgocfpdodbhcaaaFoldedEnds
import Derived.Test.YtgocfpdodbhcaaaEndsPre
import Derived.StillTailTactics
namespace Go.Proofs.Ytgocfpdodbhcaaa
open Go.RowKit
set_option linter.unusedVariables false
set_option maxRecDepth 100000
theorem run_ends {s : ByteArray} {K : Int} {f : Bool} {r : ByteArray} (hp : patOk s K = true) (hr : r.size ≤ 200) : endsL s K f r = endF (lastD s r f) K (r.size + 1) := by
  unfold endsL; rw [hp]; simp [hr]
theorem patOk_of {s : ByteArray} {k : Int} {f v : Bool} (hs : s.size ≤ 9223372036854775807) (h : patOk s k = v) (w : World) :
    Calls Try.prog 38 #[.agg #[.string s, .int .i64 k, .bool f]] w fun e w' => e = .returned (.bool v) ∧ Below w.heap.size w w' :=
  (spec_patternOk s k f w hs).mono fun _ _ h2 => ⟨by rw [h2.1, h], h2.2⟩
theorem myersNew_of {s : ByteArray} {k : Int} {f : Bool} {v : Value} (hs : s.size ≤ 1048576) (h : myersNewV s k = v) (w : World) :
    Calls Try.prog 49 #[.agg #[.string s, .int .i64 k, .bool f]] w fun e w' => e = .returned v ∧ Below w.heap.size w w' :=
  (spec_myersNew s k f w hs).mono fun _ _ h2 => ⟨by rw [h2.1, h], h2.2⟩
theorem set3_far {X : World} {b r : Nat} (h : r ≠ b) (x y v : Value) : (((X.setCell ⟨b, 0, none⟩ x).setCell ⟨b, 1, none⟩ y).setCell ⟨b, 2, none⟩ v).heap[r]? = X.heap[r]? :=
  (Below.heap_setCell _ ⟨b, 2, none⟩ _ r h).trans ((Below.heap_setCell _ ⟨b, 1, none⟩ _ r h).trans (Below.heap_setCell _ ⟨b, 0, none⟩ _ r h))
theorem set3_row {X : World} {b : Nat} {c0 c1 c2 : Value} {t : TypeId} {fr : Nat × Nat} (h : X.heap[b]? = some (.cells #[c0, c1, c2] t fr)) (x y v : Value) : (((X.setCell ⟨b, 0, none⟩ x).setCell ⟨b, 1, none⟩ y).setCell ⟨b, 2, none⟩ v).heap[b]? = some (.cells #[x, y, v] t fr) := by
  have h1 := heap_setCell_mark X b 0 _ t fr x h
  have h2 := heap_setCell_mark _ b 1 _ t fr y h1
  have h3 := heap_setCell_mark _ b 2 _ t fr v h2
  rw [h3]; rfl
set_option maxHeartbeats 4000000 in
theorem law_FnMyersRun (a : Option Addr) (len cap : Nat) (z : List Int) (w : World) (hr : IsRow .u8 w a len cap z) :
    Calls Try.prog 9 #[.slice a len cap] w fun e w' => e = .returned (.bool true) ∧ Below w.heap.size w w' := by
  obtain ⟨i0, hi, hti0, hti1, hti2⟩ := info_parts end_info
  by_cases hl : len ≤ 1048576
  · have hbig : decide (1048576 < (len : Int)) = false := by simp; omega
    go_enter Try.func9, Try.ntmps9
    go_wp2_with (go_at_call 21; refine (laws_big _ _ _ _ (by omega)).mono ?_; rintro e w' ⟨rfl, rfl⟩)
    refine (drawEndsOf _ _ _ _ _ hr hl).mono ?_
    rintro e w1 ⟨s, k, f, t, rfl, hs, hk, ht, hb1⟩
    go_wp2_with fail
    have x0 := heap_alloc_new w1 (.cells #[.string s, .int .i64 k, .bool f] 31)
    have HB := hb1.alloc hb1.size (.cells #[.string s, .int .i64 k, .bool f] 31)
    have hBl : w1.heap.size < (w1.alloc (.cells #[.string s, .int .i64 k, .bool f] 31)).heap.size := by simp
    have hBw : w.heap.size ≤ w1.heap.size := hb1.size
    generalize (w1.alloc (.cells #[.string s, .int .i64 k, .bool f] 31)) = V at *
    generalize w1.heap.size = B at *
    have hs1 : s.size ≤ 1048576 := by omega
    have hs2 : s.size ≤ 9223372036854775807 := by omega
    obtain ⟨u, d, y, hv⟩ : ∃ u d y : Int, myersNewV s k = .agg #[.int .i64 u, .int .i64 d, .int .i64 y] := by
      unfold myersNewV myV; split
      · exact ⟨_, _, _, rfl⟩
      · exact ⟨_, _, _, rfl⟩
    have HV := Lib.hid hv
    clear hb1
    refine (impl_myersNew s k f _ hs1).mono ?_
    rintro e w2 ⟨rfl, hb2⟩
    rw [HV.out]
    have x0 := (hb2.block B hBl).trans x0
    have HB := HB.trans (hb2.mono HB.size)
    have hB2 : B < w2.heap.size := by have := hb2.size; omega
    clear hb2 hBl
    go_wp2_with fail
    have y0 := heap_alloc_new w2 (.cells #[.int .i64 u, .int .i64 d, .int .i64 y] 51)
    have x0 := (Below.heap_alloc w2 (.cells #[.int .i64 u, .int .i64 d, .int .i64 y] 51) B hB2).trans x0
    have HB := HB.alloc HB.size (.cells #[.int .i64 u, .int .i64 d, .int .i64 y] 51)
    have hGl : w2.heap.size < (w2.alloc (.cells #[.int .i64 u, .int .i64 d, .int .i64 y] 51)).heap.size := by simp
    generalize (w2.alloc (.cells #[.int .i64 u, .int .i64 d, .int .i64 y] 51)) = V2 at *
    generalize w2.heap.size = G at *
    have m0 : V2.cell? ⟨G, 0, none⟩ = some (.int .i64 u) := by rw [cell_of_row _ _ 0 _ _ _ y0]; rfl
    have m1 : V2.cell? ⟨G, 1, none⟩ = some (.int .i64 d) := by rw [cell_of_row _ _ 1 _ _ _ y0]; rfl
    have m2 : V2.cell? ⟨G, 2, none⟩ = some (.int .i64 y) := by rw [cell_of_row _ _ 2 _ _ _ y0]; rfl
    have n0 : V2.cell? ⟨B, 0, none⟩ = some (.string s) := by rw [cell_of_row _ _ 0 _ _ _ x0]; rfl
    have n1 : V2.cell? ⟨B, 1, none⟩ = some (.int .i64 k) := by rw [cell_of_row _ _ 1 _ _ _ x0]; rfl
    have n2 : V2.cell? ⟨B, 2, none⟩ = some (.bool f) := by rw [cell_of_row _ _ 2 _ _ _ x0]; rfl
    have c0 := cell_regrown m0
    have c1 := cell_regrown m1
    have c2 := cell_regrown m2
    have d0 := cell_regrown n0
    have d1 := cell_regrown n1
    have d2 := cell_regrown n2
    have HX0 := Lib.hid x0; have HY0 := Lib.hid y0
    have C1 := Lib.hid (fun W => myersNew_of (f := f) hs1 hv W)
    have ht200 : decide (200 < (t.size : Int)) = false := by simp; omega
    clear hv x0 y0 m0 m1 m2 n0 n1 n2
    cases hp : patOk s k
    · have C2 := Lib.hid (fun W => patOk_of (f := f) hs2 hp W)
      clear hp
      refine wp_region_quiet_below (by kernel_rfl) (by kernel_rfl) ?_
      repeat (go_big_quiet_step (first | (go_at_call 49; with_reducible exact Calls.regrown_of (C1.out _)) | (go_at_call 38; with_reducible exact Calls.regrown_of (C2.out _))))
      refine wpQuiet_nil ?_
      intro _ hw'
      obtain ⟨⟨dq, osq⟩, hw''⟩ := hw'
      subst hw''
      have hX := below_regrown V2 dq osq
      have HB := HB.trans (hX.mono HB.size)
      have e0 := cell_regrown (c0 dq osq)
      have e1 := cell_regrown (c1 dq osq)
      have e2 := cell_regrown (c2 dq osq)
      have f0 := cell_regrown (d0 dq osq)
      have f1 := cell_regrown (d1 dq osq)
      have f2 := cell_regrown (d2 dq osq)
      clear c0 c1 c2 d0 d1 d2 hX
      generalize Sort.grow (redrawn V2 dq) osq = W5 at *
      go_wp2_with fail
      refine wp_region_quiet_below (by kernel_rfl) (by kernel_rfl) ?_
      repeat (go_big_quiet_step (first | (go_at_call 49; with_reducible exact Calls.regrown_of (C1.out _)) | (go_at_call 38; with_reducible exact Calls.regrown_of (C2.out _))))
      refine wpQuiet_nil ?_
      intro _ hw'
      obtain ⟨⟨dq, osq⟩, hw''⟩ := hw'
      subst hw''
      go_wp2
      go_ret
      exact ⟨rfl, HB.trans ((below_regrown W5 _ _).mono HB.size)⟩
    · have C2 := Lib.hid (fun W => patOk_of (f := f) hs2 hp W)
      have HP := Lib.hid hp
      have hv0 := run_first (t := t) (f := f) hp
      rw [HV.out] at hv0
      obtain ⟨hp0, hp1, hk0, hk1⟩ := (patOk_iff s k).1 hp
      have eL := run_ends (f := f) (r := t) hp (by omega)
      simp only [Value.agg.injEq, Array.mk.injEq, List.cons.injEq, Value.int.injEq, true_and, and_true] at hv0
      obtain ⟨hu0, hd0, hy0⟩ := hv0
      have HEL := Lib.hid eL
      have HU0 := Lib.hid hu0; have HD0 := Lib.hid hd0; have HYY := Lib.hid hy0
      clear hp eL hu0 hd0 hy0
      refine wp_region_quiet_below (by kernel_rfl) (by kernel_rfl) ?_
      repeat (go_big_quiet_step (first | (go_at_call 49; with_reducible exact Calls.regrown_of (C1.out _)) | (go_at_call 38; with_reducible exact Calls.regrown_of (C2.out _))))
      refine wpQuiet_nil ?_
      intro _ hw'
      obtain ⟨⟨dq, osq⟩, hw''⟩ := hw'
      subst hw''
      have hX := below_regrown V2 dq osq
      have HB := HB.trans (hX.mono HB.size)
      have gB := (hX.block B (by omega)).trans HX0.out
      have gR := (hX.block G (by omega)).trans HY0.out
      have hz5 : G < (Sort.grow (redrawn V2 dq) osq).heap.size := by have := hX.size; omega
      rw [HU0.out, HD0.out, HYY.out] at gR
      clear c0 c1 c2 d0 d1 d2 hX HX0 HY0
      generalize Sort.grow (redrawn V2 dq) osq = W5 at *
      go_wp2_with fail
      have hO0 : OwnM 49 2 (W5.alloc (.cells #[] 49)) W5.heap.size (some ⟨W5.heap.size, 0, none⟩) 0 0 [] :=
        ⟨rfl, by have := World.ownsRow_made (base := W5.heap.size) (e := 49) (size := 2) W5 #[] 0 (by simp) (by decide) rfl; simpa using this⟩
      have gB := (Below.heap_alloc W5 (.cells #[] 49) B (by omega)).trans gB
      have gR := (Below.heap_alloc W5 (.cells #[] 49) G (by omega)).trans gR
      have hbW := HB.alloc HB.size (.cells #[] 49)
      have hloW : W5.heap.size ≤ (W5.alloc (.cells #[] 49)).heap.size := by simp
      generalize W5.alloc (.cells #[] 49) = W6 at *
      obtain ⟨lo, hlo⟩ : ∃ lo, W5.heap.size = lo := ⟨_, rfl⟩
      rw [hlo] at hO0 hloW hz5 ⊢
      have hwG : w.heap.size ≤ G := by omega
      have HO0 := Lib.hid hO0; have HgB := Lib.hid gB; have HgR := Lib.hid gR
      have HB0 := Lib.hid hbW
      clear hO0 gB gR HU0 HD0 HYY hlo HB hbW
      go_loopw [6, 7] (fun v i wr => ∃ (q : Nat) (a : Option Addr) (n cap : Nat), q ≤ t.size + 1 ∧ i = .int .i64 q ∧ v = .slice a n cap ∧ OwnM 49 2 wr lo a n cap (endF (lastD s t f) k q) ∧ wr.heap[G]? = some (.cells #[.int .i64 (mU (colT s t f (min q t.size)) s.size), .int .i64 (mD (colT s t f (min q t.size)) s.size), .int .i64 (colT s t f (min q t.size) s.size)] 51 (0, 0)) ∧ wr.heap[B]? = some (.cells #[.string s, .int .i64 k, .bool f] 31 (0, 0)) ∧ Below w.heap.size w wr ∧ lo ≤ wr.heap.size)
        (fun _ i _ => t.size + 1 - (intOf i).toNat)
      case atStart => exact ⟨0, _, _, _, by omega, rfl, rfl, HO0.out, by rw [show min 0 t.size = 0 by omega]; exact HgR.out, HgB.out, HB0.out, hloW⟩
      case round =>
        obtain ⟨q, a, n, cap, hq, rfl, rfl, hO, gR, gB, hbW, hloW'⟩ := hrel
        clear hloW; have hloW := hloW'; clear hloW'
        by_cases hqs : q ≤ t.size
        · rw [show min q t.size = q by omega] at gR
          have hnl : n = endN (lastD s t f) k q := by have := hO.len; rw [endF_length] at this; omega
          have hnn := endN_le (lastD s t f) k q
          have hn2 : n ≤ 201 := by omega
          obtain ⟨y', hy'⟩ : ∃ y', lastD s t f q = y' := ⟨_, rfl⟩
          have hyy : colT s t f q s.size = y' := hy'
          have HF1 : y' ≤ k → endF (lastD s t f) k (q + 1) = endF (lastD s t f) k q ++ [(q : Int), y'] := fun h => by rw [← hy'] at h ⊢; simp [endF, h]
          have HF2 : ¬ y' ≤ k → endF (lastD s t f) k (q + 1) = endF (lastD s t f) k q := fun h => by rw [← hy'] at h; simp [endF, h]
          have HL1 : y' ≤ k → (endF (lastD s t f) k (q + 1)).length = (n + 1) * 2 := fun h => by rw [HF1 h, List.length_append, endF_length, ← hnl]; simp; omega
          have s2 : wr.cell? ⟨G, 2, none⟩ = some (.int .i64 y') := by rw [cell_of_row _ _ 2 _ _ _ gR, ← hyy]; rfl
          have k1 : wr.cell? ⟨B, 1, none⟩ = some (.int .i64 k) := by rw [cell_of_row _ _ 1 _ _ _ gB]; rfl
          have hqi : (q : Int) ≤ (t.size : Int) := by omega
          have HO := Lib.hid hO; have HR := Lib.hid gR; have HBb := Lib.hid gB
          have hEb : ∀ r, (Value.slice a n cap).ownBlock = some r → lo ≤ r ∧ r < wr.heap.size := fun r hr => hO.2.lt r hr
          clear hO gR gB hnl hnn hyy hy'
          by_cases hle : y' ≤ k
          · have HF := Lib.hid (HF1 hle); have HL := Lib.hid (HL1 hle)
            clear HF1 HF2 HL1
            by_cases hqt : q < t.size
            · have hqt2 : (q : Int) < (t.size : Int) := by omega
              go_wp2_with (at_builtin; refine wpList_append_own_at _ rfl _ _ 45 rfl lo 49 i0 (.agg #[.int .i64 0, .int .i64 0]) 2 16 Try.underlying45 hi hti0 hti1 hti2 rfl (by decide) _ _ _ rfl (HO.out.kept ((Below.refl wr.heap.size wr).alloc (Nat.le_refl _) (.cells #[.int .i64 q, .int .i64 y'] 49))).2 ⟨wr.heap.size, 0, none⟩ 1 1 [.int .i64 q, .int .i64 y'] rfl rfl (fun j u h => cells_new wr _ _ j u h) (by simp [Value.oneCell']) (by unfold maxLen; omega) (by omega) (by simp; omega) ?_; intro v' w3 hown' hg _ hat; obtain ⟨a', cap', rfl, hO'⟩ := OwnM.shape HL.out (by rw [HF.out, List.map_append]; exact hown'); have hgs := hg.size)
              have hk2 : ∀ b, b < wr.heap.size → some b ≠ (Value.slice a n cap).ownBlock → w3.heap[b]? = wr.heap[b]? := fun b h1 h2 => (hg.block b (by simp; omega) h2).trans (Below.heap_alloc wr (.cells #[.int .i64 q, .int .i64 y'] 49) b h1)
              simp only [World.size_alloc] at hgs
              have gR := (hk2 G (by omega) (fun e => by have := (hEb _ e.symm).1; omega)).trans HR.out
              have gB := (hk2 B (by omega) (fun e => by have := (hEb _ e.symm).1; omega)).trans HBb.out
              replace hbW := hbW.trans (⟨hg.os, hg.tape, hg.output, by omega, fun b h => hk2 b (by omega) (fun e => by have := (hEb _ e.symm).1; omega)⟩ : Below w.heap.size wr w3)
              replace hloW : lo ≤ w3.heap.size := by omega
              clear hat hown' hg hk2 s2 k1 hEb HO HR HBb
              have hch := t[q].toNat_lt
              have bw : IntKind.i64.wrap (t[q].toNat : Int) = (t[q].toNat : Int) := by rw [IntKind.wrap_i64]; omega
              have i1 : (q : Int) < (t.size : Int) := by omega
              have i2 : (0 : Int) ≤ (q : Int) := by omega
              have i3 : ((q : Int)).toNat = q := by omega
              have HST := Lib.hid (by have h := run_step (f := f) (q := q) HP.out hqt; rw [byteAt_eq t q hqt] at h; exact h)
              have HON := Lib.hid (hO'.kept ((Below.refl w3.heap.size w3).drew))
              have m0 : w3.drew.cell? ⟨G, 0, none⟩ = some (.int .i64 (mU (colT s t f q) s.size)) := by rw [cell_of_row _ _ 0 _ _ _ (show w3.drew.heap[G]? = _ from gR)]; rfl
              have m1 : w3.drew.cell? ⟨G, 1, none⟩ = some (.int .i64 (mD (colT s t f q) s.size)) := by rw [cell_of_row _ _ 1 _ _ _ (show w3.drew.heap[G]? = _ from gR)]; rfl
              have m2 : w3.drew.cell? ⟨G, 2, none⟩ = some (.int .i64 (colT s t f q s.size)) := by rw [cell_of_row _ _ 2 _ _ _ (show w3.drew.heap[G]? = _ from gR)]; rfl
              have n0 : w3.drew.cell? ⟨B, 0, none⟩ = some (.string s) := by rw [cell_of_row _ _ 0 _ _ _ (show w3.drew.heap[B]? = _ from gB)]; rfl
              have n1 : w3.drew.cell? ⟨B, 1, none⟩ = some (.int .i64 k) := by rw [cell_of_row _ _ 1 _ _ _ (show w3.drew.heap[B]? = _ from gB)]; rfl
              have n2 : w3.drew.cell? ⟨B, 2, none⟩ = some (.bool f) := by rw [cell_of_row _ _ 2 _ _ _ (show w3.drew.heap[B]? = _ from gB)]; rfl
              have HG := Lib.hid (show w3.drew.heap[G]? = _ from gR)
              have HBo := Lib.hid (show w3.drew.heap[B]? = _ from gB)
              have hBd := hbW.drew
              have hGd : lo ≤ w3.drew.heap.size := hloW
              have iud := state_i64 (colT s t f q) (n := s.size) (by omega)
              obtain ⟨hiu, hid⟩ := iud
              clear gR gB hO'
              obtain ⟨UU, hUU⟩ : ∃ UU, mU (colT s t f q) s.size = UU := ⟨_, rfl⟩
              obtain ⟨DD, hDD⟩ : ∃ DD, mD (colT s t f q) s.size = DD := ⟨_, rfl⟩
              obtain ⟨SS, hSS⟩ : ∃ SS, colT s t f q s.size = SS := ⟨_, rfl⟩
              rw [hUU] at m0 hiu HST
              rw [hDD] at m1 hid HST
              rw [hSS] at m2 HST
              obtain ⟨U2, hU2⟩ : ∃ UU, mU (colT s t f (q + 1)) s.size = UU := ⟨_, rfl⟩
              obtain ⟨D2, hD2⟩ : ∃ DD, mD (colT s t f (q + 1)) s.size = DD := ⟨_, rfl⟩
              obtain ⟨S2, hS2⟩ : ∃ SS, colT s t f (q + 1) s.size = SS := ⟨_, rfl⟩
              rw [hU2, hD2, hS2] at HST
              have HUU := Lib.hid hU2; have HDD := Lib.hid hD2; have HSS := Lib.hid hS2
              clear hUU hDD hSS hU2 hD2 hS2
              refine wp_region_still_tail 6 (by kernel_rfl) (by kernel_rfl) ?_
              change wpStill _ _ w3.drew (fun a' => wpList _ _ _ _ a' w3.drew) _ _
              generalize w3.drew = wd at *
              simp only [List.take_succ_cons, List.take_zero, List.drop_succ_cons, List.drop_zero]
              repeat still_step
              refine wpStill_nil ?_
              clear bw
              go_wp2_with fail
              refine (impl_myersStep s k f UU DD SS (t[q].toNat : Int) _ hs1 hiu hid).mono ?_
              rintro e w9 ⟨rfl, hb9⟩
              rw [HST.out]
              have hg9 := (hb9.block G (by omega)).trans HG.out
              have hB9 := (hb9.block B (by omega)).trans HBo.out
              have p0 : w9.cell? ⟨G, 0, none⟩ = some (.int .i64 (mU (colT s t f q) s.size)) := by rw [cell_of_row _ _ 0 _ _ _ hg9]; rfl
              have p1 : w9.cell? ⟨G, 1, none⟩ = some (.int .i64 (mD (colT s t f q) s.size)) := by rw [cell_of_row _ _ 1 _ _ _ hg9]; rfl
              have p2 : w9.cell? ⟨G, 2, none⟩ = some (.int .i64 (colT s t f q s.size)) := by rw [cell_of_row _ _ 2 _ _ _ hg9]; rfl
              have g0 := frozen_of_row _ _ 0 _ _ hg9
              have g1 := frozen_of_row _ _ 1 _ _ hg9
              have g2 := frozen_of_row _ _ 2 _ _ hg9
              have HR9 := Lib.hid (set3_row hg9 (.int .i64 U2) (.int .i64 D2) (.int .i64 S2))
              have HB9 := Lib.hid ((set3_far (X := w9) (b := G) (r := B) (by omega) (.int .i64 U2) (.int .i64 D2) (.int .i64 S2)).trans hB9)
              have HO9 := Lib.hid ((HON.out.kept hb9).on (w1 := ((w9.setCell ⟨G, 0, none⟩ (.int .i64 U2)).setCell ⟨G, 1, none⟩ (.int .i64 D2)).setCell ⟨G, 2, none⟩ (.int .i64 S2)) (fun r hr => set3_far (by have := ((HON.out.kept hb9).2.lt r hr).1; omega) _ _ _))
              have hbw9 := ((hBd.trans (hb9.mono hBd.size)).setCell (p := ⟨G, 0, none⟩) hwG (.int .i64 U2)).setCell (p := ⟨G, 1, none⟩) hwG (.int .i64 D2)
              have hbz9 := hbw9.setCell (p := ⟨G, 2, none⟩) hwG (.int .i64 S2)
              have hs9 := hb9.size
              clear hg9 hB9 hbw9 m0 m1 m2 n0 n1 n2
              go_wp2_with fail
              go_roundw
              case rel => exact ⟨q + 1, _, _, _, by omega, by go_num, rfl, HO9.out, by rw [show min (q + 1) t.size = q + 1 by omega, HUU.out, HDD.out, HSS.out]; exact HR9.out, HB9.out, hbz9, by simp [World.setCell]; omega⟩
              case measure => simp [intOf]; omega
            · have hql : ¬ (q : Int) < (t.size : Int) := by omega
              go_wp2_with (at_builtin; refine wpList_append_own_at _ rfl _ _ 45 rfl lo 49 i0 (.agg #[.int .i64 0, .int .i64 0]) 2 16 Try.underlying45 hi hti0 hti1 hti2 rfl (by decide) _ _ _ rfl (HO.out.kept ((Below.refl wr.heap.size wr).alloc (Nat.le_refl _) (.cells #[.int .i64 q, .int .i64 y'] 49))).2 ⟨wr.heap.size, 0, none⟩ 1 1 [.int .i64 q, .int .i64 y'] rfl rfl (fun j u h => cells_new wr _ _ j u h) (by simp [Value.oneCell']) (by unfold maxLen; omega) (by omega) (by simp; omega) ?_; intro v' w3 hown' hg _ hat; obtain ⟨a', cap', rfl, hO'⟩ := OwnM.shape HL.out (by rw [HF.out, List.map_append]; exact hown'); have hgs := hg.size)
              have hk2 : ∀ b, b < wr.heap.size → some b ≠ (Value.slice a n cap).ownBlock → w3.heap[b]? = wr.heap[b]? := fun b h1 h2 => (hg.block b (by simp; omega) h2).trans (Below.heap_alloc wr (.cells #[.int .i64 q, .int .i64 y'] 49) b h1)
              simp only [World.size_alloc] at hgs
              have gR := (hk2 G (by omega) (fun e => by have := (hEb _ e.symm).1; omega)).trans HR.out
              have gB := (hk2 B (by omega) (fun e => by have := (hEb _ e.symm).1; omega)).trans HBb.out
              replace hbW := hbW.trans (⟨hg.os, hg.tape, hg.output, by omega, fun b h => hk2 b (by omega) (fun e => by have := (hEb _ e.symm).1; omega)⟩ : Below w.heap.size wr w3)
              replace hloW : lo ≤ w3.heap.size := by omega
              clear hat hown' hg hk2 s2 k1 hEb HO HR HBb
              go_roundw
              case rel => exact ⟨q + 1, _, _, _, by omega, by go_num, rfl, hO', by rw [show min (q + 1) t.size = q by omega]; exact gR, gB, hbW, hloW⟩
              case measure => simp [intOf]; omega
          · have HF := Lib.hid (HF2 hle)
            have hO2 := HO.out
            rw [← HF.out] at hO2
            have gR := HR.out; have gB := HBb.out
            clear HF1 HF2 HL1 HO HR HBb hEb
            by_cases hqt : q < t.size
            · have hch := t[q].toNat_lt
              have bw : IntKind.i64.wrap (t[q].toNat : Int) = (t[q].toNat : Int) := by rw [IntKind.wrap_i64]; omega
              have i1 : (q : Int) < (t.size : Int) := by omega
              have i2 : (0 : Int) ≤ (q : Int) := by omega
              have i3 : ((q : Int)).toNat = q := by omega
              have HST := Lib.hid (by have h := run_step (f := f) (q := q) HP.out hqt; rw [byteAt_eq t q hqt] at h; exact h)
              have HON := Lib.hid (hO2.kept ((Below.refl wr.heap.size wr).drew))
              have m0 : wr.drew.cell? ⟨G, 0, none⟩ = some (.int .i64 (mU (colT s t f q) s.size)) := by rw [cell_of_row _ _ 0 _ _ _ (show wr.drew.heap[G]? = _ from gR)]; rfl
              have m1 : wr.drew.cell? ⟨G, 1, none⟩ = some (.int .i64 (mD (colT s t f q) s.size)) := by rw [cell_of_row _ _ 1 _ _ _ (show wr.drew.heap[G]? = _ from gR)]; rfl
              have m2 : wr.drew.cell? ⟨G, 2, none⟩ = some (.int .i64 (colT s t f q s.size)) := by rw [cell_of_row _ _ 2 _ _ _ (show wr.drew.heap[G]? = _ from gR)]; rfl
              have n0 : wr.drew.cell? ⟨B, 0, none⟩ = some (.string s) := by rw [cell_of_row _ _ 0 _ _ _ (show wr.drew.heap[B]? = _ from gB)]; rfl
              have n1 : wr.drew.cell? ⟨B, 1, none⟩ = some (.int .i64 k) := by rw [cell_of_row _ _ 1 _ _ _ (show wr.drew.heap[B]? = _ from gB)]; rfl
              have n2 : wr.drew.cell? ⟨B, 2, none⟩ = some (.bool f) := by rw [cell_of_row _ _ 2 _ _ _ (show wr.drew.heap[B]? = _ from gB)]; rfl
              have HG := Lib.hid (show wr.drew.heap[G]? = _ from gR)
              have HBo := Lib.hid (show wr.drew.heap[B]? = _ from gB)
              have hBd := hbW.drew
              have hGd : lo ≤ wr.drew.heap.size := hloW
              have iud := state_i64 (colT s t f q) (n := s.size) (by omega)
              obtain ⟨hiu, hid⟩ := iud
              clear gR gB hO2
              obtain ⟨UU, hUU⟩ : ∃ UU, mU (colT s t f q) s.size = UU := ⟨_, rfl⟩
              obtain ⟨DD, hDD⟩ : ∃ DD, mD (colT s t f q) s.size = DD := ⟨_, rfl⟩
              obtain ⟨SS, hSS⟩ : ∃ SS, colT s t f q s.size = SS := ⟨_, rfl⟩
              rw [hUU] at m0 hiu HST
              rw [hDD] at m1 hid HST
              rw [hSS] at m2 HST
              obtain ⟨U2, hU2⟩ : ∃ UU, mU (colT s t f (q + 1)) s.size = UU := ⟨_, rfl⟩
              obtain ⟨D2, hD2⟩ : ∃ DD, mD (colT s t f (q + 1)) s.size = DD := ⟨_, rfl⟩
              obtain ⟨S2, hS2⟩ : ∃ SS, colT s t f (q + 1) s.size = SS := ⟨_, rfl⟩
              rw [hU2, hD2, hS2] at HST
              have HUU := Lib.hid hU2; have HDD := Lib.hid hD2; have HSS := Lib.hid hS2
              clear hUU hDD hSS hU2 hD2 hS2
              go_wp2_with fail
              refine wp_region_still_tail 6 (by kernel_rfl) (by kernel_rfl) ?_
              change wpStill _ _ wr.drew (fun a' => wpList _ _ _ _ a' wr.drew) _ _
              generalize wr.drew = wd at *
              simp only [List.take_succ_cons, List.take_zero, List.drop_succ_cons, List.drop_zero]
              repeat still_step
              refine wpStill_nil ?_
              clear bw
              go_wp2_with fail
              refine (impl_myersStep s k f UU DD SS (t[q].toNat : Int) _ hs1 hiu hid).mono ?_
              rintro e w9 ⟨rfl, hb9⟩
              rw [HST.out]
              have hg9 := (hb9.block G (by omega)).trans HG.out
              have hB9 := (hb9.block B (by omega)).trans HBo.out
              have p0 : w9.cell? ⟨G, 0, none⟩ = some (.int .i64 (mU (colT s t f q) s.size)) := by rw [cell_of_row _ _ 0 _ _ _ hg9]; rfl
              have p1 : w9.cell? ⟨G, 1, none⟩ = some (.int .i64 (mD (colT s t f q) s.size)) := by rw [cell_of_row _ _ 1 _ _ _ hg9]; rfl
              have p2 : w9.cell? ⟨G, 2, none⟩ = some (.int .i64 (colT s t f q s.size)) := by rw [cell_of_row _ _ 2 _ _ _ hg9]; rfl
              have g0 := frozen_of_row _ _ 0 _ _ hg9
              have g1 := frozen_of_row _ _ 1 _ _ hg9
              have g2 := frozen_of_row _ _ 2 _ _ hg9
              have HR9 := Lib.hid (set3_row hg9 (.int .i64 U2) (.int .i64 D2) (.int .i64 S2))
              have HB9 := Lib.hid ((set3_far (X := w9) (b := G) (r := B) (by omega) (.int .i64 U2) (.int .i64 D2) (.int .i64 S2)).trans hB9)
              have HO9 := Lib.hid ((HON.out.kept hb9).on (w1 := ((w9.setCell ⟨G, 0, none⟩ (.int .i64 U2)).setCell ⟨G, 1, none⟩ (.int .i64 D2)).setCell ⟨G, 2, none⟩ (.int .i64 S2)) (fun r hr => set3_far (by have := ((HON.out.kept hb9).2.lt r hr).1; omega) _ _ _))
              have hbw9 := ((hBd.trans (hb9.mono hBd.size)).setCell (p := ⟨G, 0, none⟩) hwG (.int .i64 U2)).setCell (p := ⟨G, 1, none⟩) hwG (.int .i64 D2)
              have hbz9 := hbw9.setCell (p := ⟨G, 2, none⟩) hwG (.int .i64 S2)
              have hs9 := hb9.size
              clear hg9 hB9 hbw9 m0 m1 m2 n0 n1 n2
              go_wp2_with fail
              go_roundw
              case rel => exact ⟨q + 1, _, _, _, by omega, by go_num, rfl, HO9.out, by rw [show min (q + 1) t.size = q + 1 by omega, HUU.out, HDD.out, HSS.out]; exact HR9.out, HB9.out, hbz9, by simp [World.setCell]; omega⟩
              case measure => simp [intOf]; omega
            · have hql : ¬ (q : Int) < (t.size : Int) := by omega
              go_wp2_with fail
              go_roundw
              case rel => exact ⟨q + 1, _, _, _, by omega, by go_num, rfl, hO2, by rw [show min (q + 1) t.size = q by omega]; exact gR, gB, hbW, hloW⟩
              case measure => simp [intOf]; omega
        · obtain rfl : q = t.size + 1 := by omega
          have n0 : wr.cell? ⟨B, 0, none⟩ = some (.string s) := by rw [cell_of_row _ _ 0 _ _ _ gB]; rfl
          have n1 : wr.cell? ⟨B, 1, none⟩ = some (.int .i64 k) := by rw [cell_of_row _ _ 1 _ _ _ gB]; rfl
          have n2 : wr.cell? ⟨B, 2, none⟩ = some (.bool f) := by rw [cell_of_row _ _ 2 _ _ _ gB]; rfl
          rw [← HEL.out] at hO
          have HO := Lib.hid hO
          have hnl : n ≤ 1048577 := by
            have h1 := hO.len; have h2 := endsL_len s k f t; omega
          clear hO gR gB
          go_wp2_with fail
          refine (impl_endsOf s k f t _ hs1 (by omega)).mono ?_
          rintro e w7 ⟨a7, n7, cap7, rfl, hL, hb7⟩
          have hn7 : n7 = n := by have h1 := hL.len; have h2 := HO.out.len; omega
          subst hn7
          go_wp2_with fail
          refine (laws_sameEnds _ _ _ _ _ _ _ hL.len (HO.out.kept hb7).ints hL.ints hnl).mono ?_
          rintro e w8 ⟨rfl, hb8⟩
          have HB7 := hbW.trans (hb7.mono hbW.size)
          go_wp2_with fail
          go_ret
          exact ⟨rfl, HB7.trans (hb8.mono HB7.size)⟩
  · have hbig : decide (1048576 < (len : Int)) = true := by simp; omega
    go_enter Try.func9, Try.ntmps9
    go_wp2_with (go_at_call 21; go_in)
    go_ret
    exact ⟨rfl, Below.refl _ _⟩
end Go.Proofs.Ytgocfpdodbhcaaa

/-
  Chapter 3: EndsOf's model.
-/
import Derived.Test.YtelhgpoppgpniabL3Ends
import Derived.Test.YtelhgpoppgpniabL3DistS
import Derived.Deep.RegionHeld3
import Derived.Maps.AppendAt
namespace Go.Proofs.Ytelhgpoppgpniab
open Go.RowKit
set_option linter.unusedVariables false
set_option maxRecDepth 100000
theorem lastD_bnd (s r : ByteArray) (f : Bool) (k : Nat) : Bnd (colAt (foldIf f s) (foldIf f r) 0 k) s.size (s.size + k) := by
  have h := colAt_bnd (foldIf f s) (foldIf f r) (rise := 0) (by decide) (by decide) k
  rw [foldIf_size] at h; exact h
theorem colAt_head0 (s r : ByteArray) (k : Nat) : colAt s r 0 k 0 = 0 := by
  induction k with
  | zero => rfl
  | succ k ih => simp only [colAt, nextAt]; rw [ih]; rfl
set_option maxHeartbeats 4000000 in
theorem spec_l3Ends (s : ByteArray) (K : Int) (f : Bool) (r : ByteArray) (w : World) (hs : s.size ≤ 20) (hr : r.size ≤ 200) (hk0 : 0 ≤ K) (hk1 : K ≤ 4) :
    Calls Try.prog 99 #[.agg #[.string s, .int .i64 K, .bool f], .string r] w fun e w' => ∃ a n cap, e = .returned (.slice a n cap) ∧ OwnM 42 2 w' w.heap.size a n cap (endF (lastD s r f) K (r.size + 1)) ∧ Below w.heap.size w w' := by
  obtain ⟨i0, hi, ht0, ht1, ht2⟩ := info_parts end_info
  go_enter Try.func99, Try.ntmps99
  go_wp2_with fail
  have hbx : Below w.heap.size w ((w.alloc (.cells #[.string s, .int .i64 K, .bool f] 34)).alloc (.cells #[] 42)) := (by repeat (first | exact Below.refl _ _ | assumption | (refine Below.drew ?_) | (refine below_drewN ?_ _) | (refine Below.alloc ?_ (by first | omega | (simp; done) | (simp; omega)) _) | (refine Below.setCell ?_ (by first | omega | (simp; done) | (simp; omega)) _)))
  have q0 : ((w.alloc (.cells #[.string s, .int .i64 K, .bool f] 34)).alloc (.cells #[] 42)).cell? ⟨w.heap.size, 0, none⟩ = some (.string s) := by go_simp
  have q1 : ((w.alloc (.cells #[.string s, .int .i64 K, .bool f] 34)).alloc (.cells #[] 42)).cell? ⟨w.heap.size, 1, none⟩ = some (.int .i64 K) := by go_simp
  have q2 : ((w.alloc (.cells #[.string s, .int .i64 K, .bool f] 34)).alloc (.cells #[] 42)).cell? ⟨w.heap.size, 2, none⟩ = some (.bool f) := by go_simp
  have hO0 : OwnM 42 2 ((w.alloc (.cells #[.string s, .int .i64 K, .bool f] 34)).alloc (.cells #[] 42)) (w.heap.size + 1) (some ⟨w.heap.size + 1, 0, none⟩) 0 0 [] :=
    ⟨rfl, by have := World.ownsRow_made (base := w.heap.size + 1) (e := 42) (size := 2) (w.alloc (.cells #[.string s, .int .i64 K, .bool f] 34)) #[] 0 (by simp) (by decide) rfl; simpa using this⟩
  have hsz : ((w.alloc (.cells #[.string s, .int .i64 K, .bool f] 34)).alloc (.cells #[] 42)).heap.size = w.heap.size + 2 := by simp
  generalize ((w.alloc (.cells #[.string s, .int .i64 K, .bool f] 34)).alloc (.cells #[] 42)) = V at *
  refine (spec_l3First s _ (by omega)).mono ?_
  rintro e w1 ⟨a1, cap1, rfl, hO1, hb1⟩
  obtain ⟨g1, rfl, hg1, hg2⟩ := hO1.head 0 (by omega)
  have p0 := (hb1.cell (p := ⟨w.heap.size, 0, none⟩) (by show w.heap.size < _; omega)).trans q0
  have p1 := (hb1.cell (p := ⟨w.heap.size, 1, none⟩) (by show w.heap.size < _; omega)).trans q1
  have p2 := (hb1.cell (p := ⟨w.heap.size, 2, none⟩) (by show w.heap.size < _; omega)).trans q2
  have hO := hO0.kept hb1
  have hB1 := hbx.trans (hb1.mono hbx.size)
  have hs1 := hb1.size
  have hc1 : ∀ i, i < s.size + 1 → w1.cell? ⟨g1, i, none⟩ = some (.int .i64 (colAt (foldIf f s) (foldIf f r) 0 0 i)) := fun i hi => by rw [hO1.cell i hi, intAt_tab _ _ _ hi]; rfl
  have HC1 := Lib.hid hc1; have HO0 := Lib.hid hO
  have HSZ := Lib.hid hsz
  have hl1 : w.heap.size + 2 ≤ w1.heap.size := by omega
  have hg3 : w.heap.size + 2 ≤ g1 := by omega
  clear hc1 hO1 q0 q1 q2 hO0 hb1 hbx hO hsz hs1
  go_wp2
  go_loopw [5, 7, 8] (fun o v i wr => ∃ (k : Nat) (a : Option Addr) (n cap g capc : Nat), k ≤ r.size + 1 ∧ i = .int .i64 k ∧ o = .slice a n cap ∧ v = .slice (some ⟨g, 0, none⟩) (s.size + 1) capc ∧ OwnM 42 2 wr (w.heap.size + 1) a n cap (endF (lastD s r f) K k) ∧ (∀ i, i < s.size + 1 → wr.cell? ⟨g, i, none⟩ = some (.int .i64 (colAt (foldIf f s) (foldIf f r) 0 (k - 1) i))) ∧ (Value.slice a n cap).ownBlock ≠ some g ∧ g < wr.heap.size ∧ wr.cell? ⟨w.heap.size, 0, none⟩ = some (.string s) ∧ wr.cell? ⟨w.heap.size, 1, none⟩ = some (.int .i64 K) ∧ wr.cell? ⟨w.heap.size, 2, none⟩ = some (.bool f) ∧ Below w.heap.size w wr ∧ w.heap.size + 2 ≤ wr.heap.size)
    (fun _ _ i _ => r.size + 1 - (intOf i).toNat)
  case atStart => exact ⟨0, _, _, _, _, _, by omega, rfl, rfl, rfl, HO0.out, HC1.out, fun e => by simp [Value.ownBlock] at e; omega, hg2, p0, p1, p2, hB1, hl1⟩
  case round =>
    obtain ⟨k, a, n, cap, g, capc, hk, rfl, rfl, rfl, hO, hcol, hne, hgl, c0, c1, c2, hb, hz⟩ := hrel
    by_cases hlt : k ≤ r.size
    · have hnl : n = endN (lastD s r f) K k := by have := hO.len; rw [endF_length] at this; omega
      have hnn := endN_le (lastD s r f) K k
      have hn2 : n ≤ 201 := by omega
      clear hnn
      have HO := Lib.hid hO; have HNL := Lib.hid hnl; have HNE := Lib.hid hne
      have HCO := Lib.hid hcol
      have hEb : ∀ q, (Value.slice a n cap).ownBlock = some q → w.heap.size + 1 ≤ q ∧ q < wr.heap.size := fun q hq => hO.2.lt q hq
      clear hO hnl hne hcol p0 p1 p2 HC1 HO0
      by_cases hk0' : k = 0
      · subst hk0'
        have hc := HCO.out s.size (by omega)
        have hy : colAt (foldIf f s) (foldIf f r) 0 (0 - 1) s.size = lastD s r f 0 := rfl
        rw [hy] at hc
        obtain ⟨y, hy2⟩ : ∃ y, lastD s r f (0) = y := ⟨_, rfl⟩
        have HF1 : y ≤ K → endF (lastD s r f) K (0 + 1) = endF (lastD s r f) K (0) ++ [((0 : Nat) : Int), y] := fun h => by rw [← hy2] at h ⊢; simp [endF, h]
        have HF2 : ¬ y ≤ K → endF (lastD s r f) K (0 + 1) = endF (lastD s r f) K (0) := fun h => by rw [← hy2] at h; simp [endF, h]
        have HL1 : y ≤ K → (endF (lastD s r f) K (0 + 1)).length = (n + 1) * 2 := fun h => by rw [HF1 h, List.length_append, endF_length, ← HNL.out]; simp; omega
        rw [hy2] at hc
        clear hy2
        have hl9 : (s.size : Int) < (s.size : Int) + 1 := by omega
        by_cases hle : y ≤ K
        · have HF := Lib.hid (HF1 hle); have HL := Lib.hid (HL1 hle)
          clear HF1 HF2 HL1
          go_wp2_with fail
          go_quiet (fail)
          have hY := below_drewN (Below.refl wr.heap.size wr) nq
          have hYs : (wr.drewN nq).heap.size = wr.heap.size := by simp
          have hcY := (hY.cell (p := ⟨g, s.size, none⟩) hgl).trans hc
          have HOY := Lib.hid (HO.out.kept hY)
          have d0 := (hY.cell (p := ⟨w.heap.size, 0, none⟩) (by show w.heap.size < _; omega)).trans c0
          have d1 := (hY.cell (p := ⟨w.heap.size, 1, none⟩) (by show w.heap.size < _; omega)).trans c1
          have d2 := (hY.cell (p := ⟨w.heap.size, 2, none⟩) (by show w.heap.size < _; omega)).trans c2
          have HCY := Lib.hid (fun i hi => (hY.cell (p := ⟨g, i, none⟩) hgl).trans (HCO.out i hi))
          have hbY := below_drewN hb nq
          generalize wr.drewN nq = Y at *
          clear hc c0 c1 c2 hY hb HO
          rw [← hYs] at hgl hz
          have hEY : ∀ q, (Value.slice a n cap).ownBlock = some q → w.heap.size + 1 ≤ q ∧ q < Y.heap.size := fun q hq => HOY.out.2.lt q hq
          have HYS := Lib.hid hYs
          clear hYs hEb
          go_wp2_with (at_builtin; refine wpList_append_own_at _ rfl _ _ 39 rfl (w.heap.size + 1) 42 i0 (.agg #[.int .i64 0, .int .i64 0]) 2 16 Try.underlying39 hi ht0 ht1 ht2 rfl (by decide) _ _ _ rfl (HOY.out.kept ((Below.refl Y.heap.size Y).alloc (Nat.le_refl _) (.cells #[.int .i64 0, .int .i64 y] 42))).2 ⟨Y.heap.size, 0, none⟩ 1 1 [.int .i64 0, .int .i64 y] rfl rfl (fun j u h => cells_new Y _ _ j u h) (by simp [Value.oneCell']) (by unfold maxLen; omega) (by omega) (by simp; omega) ?_; intro v' w3 hown' hg _ hat; obtain ⟨a', cap', rfl, hO'⟩ := OwnM.shape HL.out (by rw [HF.out, List.map_append]; exact hown'); have hgs := hg.size)
          have hk2 : ∀ b, b < Y.heap.size → some b ≠ (Value.slice a n cap).ownBlock → w3.heap[b]? = Y.heap[b]? := fun b h1 h2 => (hg.block b (by simp; omega) h2).trans (Below.heap_alloc Y (.cells #[.int .i64 0, .int .i64 y] 42) b h1)
          simp only [World.size_alloc] at hgs
          have hw1 : some w.heap.size ≠ (Value.slice a n cap).ownBlock := fun e => by have := (hEY _ e.symm).1; omega
          have hB3 : Below w.heap.size Y w3 := ⟨hg.os, hg.tape, hg.output, by omega, fun b h => hk2 b (by omega) (fun e => by have := (hEY _ e.symm).1; omega)⟩
          have hne3 : (Value.slice a' (n + 1) cap').ownBlock ≠ some g := fun e => by
            rcases hat with e2 | e2
            · exact HNE.out (e2.symm.trans e)
            · rw [e] at e2; simp at e2; omega
          have hgX : some g ≠ (Value.slice a n cap).ownBlock := fun e => HNE.out e.symm
          clear hat hown' hg
          go_roundw
          case rel => exact ⟨0 + 1, a', n + 1, cap', g, capc, by omega, by go_num, rfl, rfl, hO', fun i hi => (World.cell?_of_block (w := Y) (hk2 g hgl hgX)).trans (HCY.out i hi), hne3, by omega, (World.cell?_of_block (w := Y) (hk2 w.heap.size (by omega) hw1)).trans d0, (World.cell?_of_block (w := Y) (hk2 w.heap.size (by omega) hw1)).trans d1, (World.cell?_of_block (w := Y) (hk2 w.heap.size (by omega) hw1)).trans d2, hbY.trans hB3, by omega⟩
          case measure => first | (simp [intOf]; done) | (simp [intOf]; omega)
        · have HF := Lib.hid (HF2 hle)
          clear HF1 HF2 HL1
          go_wp2_with fail
          go_quiet (fail)
          go_wp2
          go_roundw
          case rel => exact ⟨0 + 1, a, n, cap, g, capc, by omega, by go_num, rfl, rfl, by rw [HF.out]; exact HO.out.kept (below_drewN (Below.refl _ _) _), fun i hi => ((below_drewN (Below.refl wr.heap.size wr) _).cell (p := ⟨g, i, none⟩) hgl).trans (HCO.out i hi), HNE.out, by simpa using hgl, ((below_drewN (Below.refl wr.heap.size wr) _).cell (p := ⟨w.heap.size, 0, none⟩) (by show w.heap.size < _; omega)).trans c0, ((below_drewN (Below.refl wr.heap.size wr) _).cell (p := ⟨w.heap.size, 1, none⟩) (by show w.heap.size < _; omega)).trans c1, ((below_drewN (Below.refl wr.heap.size wr) _).cell (p := ⟨w.heap.size, 2, none⟩) (by show w.heap.size < _; omega)).trans c2, below_drewN hb _, by simpa using hz⟩
          case measure => first | (simp [intOf]; done) | (simp [intOf]; omega)
      · obtain ⟨q, rfl⟩ : ∃ q, k = q + 1 := ⟨k - 1, by omega⟩
        have hq : q < r.size := by omega
        have hI : Ints wr (some ⟨g, 0, none⟩) (tab (colAt (foldIf f s) (foldIf f r) 0 q) (s.size + 1)) := .inr ⟨g, 0, rfl, fun i hi => by rw [tab_length] at hi; rw [Nat.zero_add, intAt_tab _ _ _ hi]; exact HCO.out i hi⟩
        have hBn : Bnd (intAt (tab (colAt (foldIf f s) (foldIf f r) 0 q) (s.size + 1))) s.size (s.size + q) := fun i hi => by rw [intAt_tab _ _ _ (by omega)]; exact lastD_bnd s r f q i hi
        have HN := Lib.hid (colAt_next s r f 0 q hq 0 (by rw [colAt_head0]; rfl))
        have HBY := Lib.hid (byteAt_eq r q hq)
        have hch := r[q].toNat_lt
        have jw : IntKind.i64.wrap ((q : Int) + 1 - 1) = (q : Int) := by rw [IntKind.wrap_i64]; omega
        have jw2 : IntKind.i64.wrap (q : Int) = (q : Int) := by rw [IntKind.wrap_i64]; omega
        have i0' : (0 : Int) ≤ (q : Int) := by omega
        have i1' : (q : Int) < (r.size : Int) := by omega
        have i2' : ((q : Int)).toNat = q := by omega
        have i3' : (0 : Int) < (q : Int) + 1 := by omega
        have hSr := (⟨c0, c2⟩ : wr.cell? ⟨w.heap.size, 0, none⟩ = some (.string s) ∧ wr.cell? ⟨w.heap.size, 2, none⟩ = some (.bool f))
        have hsb : s.size ≤ 1048576 := by omega
        have hMb : (s.size : Int) + q ≤ 1048577 := by omega
        have hM1 : (0 : Int) ≤ (s.size : Int) + q + 1 := by omega
        have hb0 : (0 : Int) ≤ (r[q].toNat : Int) := by omega
        have hb1 : (r[q].toNat : Int) ≤ 255 := by omega
        clear HCO
        go_wp2_with fail
        go_region_held3 (fun W => W.cell? ⟨w.heap.size, 0, none⟩ = some (.string s) ∧ W.cell? ⟨w.heap.size, 2, none⟩ = some (.bool f)) (first | with_reducible exact hSr | with_reducible exact hS2 | go_keep)
          (first | (go_at_call 92; with_reducible refine (spec_l3Next s f (tab (colAt (foldIf f s) (foldIf f r) 0 q) (s.size + 1)) (some ⟨g, 0, none⟩) (s.size + 1) capc 0 r[q].toNat (s.size + q) _ hsb rfl (tab_length _ _) (hI.kept ((Below.refl _ _).drew)) hBn hMb (by decide) hM1 hb0 hb1).mono ?_; rintro e w2 ⟨a2, cap2, rfl, hO2, hb2d⟩; have hb2 := below_undrew hb2d; have hS2 := (⟨(hb2.cell (p := ⟨w.heap.size, 0, none⟩) (by show w.heap.size < _; omega)).trans c0, (hb2.cell (p := ⟨w.heap.size, 2, none⟩) (by show w.heap.size < _; omega)).trans c2⟩ : w2.cell? ⟨w.heap.size, 0, none⟩ = some (.string s) ∧ w2.cell? ⟨w.heap.size, 2, none⟩ = some (.bool f))))
        clear jw jw2
        obtain ⟨g2, rfl, hg2l, hg2u⟩ := hO2.head 0 (by omega)
        have c1' := (hb2.cell (p := ⟨w.heap.size, 1, none⟩) (by show w.heap.size < _; omega)).trans c1
        have hco2 : ∀ i, i < s.size + 1 → w2.cell? ⟨g2, i, none⟩ = some (.int .i64 (colAt (foldIf f s) (foldIf f r) 0 (q + 1) i)) := fun i hi => by
          rw [hO2.cell i hi, ← HBY.out, HN.out, intAt_tab _ _ _ hi]
        have HCO := Lib.hid hco2
        clear hco2
        obtain ⟨c0', c2'⟩ := hS2
        have HO2 := Lib.hid (HO.out.kept hb2)
        simp only [heap_drew] at hg2l
        have HNE2 := Lib.hid (show (Value.slice a n cap).ownBlock ≠ some g2 from fun e => by have := (hEb _ e).2; omega)
        have hbw := hb.trans (hb2.mono hb.size)
        have hz2 : w.heap.size + 2 ≤ w2.heap.size := by have := hb2.size; omega
        have hc := HCO.out s.size (by omega)
        have hy : colAt (foldIf f s) (foldIf f r) 0 (q + 1) s.size = lastD s r f (q + 1) := rfl
        rw [hy] at hc
        have hEb2 : ∀ q, (Value.slice a n cap).ownBlock = some q → w.heap.size + 1 ≤ q ∧ q < w2.heap.size := fun q hq => HO2.out.2.lt q hq
        clear hO2 hb2 hb2d c0 c1 c2 HO HNE hb hz hgl hEb hI hBn hSr hy hg2l
        have HO := HO2; have HNE := HNE2; have hb := hbw; have hz := hz2; have hgl := hg2u; have hEb := hEb2; have c0 := c0'; have c1 := c1'; have c2 := c2'
        clear HO2 HNE2 hbw hz2 hg2u hEb2 c0' c1' c2'
        obtain ⟨y, hy2⟩ : ∃ y, lastD s r f (q + 1) = y := ⟨_, rfl⟩
        have HF1 : y ≤ K → endF (lastD s r f) K (q + 1 + 1) = endF (lastD s r f) K (q + 1) ++ [((q + 1 : Nat) : Int), y] := fun h => by rw [← hy2] at h ⊢; simp [endF, h]
        have HF2 : ¬ y ≤ K → endF (lastD s r f) K (q + 1 + 1) = endF (lastD s r f) K (q + 1) := fun h => by rw [← hy2] at h; simp [endF, h]
        have HL1 : y ≤ K → (endF (lastD s r f) K (q + 1 + 1)).length = (n + 1) * 2 := fun h => by rw [HF1 h, List.length_append, endF_length, ← HNL.out]; simp; omega
        rw [hy2] at hc
        clear hy2
        have hl9 : (s.size : Int) < (s.size : Int) + 1 := by omega
        by_cases hle : y ≤ K
        · have HF := Lib.hid (HF1 hle); have HL := Lib.hid (HL1 hle)
          clear HF1 HF2 HL1
          go_wp2_with fail
          go_quiet (fail)
          have hY := below_drewN (Below.refl w2.heap.size w2) nq
          have hYs : (w2.drewN nq).heap.size = w2.heap.size := by simp
          have hcY := (hY.cell (p := ⟨g2, s.size, none⟩) hgl).trans hc
          have HOY := Lib.hid (HO.out.kept hY)
          have d0 := (hY.cell (p := ⟨w.heap.size, 0, none⟩) (by show w.heap.size < _; omega)).trans c0
          have d1 := (hY.cell (p := ⟨w.heap.size, 1, none⟩) (by show w.heap.size < _; omega)).trans c1
          have d2 := (hY.cell (p := ⟨w.heap.size, 2, none⟩) (by show w.heap.size < _; omega)).trans c2
          have HCY := Lib.hid (fun i hi => (hY.cell (p := ⟨g2, i, none⟩) hgl).trans (HCO.out i hi))
          have hbY := below_drewN hb nq
          generalize w2.drewN nq = Y at *
          clear hc c0 c1 c2 hY hb HO
          rw [← hYs] at hgl hz
          have hEY : ∀ q, (Value.slice a n cap).ownBlock = some q → w.heap.size + 1 ≤ q ∧ q < Y.heap.size := fun q hq => HOY.out.2.lt q hq
          have HYS := Lib.hid hYs
          clear hYs hEb
          go_wp2_with (at_builtin; refine wpList_append_own_at _ rfl _ _ 39 rfl (w.heap.size + 1) 42 i0 (.agg #[.int .i64 0, .int .i64 0]) 2 16 Try.underlying39 hi ht0 ht1 ht2 rfl (by decide) _ _ _ rfl (HOY.out.kept ((Below.refl Y.heap.size Y).alloc (Nat.le_refl _) (.cells #[.int .i64 ((q : Int) + 1), .int .i64 y] 42))).2 ⟨Y.heap.size, 0, none⟩ 1 1 [.int .i64 ((q : Int) + 1), .int .i64 y] rfl rfl (fun j u h => cells_new Y _ _ j u h) (by simp [Value.oneCell']) (by unfold maxLen; omega) (by omega) (by simp; omega) ?_; intro v' w3 hown' hg _ hat; obtain ⟨a', cap', rfl, hO'⟩ := OwnM.shape HL.out (by rw [HF.out, List.map_append]; exact hown'); have hgs := hg.size)
          have hk2 : ∀ b, b < Y.heap.size → some b ≠ (Value.slice a n cap).ownBlock → w3.heap[b]? = Y.heap[b]? := fun b h1 h2 => (hg.block b (by simp; omega) h2).trans (Below.heap_alloc Y (.cells #[.int .i64 ((q : Int) + 1), .int .i64 y] 42) b h1)
          simp only [World.size_alloc] at hgs
          have hw1 : some w.heap.size ≠ (Value.slice a n cap).ownBlock := fun e => by have := (hEY _ e.symm).1; omega
          have hB3 : Below w.heap.size Y w3 := ⟨hg.os, hg.tape, hg.output, by omega, fun b h => hk2 b (by omega) (fun e => by have := (hEY _ e.symm).1; omega)⟩
          have hne3 : (Value.slice a' (n + 1) cap').ownBlock ≠ some g2 := fun e => by
            rcases hat with e2 | e2
            · exact HNE.out (e2.symm.trans e)
            · rw [e] at e2; simp at e2; omega
          have hgX : some g2 ≠ (Value.slice a n cap).ownBlock := fun e => HNE.out e.symm
          clear hat hown' hg
          go_roundw
          case rel => exact ⟨q + 1 + 1, a', n + 1, cap', g2, cap2, by omega, by go_num, rfl, rfl, hO', fun i hi => (World.cell?_of_block (w := Y) (hk2 g2 hgl hgX)).trans (HCY.out i hi), hne3, by omega, (World.cell?_of_block (w := Y) (hk2 w.heap.size (by omega) hw1)).trans d0, (World.cell?_of_block (w := Y) (hk2 w.heap.size (by omega) hw1)).trans d1, (World.cell?_of_block (w := Y) (hk2 w.heap.size (by omega) hw1)).trans d2, hbY.trans hB3, by omega⟩
          case measure => first | (simp [intOf]; done) | (simp [intOf]; omega)
        · have HF := Lib.hid (HF2 hle)
          clear HF1 HF2 HL1
          go_wp2_with fail
          go_quiet (fail)
          go_wp2
          go_roundw
          case rel => exact ⟨q + 1 + 1, a, n, cap, g2, cap2, by omega, by go_num, rfl, rfl, by rw [HF.out]; exact HO.out.kept (below_drewN (Below.refl _ _) _), fun i hi => ((below_drewN (Below.refl w2.heap.size w2) _).cell (p := ⟨g2, i, none⟩) hgl).trans (HCO.out i hi), HNE.out, by simpa using hgl, ((below_drewN (Below.refl w2.heap.size w2) _).cell (p := ⟨w.heap.size, 0, none⟩) (by show w.heap.size < _; omega)).trans c0, ((below_drewN (Below.refl w2.heap.size w2) _).cell (p := ⟨w.heap.size, 1, none⟩) (by show w.heap.size < _; omega)).trans c1, ((below_drewN (Below.refl w2.heap.size w2) _).cell (p := ⟨w.heap.size, 2, none⟩) (by show w.heap.size < _; omega)).trans c2, below_drewN hb _, by simpa using hz⟩
          case measure => first | (simp [intOf]; done) | (simp [intOf]; omega)
    · obtain rfl : k = r.size + 1 := by omega
      have HO := Lib.hid hO
      clear hO hne hcol
      go_wp2
      go_ret
      exact ⟨_, _, _, rfl, HO.out.mono (by omega), hb⟩
end Go.Proofs.Ytelhgpoppgpniab

/-
  Chapter 18: how far the beginnings of a text are, swaps too, yielded one by one: the iterator's contract.
-/
import Derived.Test.YtgikjopmijomgabRange
import Derived.Test.YtgikjopmijomgabRowIn
import Derived.Test.YtgikjopmijomgabL18Next
import Derived.Test.YtgikjopmijomgabColsIt
namespace Go.Proofs.Ytgikjopmijomgab
open Go Go.RowKit Go.Shelf
set_option linter.unusedVariables false
set_option maxRecDepth 100000
set_option linter.unusedSimpArgs false
attribute [local go_sem] Oper.semAt_some
theorem byteAt_pre (s : ByteArray) (m i : Nat) (hi : i < m) (hm : m ≤ s.size) : byteAt (s.extract 0 m) i = byteAt s i := by
  unfold byteAt
  rw [ByteArray.data_extract, Array.toList_extract]
  simp [List.extract_eq_take_drop, List.getD_eq_getElem?_getD, hi]
theorem swapB_pre (s r : ByteArray) (m k i : Nat) (hk : k < m) (hm : m ≤ r.size) : swapB s (r.extract 0 m) k i = swapB s r k i := by
  unfold swapB
  rw [byteAt_pre r m k hk hm, byteAt_pre r m (k - 1) (by omega) hm]
def encD (x : Nat × Int) : Array Value := #[.int .i64 (x.1 : Int), .int .i64 x.2]
def HandD (s r : ByteArray) (rise : Int) (k : Nat) (x : Nat × Int) (W : World) : Prop := x = (k, swAt s r rise k s.size)
theorem on_setRow (T : Nat → Prop) (A : World) (g : Nat) (cs : Array Value) (h : ¬ T g) : On T A (A.setRow g cs) :=
  ⟨rfl, rfl, rfl, by simp, fun b t _ => setRow_other _ _ _ _ (fun e => h (by rw [← e]; exact t))⟩
set_option maxHeartbeats 4000000 in
/-- THE ITERATOR: it hands out how far each beginning is. -/
theorem swaps_iter (s r : ByteArray) (rise : Int) (bs br bi : Nat) (n : Nat) (T0 : Nat → Prop) (w : World) (hs : s.size ≤ 200) (hr : r.size ≤ 200) (h0 : 0 ≤ rise) (h1 : rise ≤ 1)
    (cs : w.cell? ⟨bs, 0, none⟩ = some (.string s)) (cr : w.cell? ⟨br, 0, none⟩ = some (.string r)) (ci : w.cell? ⟨bi, 0, none⟩ = some (.int .i64 rise)) (ns : ¬ T0 bs) (nr : ¬ T0 br) (ni : ¬ T0 bi) :
    Iter Fence.wide n Try.prog 52 #[boxV bs, boxV br, boxV bi] encD (HandD s r rise) (r.size + 1) T0 w := by
  intro l W K hW hK hY ⟨T, hk0, hT⟩
  have bs1 := block_lt_of_cell cs; have br1 := block_lt_of_cell cr; have bi1 := block_lt_of_cell ci
  simp only at bs1 br1 bi1
  have hWs := hW.size
  have cs := (hW.cell (p := ⟨bs, 0, none⟩) trivial bs1).trans cs
  have cr := (hW.cell (p := ⟨br, 0, none⟩) trivial br1).trans cr
  have ci := (hW.cell (p := ⟨bi, 0, none⟩) trivial bi1).trans ci
  clear hW
  have hz := row_zero
  have bsW : bs < W.heap.size := by omega
  have brW : br < W.heap.size := by omega
  have biW : bi < W.heap.size := by omega
  refine callsIn_of_wp Try.func52 rfl trivial ?_ rfl
  simp only [Try.ntmps52, List.size_toArray, List.length_cons, List.length_nil, Nat.reduceAdd, Nat.reduceSub, Array.replicate_succ, Array.replicate_zero, List.push_toArray, List.append_toArray, List.nil_append, List.cons_append]
  gi_wp2
  refine ⟨trivial, fun h => (Bool.false_ne_true h).elim, ?_⟩
  have hb0 : Below W.heap.size W (W.alloc (.cells zeros201 76)) := (Below.refl _ W).alloc (Nat.le_refl _) _
  have hn0 : (W.alloc (.cells zeros201 76)).heap[W.heap.size]? = some (.cells zeros201 76 (0, 0)) := heap_alloc_new _ _
  have hv0 : (W.alloc (.cells zeros201 76)).heap.size = W.heap.size + 1 := World.size_alloc _ _
  generalize W.alloc (.cells zeros201 76) = V at *
  refine (callsIn_wide.2 (impl_firstRow s.size 1 (swAt s r rise 0) V hs (sw_first _ _ _ _) (fun i => by rw [sw_first, sw_first]; omega) (fun i hi => by rw [sw_first]; omega))).mono ?_
  rintro e w1 ⟨rfl, hb1⟩
  have hs1 := hb1.size
  have HT := Lib.hid hT
  have cs1 := (hb1.cell (p := ⟨bs, 0, none⟩) (by show bs < _; omega)).trans ((hb0.cell (p := ⟨bs, 0, none⟩) bsW).trans cs)
  have cr1 := (hb1.cell (p := ⟨br, 0, none⟩) (by show br < _; omega)).trans ((hb0.cell (p := ⟨br, 0, none⟩) brW).trans cr)
  have ci1 := (hb1.cell (p := ⟨bi, 0, none⟩) (by show bi < _; omega)).trans ((hb0.cell (p := ⟨bi, 0, none⟩) biW).trans ci)
  have hn1 := (hb1.block W.heap.size (by omega)).trans hn0
  have hk1 : K 0 T w1 := hK _ _ _ _ hk0 ((On.of_below hb0 (fun b t _ => (HT.out b t).2)).trans (On.of_below hb1 (fun b t hb => hb)))
  clear hb1 hb0 hn0 cs cr ci hk0 hT
  have w1s : (w1.alloc (.cells zeros201 76)).heap.size = w1.heap.size + 1 := World.size_alloc _ _
  have cs2 : (w1.alloc (.cells zeros201 76)).cell? ⟨bs, 0, none⟩ = some (.string s) := (World.cell?_of_block (Below.heap_alloc w1 (.cells zeros201 76) bs (by omega))).trans cs1
  have cr2 : (w1.alloc (.cells zeros201 76)).cell? ⟨br, 0, none⟩ = some (.string r) := (World.cell?_of_block (Below.heap_alloc w1 (.cells zeros201 76) br (by omega))).trans cr1
  have ci2 : (w1.alloc (.cells zeros201 76)).cell? ⟨bi, 0, none⟩ = some (.int .i64 rise) := (World.cell?_of_block (Below.heap_alloc w1 (.cells zeros201 76) bi (by omega))).trans ci1
  have hn2 : (w1.alloc (.cells zeros201 76)).heap[W.heap.size]? = some (.cells zeros201 76 (0, 0)) := (Below.heap_alloc w1 (.cells zeros201 76) W.heap.size (by omega)).trans hn1
  have hl2 : (w1.alloc (.cells zeros201 76)).heap[w1.heap.size]? = some (.cells zeros201 76 (0, 0)) := heap_alloc_new _ _
  have hk2 : K 0 T (w1.alloc (.cells zeros201 76)) := hK _ _ _ _ hk1 ((On.refl T w1).alloc _)
  obtain ⟨Z, hZ⟩ : ∃ Z, (w1.alloc (.cells zeros201 76)).setRow w1.heap.size (rowN (swAt s r rise 0) (s.size + 1)) = Z := ⟨_, rfl⟩
  have zs : Z.heap.size = w1.heap.size + 1 := by rw [← hZ, setRow_size, w1s]
  have cs3 : Z.cell? ⟨bs, 0, none⟩ = some (.string s) := by rw [← hZ, cell_setRow_other _ _ _ _ (by show bs ≠ _; omega)]; exact cs2
  have cr3 : Z.cell? ⟨br, 0, none⟩ = some (.string r) := by rw [← hZ, cell_setRow_other _ _ _ _ (by show br ≠ _; omega)]; exact cr2
  have ci3 : Z.cell? ⟨bi, 0, none⟩ = some (.int .i64 rise) := by rw [← hZ, cell_setRow_other _ _ _ _ (by show bi ≠ _; omega)]; exact ci2
  have hn3 : Z.heap[W.heap.size]? = some (.cells zeros201 76 (0, 0)) := by rw [← hZ, setRow_other _ _ _ _ (by omega)]; exact hn2
  have hl3 : Z.heap[w1.heap.size]? = some (.cells (rowN (swAt s r rise 0) (s.size + 1)) 76 (0, 0)) := by rw [← hZ]; exact setRow_heap _ _ _ _ _ _ hl2
  have hk3 : K 0 T Z := by rw [← hZ]; exact hK _ _ _ _ hk2 (on_setRow _ _ _ _ (fun t => by have := (HT.out _ t).2; omega))
  have HK2 := Lib.hid hk3; have HN2 := Lib.hid hn3; have HL2 := Lib.hid hl2; have HL3 := Lib.hid hl3
  have bW1 : W.heap.size < w1.heap.size := by omega
  clear cs1 cr1 ci1 hn1 hk1 hk2 hn2 hl2 hk3 hn3 hl3 cs2 cr2 ci2
  have HZ := Lib.hid hZ
  clear hZ
  gi_wp2_with ((with_reducible show wpListIn _ _ _ _ _ (⟨_, Op.store 76 _ _, _, _, _, _⟩ :: _) _ _); refine wpListIn_store_row rfl 76 _ _ rfl w1.heap.size (rowN (swAt s r rise 0) (s.size + 1)) rfl rfl 76 zeros201 HL2.out (row_infoN _ _) (by rw [rowN_size]; rfl) (rowN_one _ _) ?_; rw [HZ.out])
  have HTo := Lib.hid (show ¬ T W.heap.size from fun t => Nat.lt_irrefl _ (HT.out _ t).2)
  have HTl := Lib.hid (show ¬ T w1.heap.size from fun t => by have := (HT.out _ t).2; omega)
  have HWT := Lib.hid (show ∀ b, T b → (T0 b ∨ w.heap.size ≤ b) ∧ b < Z.heap.size from fun b t => ⟨(HT.out b t).1, by have := (HT.out b t).2; omega⟩)
  clear HL2 HZ HT hs1 hv0 w1s
  obtain ⟨bo, hbo⟩ : ∃ bo, W.heap.size = bo := ⟨_, rfl⟩
  obtain ⟨bl, hbl⟩ : ∃ bl, w1.heap.size = bl := ⟨_, rfl⟩
  rw [hbo] at bsW brW biW bW1 HN2 HTo hWs ⊢
  rw [hbl] at bW1 HL3 zs HTl ⊢
  clear hbo hbl
  gi_loopw [13] (fun i wr => ∃ (k : Nat) (T : Nat → Prop), k ≤ r.size ∧ i = .int .i64 k ∧ K k T wr ∧ (∀ b, T b → (T0 b ∨ w.heap.size ≤ b) ∧ b < wr.heap.size) ∧ ¬ T bo ∧ ¬ T bl ∧ wr.heap[bo]? = some (.cells (rowN (swAt s r rise (k - 1)) (if k = 0 then 0 else s.size + 1)) 76 (0, 0)) ∧ wr.heap[bl]? = some (.cells (rowN (swAt s r rise k) (s.size + 1)) 76 (0, 0)) ∧ wr.cell? ⟨bs, 0, none⟩ = some (.string s) ∧ wr.cell? ⟨br, 0, none⟩ = some (.string r) ∧ wr.cell? ⟨bi, 0, none⟩ = some (.int .i64 rise) ∧ bl < wr.heap.size ∧ w.heap.size ≤ wr.heap.size)
    (fun i _ => r.size - (intOf i).toNat)
  case atStart => exact ⟨0, T, by omega, rfl, HK2.out, HWT.out, HTo.out, HTl.out, by rw [HN2.out, ← zeros_rowN (swAt s r rise (0 - 1))]; rfl, HL3.out, cs3, cr3, ci3, by omega, by omega⟩
  case round =>
    obtain ⟨k, T, hk, rfl, hKk, hT, hTo, hTl, ho, hl, cs, cr, ci, hlz, hsz⟩ := hrel
    have nTs : ¬ T bs := fun t => (hT bs t).1.elim ns (by omega)
    have nTr : ¬ T br := fun t => (hT br t).1.elim nr (by omega)
    have nTi : ¬ T bi := fun t => (hT bi t).1.elim ni (by omega)
    obtain ⟨fn, tmps, assign, body, hy, hR⟩ := hY k T (k, swAt s r rise k s.size) wr (by omega) hKk rfl
    dsimp only [encD] at hy
    have sL1 : (s.size : Int) < 201 := by omega
    have sL0 : (0 : Int) ≤ (s.size : Int) := by omega
    have cL : wr.cell? ⟨bl, s.size, none⟩ = some (.int .i64 (swAt s r rise k s.size)) := by rw [cell_of_row wr _ s.size _ _ _ hl, rowN_below _ _ _ (by omega) (by omega)]
    by_cases hlt : k < r.size
    · have HTT := Lib.hid hT
      have HO := Lib.hid ho; have HL := Lib.hid hl
      have HTo := Lib.hid hTo; have HTl := Lib.hid hTl
      clear hT HK2 HN2 HL3 HWT cs3 cr3 ci3 ho hl hTo hTl
      gi_wp2
      refine ⟨fun h => (Bool.false_ne_true h).elim, hR.mono ?_⟩
      rintro e W3 ⟨rfl, T', hK3, hOn, hT3⟩
      have bol := (Array.getElem?_eq_some_iff.1 HO.out).1
      have cs3 := (hOn.cell (p := ⟨bs, 0, none⟩) nTs (by show bs < _; omega)).trans cs
      have cr3 := (hOn.cell (p := ⟨br, 0, none⟩) nTr (by show br < _; omega)).trans cr
      have ci3 := (hOn.cell (p := ⟨bi, 0, none⟩) nTi (by show bi < _; omega)).trans ci
      have ho3 := (hOn.block bo HTo.out bol).trans HO.out
      have hl3 := (hOn.block bl HTl.out hlz).trans HL.out
      have hs3 := hOn.size
      have HT3 := Lib.hid hT3
      have kw : IntKind.i64.wrap ((k : Int) + 1) = (k : Int) + 1 := by rw [IntKind.wrap_i64]; omega
      have k0 : (0 : Int) ≤ (k : Int) + 1 := by omega
      have k1 : (k : Int) + 1 ≤ (r.size : Int) := by omega
      have kt : ((k : Int) + 1).toNat = k + 1 := by omega
      have hmx : Try.prog.follows .mixedOrders = true := by kernel_rfl
      have hbd := sw_bnd s r h0 h1
      have HB := Lib.hid hbd
      have b0 := hbd k 0
      have hw : IntKind.i64.wrap (swAt s r rise k 0 + rise) = swAt s r rise k 0 + rise := by rw [IntKind.wrap_i64]; omega
      have hXs : (r.extract 0 (k + 1)).size = k + 1 := by rw [ByteArray.size_extract]; omega
      have HG : Hid (∀ i, i < s.size → swAt s r rise (k + 1) (i + 1) = swapMin (swapB s (r.extract 0 (k + 1)) k i) (min3 (swAt s r rise k i + (df (byteAt s i) (byteAt (r.extract 0 (k + 1)) k) : Nat)) (swAt s r rise k (i + 1) + 1) (swAt s r rise (k + 1) i + 1)) (swAt s r rise (k - 1) (i - 1))) := by
        intro i hi
        rw [sw_step, byteAt_pre r (k + 1) k (by omega) (by omega), swapB_pre s r (k + 1) k i (by omega) (by omega)]
      obtain ⟨mo, hmo⟩ : ∃ mo, (if k = 0 then 0 else s.size + 1) = mo := ⟨_, rfl⟩
      have hmo2 : 0 < k → mo = s.size + 1 := fun h => by rw [← hmo, if_neg (by omega)]
      rw [hmo] at ho3
      obtain ⟨L, hLe⟩ : ∃ L, swAt s r rise k = L := ⟨_, rfl⟩
      obtain ⟨O, hOe⟩ : ∃ O, swAt s r rise (k - 1) = O := ⟨_, rfl⟩
      have BL : Hid (∀ i, i ≤ 200 → 0 ≤ L i ∧ L i ≤ 1000) := fun i hi => by rw [← hLe]; have := HB.out k i; omega
      have BO : Hid (∀ i, i ≤ 200 → 0 ≤ O i ∧ O i ≤ 1000) := fun i hi => by rw [← hOe]; have := HB.out (k - 1) i; omega
      have BG : Hid (∀ i, i ≤ 200 → 0 ≤ swAt s r rise (k + 1) i ∧ swAt s r rise (k + 1) i ≤ 1000) := fun i hi => by have := HB.out (k + 1) i; omega
      have HG0 : Hid (swAt s r rise (k + 1) 0 = L 0 + rise) := by show _ = _; rw [← hLe, sw_next0]
      rw [hLe] at hw hl3 HG
      rw [hOe] at ho3 HG
      have HLE := Lib.hid hLe
      have lb : bl ≠ bo := by omega
      have ob : bo ≠ bl := by omega
      clear hT3 hOn hR hy cs cr ci cL hbd b0 HB hLe hOe hmo HO HL
      gi_wp2
      have hSS : (fun W' => W'.heap[bo]? = some (.cells (rowN O mo) 76 (0, 0)) ∧ W'.heap[bl]? = some (.cells (rowN L (s.size + 1)) 76 (0, 0)) ∧ W'.cell? ⟨bs, 0, none⟩ = some (.string s) ∧ W'.cell? ⟨br, 0, none⟩ = some (.string r) ∧ W'.cell? ⟨bi, 0, none⟩ = some (.int .i64 rise)) W3.drew := ⟨ho3, hl3, cs3, cr3, ci3⟩
      refine regionL (fun W' => W'.heap[bo]? = some (.cells (rowN O mo) 76 (0, 0)) ∧ W'.heap[bl]? = some (.cells (rowN L (s.size + 1)) 76 (0, 0)) ∧ W'.cell? ⟨bs, 0, none⟩ = some (.string s) ∧ W'.cell? ⟨br, 0, none⟩ = some (.string r) ∧ W'.cell? ⟨bi, 0, none⟩ = some (.int .i64 rise)) [13, 14] hmx ?_
      refine takeL (i := 0) rfl (by kernel_rfl) (by kernel_rfl) (by kernel_rfl) (by kernel_rfl) (by kernel_rfl) (by kernel_rfl) (fun _ _ _ h => h) hSS (gives_row (by rfl) 76 _ rfl bl (rowN L (s.size + 1)) 76 (0, 0) _ rfl (fun _ h => h.2.1) Try.underlying76 rfl (row_infoN _ _)) ?_
      (try simp only [Act.put, List.setIfInBounds_toArray, List.set_cons_zero, List.set_cons_succ])
      refine takeL (i := 1) (v := ?_) rfl (by kernel_rfl) (by kernel_rfl) (by kernel_rfl) (by kernel_rfl) (by kernel_rfl) (by kernel_rfl) (fun _ _ _ h => h) hSS ⟨.inl ⟨by rfl, ?_⟩, fun _ => rfl⟩ ?_
      rotate_left
      · intro W1 h1; obtain ⟨s0, s1, s2, s3, s4⟩ := h1; go_simp; try with_reducible rfl
      (try simp only [Act.put, List.setIfInBounds_toArray, List.set_cons_zero, List.set_cons_succ])
      refine takeL (i := 2) (v := ?_) rfl (by kernel_rfl) (by kernel_rfl) (by kernel_rfl) (by kernel_rfl) (by kernel_rfl) (by kernel_rfl) (fun _ _ _ h => h) hSS ⟨.inl ⟨by rfl, ?_⟩, fun _ => rfl⟩ ?_
      rotate_left
      · intro W1 h1; obtain ⟨s0, s1, s2, s3, s4⟩ := h1; go_simp; try with_reducible rfl
      (try simp only [Act.put, List.setIfInBounds_toArray, List.set_cons_zero, List.set_cons_succ])
      refine takeL (i := 3) (v := ?_) rfl (by kernel_rfl) (by kernel_rfl) (by kernel_rfl) (by kernel_rfl) (by kernel_rfl) (by kernel_rfl) (fun _ _ _ h => h) hSS ⟨.inl ⟨by rfl, ?_⟩, fun _ => rfl⟩ ?_
      rotate_left
      · intro W1 h1; obtain ⟨s0, s1, s2, s3, s4⟩ := h1; go_simp; try with_reducible rfl
      (try simp only [Act.put, List.setIfInBounds_toArray, List.set_cons_zero, List.set_cons_succ])
      refine takeL (i := 4) (v := ?_) rfl (by kernel_rfl) (by kernel_rfl) (by kernel_rfl) (by kernel_rfl) (by kernel_rfl) (by kernel_rfl) (fun _ _ _ h => h) hSS ⟨.inl ⟨by rfl, ?_⟩, fun _ => rfl⟩ ?_
      rotate_left
      · intro W1 h1; obtain ⟨s0, s1, s2, s3, s4⟩ := h1; go_simp; try with_reducible rfl
      (try simp only [Act.put, List.setIfInBounds_toArray, List.set_cons_zero, List.set_cons_succ])
      refine takeL (i := 5) (v := ?_) rfl (by kernel_rfl) (by kernel_rfl) (by kernel_rfl) (by kernel_rfl) (by kernel_rfl) (by kernel_rfl) (fun _ _ _ h => h) hSS ⟨.inl ⟨by rfl, ?_⟩, fun _ => rfl⟩ ?_
      rotate_left
      · intro W1 h1; obtain ⟨s0, s1, s2, s3, s4⟩ := h1; go_simp; try with_reducible rfl
      (try simp only [Act.put, List.setIfInBounds_toArray, List.set_cons_zero, List.set_cons_succ])
      refine takeL (i := 6) rfl (by kernel_rfl) (by kernel_rfl) (by kernel_rfl) (by kernel_rfl) (by kernel_rfl) (by kernel_rfl) (fun _ _ _ h => h) hSS (gives_row (by rfl) 76 _ rfl bo (rowN O mo) 76 (0, 0) _ rfl (fun _ h => h.1) Try.underlying76 rfl (row_infoN _ _)) ?_
      (try simp only [Act.put, List.setIfInBounds_toArray, List.set_cons_zero, List.set_cons_succ])
      refine takeL (i := 7) rfl (by kernel_rfl) (by kernel_rfl) (by kernel_rfl) (by kernel_rfl) (by kernel_rfl) (by kernel_rfl) (fun _ _ _ h => h) hSS (gives_row (by rfl) 76 _ rfl bl (rowN L (s.size + 1)) 76 (0, 0) _ rfl (fun _ h => h.2.1) Try.underlying76 rfl (row_infoN _ _)) ?_
      (try simp only [Act.put, List.setIfInBounds_toArray, List.set_cons_zero, List.set_cons_succ])
      refine takeL (i := 8) (v := ?_) rfl (by kernel_rfl) (by kernel_rfl) (by kernel_rfl) (by kernel_rfl) (by kernel_rfl) (by kernel_rfl) (fun _ _ _ h => h) hSS ⟨.inl ⟨by rfl, ?_⟩, fun _ => rfl⟩ ?_
      rotate_left
      · intro W1 h1; obtain ⟨s0, s1, s2, s3, s4⟩ := h1; go_simp; try with_reducible rfl
      (try simp only [Act.put, List.setIfInBounds_toArray, List.set_cons_zero, List.set_cons_succ])
      refine takeL (i := 9) (v := ?_) rfl (by kernel_rfl) (by kernel_rfl) (by kernel_rfl) (by kernel_rfl) (by kernel_rfl) (by kernel_rfl) (fun _ _ _ h => h) hSS ⟨.inl ⟨by rfl, ?_⟩, fun _ => rfl⟩ ?_
      rotate_left
      · intro W1 h1; obtain ⟨s0, s1, s2, s3, s4⟩ := h1; have c0 : W1.cell? ⟨bl, 0, none⟩ = some (.int .i64 (L 0)) := (by rw [cell_of_row W1 _ 0 _ _ _ s1, rowN_below _ _ _ (by omega) (by omega)]); go_simp; try with_reducible rfl
      (try simp only [Act.put, List.setIfInBounds_toArray, List.set_cons_zero, List.set_cons_succ])
      refine takeL (i := 10) (v := ?_) rfl (by kernel_rfl) (by kernel_rfl) (by kernel_rfl) (by kernel_rfl) (by kernel_rfl) (by kernel_rfl) (fun _ _ _ h => h) hSS ⟨.inl ⟨by rfl, ?_⟩, fun _ => rfl⟩ ?_
      rotate_left
      · intro W1 h1; obtain ⟨s0, s1, s2, s3, s4⟩ := h1; go_simp; try with_reducible rfl
      (try simp only [Act.put, List.setIfInBounds_toArray, List.set_cons_zero, List.set_cons_succ])
      refine takeL (i := 11) (v := ?_) rfl (by kernel_rfl) (by kernel_rfl) (by kernel_rfl) (by kernel_rfl) (by kernel_rfl) (by kernel_rfl) (fun _ _ _ h => h) hSS ⟨.inl ⟨by rfl, ?_⟩, fun _ => rfl⟩ ?_
      rotate_left
      · intro W1 h1; obtain ⟨s0, s1, s2, s3, s4⟩ := h1; go_simp; try with_reducible rfl
      (try simp only [Act.put, List.setIfInBounds_toArray, List.set_cons_zero, List.set_cons_succ])
      refine oneL (i := 12) (by kernel_rfl) rfl (fun K1 hK1 => ?_)
      go_simp
      refine ⟨trivial, fun h => (Bool.false_ne_true h).elim, ?_⟩
      refine (callsIn_wide.2 (impl_nextSwaps s (r.extract 0 (k + 1)) k mo O L (swAt s r rise (k + 1)) (L 0 + rise) W3.drew hs hXs (by omega) hmo2 BL.out BO.out BG.out HG0.out HG.out)).mono ?_
      rintro e w4 ⟨rfl, hb4⟩
      have hb5 : Below W3.heap.size W3 w4 := below_undrew hb4
      have ho4 := (hb5.block bo (by omega)).trans ho3
      have hl4 := (hb5.block bl (by omega)).trans hl3
      have cs4 := (hb5.cell (p := ⟨bs, 0, none⟩) (by show bs < _; omega)).trans cs3
      have cr4 := (hb5.cell (p := ⟨br, 0, none⟩) (by show br < _; omega)).trans cr3
      have ci4 := (hb5.cell (p := ⟨bi, 0, none⟩) (by show bi < _; omega)).trans ci3
      refine hK1 _ _ (fun _ => ⟨ho4, hl4, cs4, cr4, ci4⟩) ?_
      clear hK1 K1 hSS
      have hs5 := hb5.size
      refine oneL (i := 13) (by kernel_rfl) rfl (fun K1 hK1 => ?_)
      rw [if_pos (by rfl)]
      refine wpIn_store_row 76 _ _ rfl bo (rowN L (s.size + 1)) rfl rfl 76 (rowN O mo) ho4 (row_infoN _ _) (by rw [rowN_size, rowN_size]) (rowN_one _ _) ?_
      refine hK1 _ _ (fun h => by cases h) ?_
      clear hK1 K1
      have hl5 : (w4.setRow bo (rowN L (s.size + 1))).heap[bl]? = some (.cells (rowN L (s.size + 1)) 76 (0, 0)) := by rw [setRow_other _ _ _ _ lb]; exact hl4
      refine oneL (i := 14) (by kernel_rfl) rfl (fun K1 hK1 => ?_)
      rw [if_pos (by rfl)]
      refine wpIn_store_row 76 _ _ rfl bl (rowN (swAt s r rise (k + 1)) (s.size + 1)) rfl rfl 76 (rowN L (s.size + 1)) hl5 (row_infoN _ _) (by rw [rowN_size, rowN_size]) (rowN_one _ _) ?_
      refine hK1 _ _ (fun h => by cases h) ?_
      clear hK1 K1
      refine doneL (by kernel_rfl) ?_ _
      obtain ⟨Z, hZ⟩ : ∃ Z, (w4.setRow bo (rowN L (s.size + 1))).setRow bl (rowN (swAt s r rise (k + 1)) (s.size + 1)) = Z := ⟨_, rfl⟩
      have zl : Z.heap[bl]? = some (.cells (rowN (swAt s r rise (k + 1)) (s.size + 1)) 76 (0, 0)) := by rw [← hZ]; exact setRow_heap _ _ _ _ _ _ hl5
      have zo : Z.heap[bo]? = some (.cells (rowN L (s.size + 1)) 76 (0, 0)) := by rw [← hZ, setRow_other _ _ _ _ ob]; exact setRow_heap _ _ _ _ _ _ ho4
      have zc : ∀ b, b ≠ bo → b ≠ bl → Z.cell? ⟨b, 0, none⟩ = w4.cell? ⟨b, 0, none⟩ := fun b h1 h2 => by rw [← hZ, cell_setRow_other _ _ _ _ h2, cell_setRow_other _ _ _ _ h1]
      have zs2 : Z.heap.size = w4.heap.size := by rw [← hZ, setRow_size, setRow_size]
      have nT'o : ¬ T' bo := fun t => (HT3.out bo t).1.elim HTo.out (by omega)
      have nT'l : ¬ T' bl := fun t => (HT3.out bl t).1.elim HTl.out (by omega)
      have zK : K (k + 1) T' Z := by
        rw [← hZ]
        exact hK _ _ _ _ hK3 (((On.of_below hb5 (fun b _ hb => hb)).trans (on_setRow T' w4 bo _ nT'o)).trans (on_setRow T' _ bl _ nT'l))
      rw [hZ]
      have ZL := Lib.hid zl; have ZO := Lib.hid zo; have ZC := Lib.hid zc; have ZK := Lib.hid zK
      clear hZ hl4 hl5 ho4 hb4 hb5 zl zo zc zK hl3 ho3 cs3 cr3 ci3
      gi_wp2
      go_roundw
      case rel =>
        refine ⟨k + 1, T', by omega, by go_num, ZK.out, fun b t => ⟨(HT3.out b t).1.elim (HTT.out b · |>.1) (fun h => .inr (by omega)), by have := (HT3.out b t).2; omega⟩, nT'o, nT'l, ?_, ZL.out, (ZC.out bs (by omega) (by omega)).trans cs4, (ZC.out br (by omega) (by omega)).trans cr4, (ZC.out bi (by omega) (by omega)).trans ci4, by omega, by omega⟩
        rw [ZO.out, ← HLE.out, Nat.add_sub_cancel, if_neg (by omega)]
      case measure => simp [intOf]; omega
    · obtain rfl : k = r.size := by omega
      have HTT := Lib.hid hT
      have hmx : Try.prog.follows .mixedOrders = true := by kernel_rfl
      clear hT HK2 HN2 HL3 HWT cs3 cr3 ci3 ho hl hTo hTl hk
      gi_wp2
      have hSS : (fun W' => W'.cell? ⟨bl, s.size, none⟩ = some (.int .i64 (swAt s r rise r.size s.size)) ∧ W'.cell? ⟨bs, 0, none⟩ = some (.string s) ∧ W'.cell? ⟨br, 0, none⟩ = some (.string r)) wr.drew := ⟨by go_simp, by go_simp, by go_simp⟩
      refine regionL (fun W' => W'.cell? ⟨bl, s.size, none⟩ = some (.int .i64 (swAt s r rise r.size s.size)) ∧ W'.cell? ⟨bs, 0, none⟩ = some (.string s) ∧ W'.cell? ⟨br, 0, none⟩ = some (.string r)) [7] hmx ?_
      refine takeL (i := 0) (v := ?_) rfl (by kernel_rfl) (by kernel_rfl) (by kernel_rfl) (by kernel_rfl) (by kernel_rfl) (by kernel_rfl) (fun _ _ _ h => h) hSS ⟨.inl ⟨by rfl, ?_⟩, fun _ => rfl⟩ ?_
      rotate_left
      · intro W1 h1; obtain ⟨s0, s1, s2⟩ := h1; go_simp; try with_reducible rfl
      (try simp only [Act.put, List.setIfInBounds_toArray, List.set_cons_zero, List.set_cons_succ])
      refine takeL (i := 1) (v := ?_) rfl (by kernel_rfl) (by kernel_rfl) (by kernel_rfl) (by kernel_rfl) (by kernel_rfl) (by kernel_rfl) (fun _ _ _ h => h) hSS ⟨.inl ⟨by rfl, ?_⟩, fun _ => rfl⟩ ?_
      rotate_left
      · intro W1 h1; obtain ⟨s0, s1, s2⟩ := h1; go_simp; try with_reducible rfl
      (try simp only [Act.put, List.setIfInBounds_toArray, List.set_cons_zero, List.set_cons_succ])
      refine takeL (i := 2) (v := ?_) rfl (by kernel_rfl) (by kernel_rfl) (by kernel_rfl) (by kernel_rfl) (by kernel_rfl) (by kernel_rfl) (fun _ _ _ h => h) hSS ⟨.inl ⟨by rfl, ?_⟩, fun _ => rfl⟩ ?_
      rotate_left
      · intro W1 h1; obtain ⟨s0, s1, s2⟩ := h1; go_simp; try with_reducible rfl
      (try simp only [Act.put, List.setIfInBounds_toArray, List.set_cons_zero, List.set_cons_succ])
      refine takeL (i := 3) (v := ?_) rfl (by kernel_rfl) (by kernel_rfl) (by kernel_rfl) (by kernel_rfl) (by kernel_rfl) (by kernel_rfl) (fun _ _ _ h => h) hSS ⟨.inl ⟨by rfl, ?_⟩, fun _ => rfl⟩ ?_
      rotate_left
      · intro W1 h1; obtain ⟨s0, s1, s2⟩ := h1; go_simp; try with_reducible rfl
      (try simp only [Act.put, List.setIfInBounds_toArray, List.set_cons_zero, List.set_cons_succ])
      refine takeL (i := 4) (v := ?_) rfl (by kernel_rfl) (by kernel_rfl) (by kernel_rfl) (by kernel_rfl) (by kernel_rfl) (by kernel_rfl) (fun _ _ _ h => h) hSS ⟨.inl ⟨by rfl, ?_⟩, fun _ => rfl⟩ ?_
      rotate_left
      · intro W1 h1; obtain ⟨s0, s1, s2⟩ := h1; go_simp; try with_reducible rfl
      (try simp only [Act.put, List.setIfInBounds_toArray, List.set_cons_zero, List.set_cons_succ])
      refine takeL (i := 5) (v := ?_) rfl (by kernel_rfl) (by kernel_rfl) (by kernel_rfl) (by kernel_rfl) (by kernel_rfl) (by kernel_rfl) (fun _ _ _ h => h) hSS ⟨.inl ⟨by rfl, ?_⟩, fun _ => rfl⟩ ?_
      rotate_left
      · intro W1 h1; obtain ⟨s0, s1, s2⟩ := h1; go_simp; try with_reducible rfl
      (try simp only [Act.put, List.setIfInBounds_toArray, List.set_cons_zero, List.set_cons_succ])
      refine takeL (i := 6) (v := ?_) rfl (by kernel_rfl) (by kernel_rfl) (by kernel_rfl) (by kernel_rfl) (by kernel_rfl) (by kernel_rfl) (fun _ _ _ h => h) hSS ⟨.inl ⟨by rfl, ?_⟩, fun _ => rfl⟩ ?_
      rotate_left
      · intro W1 h1; obtain ⟨s0, s1, s2⟩ := h1; go_simp; try with_reducible rfl
      (try simp only [Act.put, List.setIfInBounds_toArray, List.set_cons_zero, List.set_cons_succ])
      refine oneL (i := 7) (by kernel_rfl) rfl (fun K1 hK1 => ?_)
      clear hy hR
      obtain ⟨fn, tmps, assign, body, hy, hR⟩ := hY r.size T (r.size, swAt s r rise r.size s.size) wr.drew (by omega) (hK _ _ _ _ hKk (On.refl T wr).drew) rfl
      dsimp only [encD] at hy
      go_simp
      refine ⟨fun h => (Bool.false_ne_true h).elim, hR.mono ?_⟩
      rintro e W3 ⟨rfl, T', hK3, hOn, hT3⟩
      refine hK1 _ _ (fun h => by cases h) ?_
      refine doneL (by kernel_rfl) ?_ _
      gi_wp2
      go_end0
      exact ⟨⟨_, rfl⟩, _, hK3⟩
end Go.Proofs.Ytgikjopmijomgab

/-
  Chapter 3: the columns of a text, yielded one by one: the iterator's contract.
-/
import Derived.Test.YtpniiaemgobaiaaRange
import Derived.Test.YtpniiaemgobaiaaL3Next
import Derived.Test.YtpniiaemgobaiaaL3First
namespace Go.Proofs.Ytpniiaemgobaiaa
open Go Go.RowKit Go.Shelf
set_option linter.unusedVariables false
set_option maxRecDepth 100000
attribute [local go_sem] Oper.semAt_some
/-- the column behind k bytes of r -/
def colAt (s r : ByteArray) (rise : Int) : Nat → Nat → Int
  | 0 => idI
  | k + 1 => nextAt (eqP s ((byteAt r k).toNat : Int)) (colAt s r rise k) (colAt s r rise k 0 + rise)
theorem colAt_bnd (s r : ByteArray) {rise : Int} (h0 : 0 ≤ rise) (h1 : rise ≤ 1) (k : Nat) : Bnd (colAt s r rise k) s.size (s.size + k) := by
  induction k with
  | zero => intro i hi; simp only [colAt, idI]; omega
  | succ k ih =>
    have := ih 0 (by omega)
    have h := nextAt_bnd (eq := eqP s ((byteAt r k).toNat : Int)) ih (head := colAt s r rise k 0 + rise) (by omega) (by omega)
    intro i hi
    have := h i hi
    simp only [colAt]
    omega
/-- what is handed: the number of bytes that are read, and the column -/
def encC (n : Nat) (x : Nat × Nat × Nat) : Array Value := #[.int .i64 x.1, .slice (some ⟨x.2.1, 0, none⟩) (n + 1) x.2.2]
def HandC (s r : ByteArray) (rise : Int) (k : Nat) (x : Nat × Nat × Nat) (W : World) : Prop := x.1 = k ∧ ∀ i, i < s.size + 1 → W.cell? ⟨x.2.1, i, none⟩ = some (.int .i64 (colAt s r rise k i))
theorem handC_put (s r : ByteArray) (rise : Int) (k : Nat) (x : Nat × Nat × Nat) (W : World) (l : Nat) (o o' : Obj) (h : HandC s r rise k x W) (hl : W.heap[l]? = some o) (ho : o.isCells = false) : HandC s r rise k x (W.putObj l o') := by
  exact ⟨h.1, fun i hi => cell_kept (h.2 i hi) (grownBy_putObj' W l o') (fun r e => by cases e; exact ⟨o, hl, ho⟩)⟩
abbrev boxV (b : Nat) : Value := .pointer (some ⟨b, 0, none⟩)
set_option maxHeartbeats 4000000 in
/-- THE ITERATOR: it hands out each column in turn. -/
theorem columns_iter (s r : ByteArray) (rise : Int) (bs br bi : Nat) (n : Nat) (T0 : Nat → Prop) (w : World) (hs : s.size ≤ 200) (hr : r.size ≤ 200) (h0 : 0 ≤ rise) (h1 : rise ≤ 1)
    (cs : w.cell? ⟨bs, 0, none⟩ = some (.string s)) (cr : w.cell? ⟨br, 0, none⟩ = some (.string r)) (ci : w.cell? ⟨bi, 0, none⟩ = some (.int .i64 rise)) (ns : ¬ T0 bs) (nr : ¬ T0 br) (ni : ¬ T0 bi) :
    Iter Fence.wide n Try.prog 92 #[boxV bs, boxV br, boxV bi] (encC s.size) (HandC s r rise) (r.size + 1) T0 w := by
  intro l W K hW hK hY ⟨T, hk0, hT⟩
  have bs1 := block_lt_of_cell cs; have br1 := block_lt_of_cell cr; have bi1 := block_lt_of_cell ci
  simp only at bs1 br1 bi1
  have hWs := hW.size
  have ws : ∀ {W1 : World}, On (fun b => ¬ T b) W W1 → True := fun _ => trivial
  have cs := (hW.cell (p := ⟨bs, 0, none⟩) trivial bs1).trans cs
  have cr := (hW.cell (p := ⟨br, 0, none⟩) trivial br1).trans cr
  have ci := (hW.cell (p := ⟨bi, 0, none⟩) trivial bi1).trans ci
  clear hW
  refine callsIn_of_wp Try.func92 rfl trivial ?_ rfl
  simp only [Try.ntmps92, List.size_toArray, List.length_cons, List.length_nil, Nat.reduceAdd, Nat.reduceSub, Array.replicate_succ, Array.replicate_zero, List.push_toArray, List.append_toArray, List.nil_append, List.cons_append]
  gi_wp2
  refine ⟨trivial, fun h => (Bool.false_ne_true h).elim, ?_⟩
  refine (callsIn_wide.2 (impl_firstColumn s _ (by omega))).mono ?_
  rintro e w1 ⟨a, cap, rfl, hO, hb1⟩
  obtain ⟨g, rfl, hg1, hg2⟩ := hO.head 0 (by omega)
  have hk1 : K 0 T w1 := hK _ _ _ _ hk0 (On.of_below hb1 (fun b _ hb => hb))
  have cs1 := (hb1.cell (p := ⟨bs, 0, none⟩) (by show bs < _; omega)).trans cs
  have cr1 := (hb1.cell (p := ⟨br, 0, none⟩) (by show br < _; omega)).trans cr
  have ci1 := (hb1.cell (p := ⟨bi, 0, none⟩) (by show bi < _; omega)).trans ci
  have hs1 := hb1.size
  have hc1 : ∀ i, i < s.size + 1 → w1.cell? ⟨g, i, none⟩ = some (.int .i64 (colAt s r rise 0 i)) := fun i hi => by
    rw [hO.cell i hi, intAt_tab _ _ _ hi]; rfl
  have HC1 := Lib.hid hc1
  have HT := Lib.hid hT
  clear cs cr ci hO hb1 hk0 hc1 hT
  gi_wp2
  gi_loopw [5, 11] (fun v i wr => ∃ (k g cap : Nat) (T : Nat → Prop), k ≤ r.size ∧ i = .int .i64 k ∧ v = .slice (some ⟨g, 0, none⟩) (s.size + 1) cap ∧ K k T wr ∧ (∀ b, T b → (T0 b ∨ w.heap.size ≤ b) ∧ b < wr.heap.size) ∧ ¬ T g ∧ g < wr.heap.size ∧ (∀ i, i < s.size + 1 → wr.cell? ⟨g, i, none⟩ = some (.int .i64 (colAt s r rise k i))) ∧ wr.cell? ⟨bs, 0, none⟩ = some (.string s) ∧ wr.cell? ⟨br, 0, none⟩ = some (.string r) ∧ wr.cell? ⟨bi, 0, none⟩ = some (.int .i64 rise) ∧ w.heap.size ≤ wr.heap.size)
    (fun _ i _ => r.size - (intOf i).toNat)
  case atStart => exact ⟨0, g, cap, T, by omega, rfl, rfl, hk1, fun b t => ⟨(HT.out b t).1, by have := (HT.out b t).2; omega⟩, fun t => by have := (HT.out g t).2; omega, hg2, HC1.out, cs1, cr1, ci1, by omega⟩
  case round =>
    obtain ⟨k, g, cap, T, hk, rfl, rfl, hKk, hT, hTg, hgl, hcol, cs, cr, ci, hsz⟩ := hrel
    have nTs : ¬ T bs := fun t => (hT bs t).1.elim ns (by omega)
    have nTr : ¬ T br := fun t => (hT br t).1.elim nr (by omega)
    have nTi : ¬ T bi := fun t => (hT bi t).1.elim ni (by omega)
    obtain ⟨fn, tmps, assign, body, hy, hR⟩ := hY k T (k, g, cap) wr (by omega) hKk ⟨rfl, hcol⟩
    dsimp only [encC] at hy
    by_cases hlt : k < r.size
    · have HTT := Lib.hid hT
      have HCO := Lib.hid hcol
      clear hT hcol cs1 cr1 ci1 HC1 HT hk1
      gi_wp2
      refine ⟨fun h => (Bool.false_ne_true h).elim, hR.mono ?_⟩
      rintro e W3 ⟨rfl, T', hK3, hOn, hT3⟩
      have cs3 := (hOn.cell (p := ⟨bs, 0, none⟩) nTs (by show bs < _; omega)).trans cs
      have cr3 := (hOn.cell (p := ⟨br, 0, none⟩) nTr (by show br < _; omega)).trans cr
      have ci3 := (hOn.cell (p := ⟨bi, 0, none⟩) nTi (by show bi < _; omega)).trans ci
      have hc3 : ∀ i, i < s.size + 1 → W3.cell? ⟨g, i, none⟩ = some (.int .i64 (colAt s r rise k i)) := fun i hi => (hOn.cell (p := ⟨g, i, none⟩) hTg hgl).trans (HCO.out i hi)
      have hI3 : Ints W3 (some ⟨g, 0, none⟩) (tab (colAt s r rise k) (s.size + 1)) := .inr ⟨g, 0, rfl, fun i hi => by rw [tab_length] at hi; rw [Nat.zero_add, intAt_tab _ _ _ hi]; exact hc3 i hi⟩
      have c0 := hc3 0 (by omega)
      have hs3 := hOn.size
      have HC3 := Lib.hid hc3
      have HT3 := Lib.hid hT3
      have hB := Lib.hid (colAt_bnd s r h0 h1 k)
      obtain ⟨hz0, hz1⟩ := hB.out 0 (by omega)
      have hrk := byteAt_eq r k hlt
      have HRK := Lib.hid hrk
      clear hc3 hT3 hOn hR hy cs cr ci hrk
      have hmx : Try.prog.follows .mixedOrders = true := by kernel_rfl
      have hw : IntKind.i64.wrap (colAt s r rise k 0 + rise) = colAt s r rise k 0 + rise := by rw [IntKind.wrap_i64]; omega
      gi_wp2
      gi_region_with_o (refine ⟨trivial, fun h => (Bool.false_ne_true h).elim, ?_⟩; gi_at_call 94; refine (callsIn_wide.2 (impl_nextColumn s (tab (colAt s r rise k) (s.size + 1)) (some ⟨g, 0, none⟩) (s.size + 1) cap _ _ (s.size + k) _ (by omega) rfl (tab_length _ _) (hI3.kept (by exact (Below.refl _ _).drew)) (fun i hi => by rw [intAt_tab _ _ _ (by omega)]; exact hB.out i hi) (by omega) (by omega) (by omega))).mono ?_; rintro e w4 ⟨a4, cap4, rfl, hO4, hb4⟩)
      all_goals
        obtain ⟨g4, rfl, hg4, hg5⟩ := hO4.head 0 (by omega)
        clear hw
        have hb5 : Below W3.heap.size W3 w4 := below_undrew hb4
        simp only [heap_drew] at hg4
        gi_wp2
        go_roundw
        case rel =>
          refine ⟨k + 1, g4, cap4, T', by omega, by go_num, rfl, hK _ _ _ _ hK3 (On.of_below hb5 (fun b _ hb => hb)), fun b t => ⟨(HT3.out b t).1.elim (HTT.out b · |>.1) (fun h => .inr (by omega)), by have := (HT3.out b t).2; have := hb5.size; omega⟩, fun t => by have := (HT3.out _ t).2; omega, hg5, fun i hi => ?_, (hb5.cell (p := ⟨bs, 0, none⟩) (by show bs < _; omega)).trans cs3, (hb5.cell (p := ⟨br, 0, none⟩) (by show br < _; omega)).trans cr3, (hb5.cell (p := ⟨bi, 0, none⟩) (by show bi < _; omega)).trans ci3, by have := hb5.size; omega⟩
          rw [hO4.cell i hi, intAt_tab _ _ _ hi, ← HRK.out]
          exact congrArg (fun x => some (Value.int .i64 x)) (nextAt_congr (n := s.size) (fun _ _ => rfl) (fun j hj => intAt_tab _ _ _ (by omega)) i (by omega))
        case measure => simp [intOf]; omega
    · obtain rfl : k = r.size := by omega
      have HTT := Lib.hid hT
      clear hT hcol cs1 cr1 ci1 HC1 HT hk1
      gi_wp2
      refine ⟨fun h => (Bool.false_ne_true h).elim, hR.mono ?_⟩
      rintro e W3 ⟨rfl, T', hK3, hOn, hT3⟩
      gi_wp2
      go_end0
      exact ⟨⟨_, rfl⟩, _, hK3⟩
end Go.Proofs.Ytpniiaemgobaiaa

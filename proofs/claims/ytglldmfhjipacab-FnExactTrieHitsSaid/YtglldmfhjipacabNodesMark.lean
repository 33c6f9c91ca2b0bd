/-
  Slices of nodes: the laws' mark on them turns what lies between two bounds only.
-/
import Derived.Test.YtglldmfhjipacabNodesTo
namespace Go.Proofs.Ytglldmfhjipacab
open Go.RowKit
set_option linter.unusedVariables false
set_option maxRecDepth 100000
/-- nothing but blocks from B on and below C is turned -/
structure Mid (B C : Nat) (w w' : World) : Prop where
  os : w'.os = w.os
  tape : w'.tape = w.tape
  output : w'.output = w.output
  size : w.heap.size ≤ w'.heap.size
  block : ∀ k, k < w.heap.size → (k < B ∨ C ≤ k) → w'.heap[k]? = w.heap[k]?
theorem Mid.refl (B C : Nat) (w : World) : Mid B C w w := ⟨rfl, rfl, rfl, Nat.le_refl _, fun _ _ _ => rfl⟩
theorem Mid.trans {B C : Nat} {u v w : World} (h : Mid B C u v) (k : Mid B C v w) : Mid B C u w :=
  ⟨k.os.trans h.os, k.tape.trans h.tape, k.output.trans h.output, Nat.le_trans h.size k.size, fun i hi ho => (k.block i (Nat.lt_of_lt_of_le hi h.size) ho).trans (h.block i hi ho)⟩
theorem Mid.below {B C : Nat} {u v : World} (h : Mid B C u v) (hB : B ≤ u.heap.size) : Below B u v := ⟨h.os, h.tape, h.output, h.size, fun k hk => h.block k (by omega) (.inl hk)⟩
theorem Mid.of_grown {B C : Nat} {u v : World} {r : Option Nat} (h : u.grownBy v r) (hr : ∀ k, r = some k → B ≤ k ∧ k < C) : Mid B C u v :=
  ⟨h.os, h.tape, h.output, h.size, fun k hk ho => h.block k hk fun e => by have := hr k e.symm; omega⟩
theorem Mid.cell {B C : Nat} {u v : World} {b o : Nat} {x : Value} (h : Mid B C u v) (hc : u.cell? ⟨b, o, none⟩ = some x) (hb : b < B ∨ C ≤ b) : v.cell? ⟨b, o, none⟩ = some x :=
  (World.cell?_of_block (h.block b (block_lt_of_cell hc) hb)).trans hc
theorem Mid.ints {B C : Nat} {u v : World} {a : Option Addr} {n cap D : Nat} {L : List Int} (h : Mid B C u v) (ho : OwnN u D a n cap L) (hD : C ≤ D) : OwnN v D a n cap L := by
  refine ⟨ho.1, ho.2.1, ?_⟩
  rcases ho.2.2 with h0 | ⟨g, c, cur, hv, hb, hg, r⟩
  · exact .inl h0
  · exact .inr ⟨g, c, cur, hv, hb, (h.block g (lt_of_block hg) (.inr (Nat.le_trans hD hb))).trans hg, r⟩
/-- n nodes in block g, whose numbers we no longer know -/
structure NSome (w : World) (B C g n : Nat) (S : Nat → Value) (M : Nat → List Int) (cur : Array Value) : Prop where
  blk : w.heap[g]? = some (.cells cur 63 (0, 0))
  siz : cur.size = n * 5
  row : ∀ i, i < n → cur[i * 5 + 3]? = some (S (i * 2)) ∧ cur[i * 5 + 4]? = some (S (i * 2 + 1))
  nest : Nest w B C g (n * 2) S M
theorem NMade.forget {w : World} {B C g n : Nat} {L : List Nd} {cur : Array Value} {S : Nat → Value} (h : NMade w B C g n n L cur S) : NSome w B C g n S (lstOf L) cur :=
  ⟨h.blk, h.siz, fun i hi => ⟨(h.row i hi).2.2.2.1, (h.row i hi).2.2.2.2⟩, h.nest⟩
theorem NSome.set {w : World} {B C g n i o : Nat} {S : Nat → Value} {M : Nat → List Int} {cur : Array Value} (h : NSome w B C g n S M cur) (v : Value) (hc : ∀ j, o ≠ j * 5 + 3 ∧ o ≠ j * 5 + 4) : NSome (w.setCell ⟨g, o, none⟩ v) B C g n S M (cur.setIfInBounds o v) :=
  ⟨heap_setCell_same _ _ _ _ _ _ h.blk, by simpa using h.siz, fun j hj => by
    simp only [Array.getElem?_setIfInBounds]
    rw [if_neg (hc j).1, if_neg (hc j).2]; exact h.row j hj, h.nest.setg _ _⟩
theorem NSome.mark {w w1 : World} {B C g n j : Nat} {S : Nat → Value} {M : Nat → List Int} {cur : Array Value} {a : Option Addr} {cap : Nat} {K : List Int} (h : NSome w B C g n S M cur) (hj : j < n * 2) (hS : S j = .slice a (M j).length cap) (hl : K.length = (M j).length)
    (ho : OwnN w1 B a (M j).length cap K) (hg : w.grownBy w1 (Value.slice a (M j).length cap).ownBlock) : NSome w1 B C g n S (updN M j K) cur :=
  ⟨(hg.block g (lt_of_block h.blk) fun e => (h.nest.lies j hj g (by rw [hS]; exact e.symm)).2 rfl).trans h.blk, h.siz, h.row, h.nest.mark hj hS hl ho hg⟩
theorem lens_upd {M : Nat → List Int} {len : Nat → Nat} {j : Nat} {K : List Int} (h : ∀ i, (M i).length = len i) (hK : K.length = (M j).length) : ∀ i, (updN M j K i).length = len i := fun i => by
  by_cases e : i = j
  · subst e; rw [updN_self, hK]; exact h i
  · rw [updN_other _ _ _ _ e]; exact h i
set_option maxHeartbeats 4000000 in
theorem laws_markNodeS (L : List Nd) (B C g cap : Nat) (k : Int) (S : Nat → Value) (cur : Array Value) (w : World) (h : NSome w B C g L.length S (lstOf L) cur) (hgB : B ≤ g) (hgC : g < C) (hlen : L.length ≤ 1048576) (hsum : ndSum L L.length ≤ 1048576) (hk0 : 0 ≤ k) (hk1 : k ≤ 1000) :
    Calls Try.prog 13 #[.slice (some ⟨g, 0, none⟩) L.length cap, .int .i64 k] w fun e w' => e = .returned (.int .i64 (k + 3 * L.length + ndSum L L.length)) ∧ Mid B C w w' := by
  go_enter Try.func13, Try.ntmps13
  go_wp2
  go_loopw [1, 5] (fun v i wr => ∃ (j : Nat) (m : Int) (M : Nat → List Int) (cu : Array Value), j ≤ L.length ∧ i = .int .i64 j ∧ v = .int .i64 m ∧ m = k + 3 * j + ndSum L j ∧ (∀ i, (M i).length = (lstOf L i).length) ∧ NSome wr B C g L.length S M cu ∧ Mid B C w wr)
    (fun _ i _ => L.length - (intOf i).toNat)
  case atStart => exact ⟨0, k, _, cur, by omega, rfl, rfl, by simp [ndSum], fun _ => rfl, h, Mid.refl _ _ _⟩
  case round =>
    obtain ⟨j, m, M, cu, hj, rfl, rfl, hm, hlen', hS, hb⟩ := hrel
    by_cases hlt : j < L.length
    · have hle := ndSum_le L (show j + 1 ≤ L.length from hlt)
      have hsj : ndSum L (j + 1) = ndSum L j + (ndAt L j).K.length + (ndAt L j).O.length := rfl
      obtain ⟨a3, c3, e3, o3⟩ := hS.nest.own (j * 2) (by omega)
      obtain ⟨a4, c4, e4, o4⟩ := hS.nest.own (j * 2 + 1) (by omega)
      have l3 : (M (j * 2)).length = (ndAt L j).K.length := by rw [hlen', lstOf_even]
      have l4 : (M (j * 2 + 1)).length = (ndAt L j).O.length := by rw [hlen', lstOf_odd]
      have hs1 := hS.set (i := j) (o := j * 5) (.int .i64 m) (fun i => ⟨by omega, by omega⟩)
      have hs2 := hs1.set (i := j) (o := j * 5 + 1) (.int .i64 (m + 1)) (fun i => ⟨by omega, by omega⟩)
      have hs3 := hs2.set (i := j) (o := j * 5 + 2) (.int .i64 (m + 1 + 1)) (fun i => ⟨by omega, by omega⟩)
      have hB3 : Mid B C w (((wr.setCell ⟨g, j * 5, none⟩ (.int .i64 m)).setCell ⟨g, j * 5 + 1, none⟩ (.int .i64 (m + 1))).setCell ⟨g, j * 5 + 2, none⟩ (.int .i64 (m + 1 + 1))) :=
        ((hb.trans (Mid.of_grown (grownBy_setCell1 _ g _ _) fun k hk => by cases hk; exact ⟨hgB, hgC⟩)).trans (Mid.of_grown (grownBy_setCell1 _ g _ _) fun k hk => by cases hk; exact ⟨hgB, hgC⟩)).trans (Mid.of_grown (grownBy_setCell1 _ g _ _) fun k hk => by cases hk; exact ⟨hgB, hgC⟩)
      have hg2 := hS.blk
      have hsz := hS.siz
      obtain ⟨r3, r4⟩ := hS.row j hlt
      have cel : ∀ i, i < L.length * 5 → ∃ v, wr.cell? ⟨g, i, none⟩ = some v := fun i hi => ⟨cu[i]'(by omega), by rw [cell_of_row wr _ _ _ _ _ hg2]; simp⟩
      obtain ⟨v0, k0⟩ := cel (j * 5) (by omega)
      obtain ⟨v1, k1⟩ := cel (j * 5 + 1) (by omega)
      obtain ⟨v2, k2⟩ := cel (j * 5 + 2) (by omega)
      have k3 : wr.cell? ⟨g, j * 5 + 3, none⟩ = some (.slice a3 (M (j * 2)).length c3) := (cell_of_row wr _ _ _ _ _ hg2).trans (by rw [r3, e3])
      have k4 : wr.cell? ⟨g, j * 5 + 4, none⟩ = some (.slice a4 (M (j * 2 + 1)).length c4) := (cell_of_row wr _ _ _ _ _ hg2).trans (by rw [r4, e4])
      have f0 := frozen_of_row wr _ (j * 5) _ _ hg2
      have f1 := frozen_of_row wr _ (j * 5 + 1) _ _ hg2
      have f2 := frozen_of_row wr _ (j * 5 + 2) _ _ hg2
      obtain ⟨a3', c3', e3', o3'⟩ := hs3.nest.own (j * 2) (by omega)
      rw [e3] at e3'
      simp only [Value.slice.injEq] at e3'
      obtain ⟨rfl, _, rfl⟩ := e3'
      have HS3 := Lib.hid hs3
      have H3 := Lib.hid o3'
      have HL := Lib.hid hlen'
      have HB3 := Lib.hid hB3
      have HM := Lib.hid (show m + 1 + 1 + 1 + ((ndAt L j).K.length : Int) + ((ndAt L j).O.length : Int) = k + 3 * ((j + 1 : Nat) : Int) + (ndSum L (j + 1) : Nat) by omega)
      have hm3 : 0 ≤ m ∧ m ≤ 4195304 := by omega
      have hn34 : (ndAt L j).K.length ≤ 1048576 ∧ (ndAt L j).O.length ≤ 1048576 := by omega
      have HE3 := Lib.hid e3
      have HE4 := Lib.hid e4
      have HG := Lib.hid (show B ≤ g ∧ g < C from ⟨hgB, hgC⟩)
      clear hs1 hs2 hs3 hS o3 o4 o3' hg2 hsz cel r3 r4 h hlen' hb hB3 hle hsj hm hgB hgC e3 e4
      rw [l3] at k3
      rw [l4] at k4
      generalize hn3 : (ndAt L j).K.length = n3 at *
      generalize hn4 : (ndAt L j).O.length = n4 at *
      clear hn3 hn4
      go_wp2_with fail
      have H3' := H3.out
      rw [l3] at H3'
      refine (laws_markInt64S_g _ _ _ _ _ _ _ H3' (by omega) (by omega) (by omega)).mono ?_
      rintro e w1 ⟨K3, rfl, hO1, hU1, hg1⟩
      have hs4 := HS3.out.mark (j := j * 2) (K := K3) (by omega) HE3.out (by rw [hO1.len, l3]) (by rw [l3]; exact hO1) (by rw [l3]; exact hg1)
      have hL4 := lens_upd (M := M) (len := fun i => (lstOf L i).length) (j := j * 2) (K := K3) HL.out (by rw [hO1.len, l3])
      have hlies3 := HS3.out.nest.lies (j * 2) (by omega)
      obtain ⟨b3, d3, eb3, ob3⟩ := HS3.out.nest.own (j * 2) (by omega)
      have hB4 := HB3.out.trans (Mid.of_grown (B := B) (C := C) hg1 (fun i hi => ⟨(H3'.2.lt i hi).1, (hlies3 i (by rw [HE3.out, l3]; exact hi)).1⟩))
      have k4' : w1.cell? ⟨g, j * 5 + 4, none⟩ = some (.slice a4 n4 c4) := hg1.cell (by go_simp) (fun e => (hlies3 g (by rw [HE3.out, l3]; exact e.symm)).2 rfl)
      have hM4 : updN M (j * 2) K3 (j * 2 + 1) = M (j * 2 + 1) := updN_other _ _ _ _ (by omega)
      obtain ⟨a5, c5, e5, o5⟩ := hs4.nest.own (j * 2 + 1) (by omega)
      rw [hM4] at e5 o5
      rw [HE4.out] at e5
      simp only [Value.slice.injEq] at e5
      obtain ⟨rfl, _, rfl⟩ := e5
      rw [l4] at o5
      have HS4 := Lib.hid hs4
      have H4 := Lib.hid o5
      have HL4 := Lib.hid hL4
      have HB4 := Lib.hid hB4
      have HM4 := Lib.hid hM4
      clear hs4 hL4 hlies3 eb3 ob3 hB4 hM4 hU1 hO1 H3' H3 HB3 HS3 hg1 k3 k0 k1 k2 f0 f1 f2 o5
      go_wp2_with fail
      refine (laws_markInt64S_g _ _ _ _ _ _ _ H4.out (by omega) (by omega) (by omega)).mono ?_
      rintro e w2 ⟨K4, rfl, hO2, hU2, hg2⟩
      have hl4 : (updN M (j * 2) K3 (j * 2 + 1)).length = n4 := by rw [HM4.out, l4]
      have hE4 : S (j * 2 + 1) = .slice a4 (updN M (j * 2) K3 (j * 2 + 1)).length c4 := by rw [hl4, HE4.out, l4]
      have hs5 := HS4.out.mark (j := j * 2 + 1) (K := K4) (by omega) hE4 (by rw [hO2.len, hl4]) (by rw [hl4]; exact hO2) (by rw [hl4]; exact hg2)
      have hL5 := lens_upd (M := updN M (j * 2) K3) (len := fun i => (lstOf L i).length) (j := j * 2 + 1) (K := K4) HL4.out (by rw [hO2.len, hl4])
      have hlies4 := HS4.out.nest.lies (j * 2 + 1) (by omega)
      have hB5 := HB4.out.trans (Mid.of_grown (B := B) (C := C) hg2 (fun i hi => ⟨(H4.out.2.lt i hi).1, (hlies4 i (by rw [HE4.out, l4]; exact hi)).1⟩))
      have HS5 := Lib.hid hs5
      have HL5 := Lib.hid hL5
      have HB5 := Lib.hid hB5
      clear hs5 hL5 hB5 hlies4 hE4 hl4 hO2 hU2 hg2 HS4 H4 HL4 HB4 HM4 k4'
      go_wp2_with fail
      go_roundw
      case rel => exact ⟨j + 1, _, _, _, by omega, by go_num, rfl, HM.out, HL5.out, HS5.out, HB5.out⟩
      case measure => simp [intOf]; omega
    · obtain rfl : j = L.length := by omega
      have HM := Lib.hid hm
      clear hm
      go_wp2
      go_ret
      exact ⟨by rw [← HM.out]; rfl, hb⟩
end Go.Proofs.Ytglldmfhjipacab

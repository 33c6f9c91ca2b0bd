/-
  Slices of nodes: the laws' copy of them.
-/
import Derived.Test.YtodmohepgmhipaaNodesMade
namespace Go.Proofs.Ytodmohepgmhipaa
open Go.RowKit
set_option linter.unusedVariables false
set_option maxRecDepth 100000
theorem below_set5 {B : Nat} {w w1 : World} (h : Below B w w1) {g : Nat} (hg : B ≤ g) (o : Nat) (v0 v1 v2 v3 v4 : Value) : Below B w (set5 w1 g o v0 v1 v2 v3 v4) :=
  ((((h.setCell (p := ⟨g, o, none⟩) hg _).setCell (p := ⟨g, o + 1, none⟩) hg _).setCell (p := ⟨g, o + 2, none⟩) hg _).setCell (p := ⟨g, o + 3, none⟩) hg _).setCell (p := ⟨g, o + 4, none⟩) hg _
set_option maxHeartbeats 2000000 in
theorem laws_toNodeS (L : List Nd) (a : Option Addr) (cap : Nat) (w : World) (h : Nds w a L) (hlen : L.length ≤ 1048576) (hts : ∀ i, i < L.length → (ndAt L i).K.length ≤ 1048576 ∧ (ndAt L i).O.length ≤ 1048576) :
    Calls Try.prog 16 #[.slice a L.length cap] w fun e w' => ∃ cur S, e = .returned (.slice (some ⟨w.heap.size, 0, none⟩) L.length L.length) ∧ NMade w' w.heap.size w'.heap.size w.heap.size L.length L.length L cur S ∧ Below w.heap.size w w' := by
  obtain ⟨i0, hi, hz0, hz1, hz2⟩ := info_parts node_info
  go_enter Try.func16, Try.ntmps16
  go_wp2_with (at_make; refine wpList_make_full _ rfl _ _ 31 rfl w.heap.size 87 i0 (.agg #[.int .i64 0, .int .i64 0, .int .i64 0, .slice none 0 0, .slice none 0 0]) 5 Try.underlying31 hi hz0 hz1 _ _ _ _ L.length rfl rfl rfl rfl (by rw [hz2]; omega) (by unfold maxLen; omega) (Nat.le_refl _) ?_; intro w1 hown hg)
  obtain ⟨_, hmk⟩ := hown
  rcases hmk with ⟨hv, _⟩ | ⟨g, cap1, cur, hv, hge, hgg, hnc, hcm, hcs, _⟩
  · cases hv
  · simp only [Value.slice.injEq, Option.some.injEq, Addr.mk.injEq] at hv
    obtain ⟨⟨rfl, _⟩, _, rfl⟩ := hv
    have hB1 : Below w.heap.size w w1 := (Below.refl _ _).grown hg (Nat.le_refl _) (fun k hk => by cases hk)
    have hM1 : NMade w1 w.heap.size w1.heap.size w.heap.size L.length 0 L cur (fun _ => .bool false) := ⟨hgg, hcs, fun i hi => by omega, Nest.none _ _ _ _ _ _⟩
    clear hgg hcs hge hcm hnc hg
    go_loopw [4] (fun i wr => ∃ (k : Nat) (cu : Array Value) (S : Nat → Value), k ≤ L.length ∧ i = .int .i64 k ∧ NMade wr w.heap.size wr.heap.size w.heap.size L.length k L cu S ∧ Below w.heap.size w wr)
      (fun i _ => L.length - (intOf i).toNat)
    case atStart => exact ⟨0, _, _, by omega, rfl, hM1, hB1⟩
    case round =>
      obtain ⟨k, cu, S, hk, rfl, hM, hb⟩ := hrel
      by_cases hlt : k < L.length
      · obtain ⟨b, off, rfl, hp⟩ := (h.kept hb).at k hlt
        obtain ⟨c0, c1, c2, ⟨a3, z3, c3, i3⟩, ⟨a4, z4, c4, i4⟩⟩ := hp k hlt
        obtain ⟨hs3, hs4⟩ := hts k hlt
        have hgl := lt_of_block hM.blk
        have HM := Lib.hid hM
        clear hM hM1 h hp hts
        generalize hx : ndAt L k = x at *
        have HX := Lib.hid hx
        clear hx
        obtain ⟨xb, xp, xf, xK, xO⟩ := x
        simp only at c0 c1 c2 c3 c4 i3 i4 hs3 hs4
        go_wp2_with fail
        refine (laws_toNode xb xp xf xK xO _ _ _ _ _ i3 i4 hs3 hs4).mono ?_
        rintro e w2 ⟨a1, k1, a2, k2, C, rfl, hO1, hO2, hC1, hC2, hb2⟩
        have hM2 := HM.out.kept hb2
        have hg2 := hM2.blk
        have hsz := hM2.siz
        have cel : ∀ j, j < L.length * 5 → ∃ v, w2.cell? ⟨w.heap.size, j, none⟩ = some v := fun j hj => ⟨cu[j]'(by omega), by rw [cell_of_row w2 _ _ _ _ _ hg2]; simp⟩
        obtain ⟨v0, k0⟩ := cel (k * 5) (by omega)
        obtain ⟨v1, k1'⟩ := cel (k * 5 + 1) (by omega)
        obtain ⟨v2, k2'⟩ := cel (k * 5 + 2) (by omega)
        obtain ⟨v3, k3⟩ := cel (k * 5 + 3) (by omega)
        obtain ⟨v4, k4⟩ := cel (k * 5 + 4) (by omega)
        have f0 := frozen_of_row w2 _ (k * 5) _ _ hg2
        have f1 := frozen_of_row w2 _ (k * 5 + 1) _ _ hg2
        have f2 := frozen_of_row w2 _ (k * 5 + 2) _ _ hg2
        have f3 := frozen_of_row w2 _ (k * 5 + 3) _ _ hg2
        have f4 := frozen_of_row w2 _ (k * 5 + 4) _ _ hg2
        have hD : C ≤ w2.heap.size ∨ w2.heap.size < C := by omega
        have hlt1 : ∀ j, (Value.slice a1 xK.length k1).ownBlock = some j → j < min C w2.heap.size := fun j hj => by have h1 := hC2 j hj; have h2 := (hO1.2.lt j hj).2; omega
        have hlt2 : ∀ j, (Value.slice a2 xO.length k2).ownBlock = some j → j < w2.heap.size := fun j hj => (hO2.2.lt j hj).2
        have hst := hM2.step (C := wr.heap.size) (D := min C w2.heap.size) (E := w2.heap.size) (a1 := a1) (a2 := a2) (c1 := k1) (c2 := k2) hlt hb.size hgl (by have := hb2.size; omega) (by omega)
          (by rw [HX.out]; exact hO1) (by rw [HX.out]; exact hlt1) (by rw [HX.out]; exact hO2.mono (by omega)) (by rw [HX.out]; exact hlt2)
        rw [HX.out] at hst
        have HST := Lib.hid hst
        have hB3 := below_set5 (hb.trans (hb2.mono hb.size)) (g := w.heap.size) (Nat.le_refl _) (k * 5) (.int .i64 xb) (.int .i64 xp) (.int .i64 xf) (.slice a1 xK.length k1) (.slice a2 xO.length k2)
        clear hst hM2 hg2 hsz cel hlt1 hlt2 hC1 hC2 hO1 hO2 hb2 hD
        go_wp2_with fail
        go_roundw
        case rel =>
          obtain ⟨cu', S', hM'⟩ := HST.out
          exact ⟨k + 1, cu', S', by omega, by go_num, by simpa [set5] using hM', hB3⟩
        case measure => simp [intOf]; omega
      · obtain rfl : k = L.length := by omega
        go_wp2
        go_ret
        exact ⟨cu, S, rfl, hM, hb⟩
end Go.Proofs.Ytodmohepgmhipaa

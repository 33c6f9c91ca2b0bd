/-
  FnExactTrieHits: the walk.
-/
import Derived.Test.YtglldmfhjipacabL7Hits
namespace Go.Proofs.Ytglldmfhjipacab
open Go.RowKit
set_option linter.unusedVariables false
set_option maxRecDepth 100000
theorem hitsL_len (L : List Nd) (i : Int) (hts : ∀ i, i < L.length → (ndAt L i).O.length ≤ 1048576) : (hitsL L i).length ≤ 1048576 := by
  unfold hitsL
  split
  · next h => exact hts _ (by omega)
  · simp
set_option maxHeartbeats 4000000 in
theorem law_FnExactTrieHits (L : List Nd) (a : Option Addr) (cap : Nat) (hlen : L.length ≤ maxLen) (hts : ∀ i, i < L.length → (ndAt L i).K.length ≤ maxLen ∧ (ndAt L i).O.length ≤ maxLen) (i : Int) (_wi : (Lit.int .i64 i).wf = true) (w : World) (h : Nds w a L) :
    Calls Try.prog 3 #[.slice a L.length cap, .int .i64 i] w fun e w' => e = .returned (.bool true) ∧ Below w.heap.size w w' := by
  unfold maxLen at hlen hts
  go_enter Try.func3, Try.ntmps3
  go_wp2_with fail
  refine (laws_szNodeS L a cap _ _ h hlen hts (by omega) (by omega)).mono ?_
  rintro e w1 ⟨r, rfl, hr, hb1⟩
  rcases hr with rfl | ⟨hr0, hr1⟩
  · go_wp2_with fail
    go_ret
    exact ⟨rfl, hb1⟩
  · have hn2 : L.length ≤ 1048576 := by omega
    have hs2 : ndSum L L.length ≤ 1048576 := by omega
    have ht2 : ∀ i, i < L.length → (ndAt L i).K.length ≤ 1048576 ∧ (ndAt L i).O.length ≤ 1048576 := fun i hi => by have := ndSum_at L i L.length hi; omega
    have ht3 : ∀ i, i < L.length → (ndAt L i).O.length ≤ 1048576 := fun i hi => (ht2 i hi).2
    have hHl := hitsL_len L i ht3
    have HT2 := Lib.hid ht2
    have HT3 := Lib.hid ht3
    generalize hH : hitsL L i = R at *
    have HSP := Lib.hid (fun (B C g cap : Nat) (cur : Array Value) (S : Nat → Value) (w : World) (h : NMade w B C g L.length L.length L cur S) => spec_trieHits L B C g cap cur S i w h hn2 ht3)
    have HIM := Lib.hid (fun (B C g cap : Nat) (cur : Array Value) (S : Nat → Value) (w : World) (h : NMade w B C g L.length L.length L cur S) => impl_trieHits L B C g cap cur S i w h hn2 ht3)
    rw [hH] at HSP HIM
    have HR := Lib.hid hr1
    clear ht2 ht3 hts hr1 hH
    have HN := Lib.hid h
    clear h
    have HA := hb1
    go_wp2_with fail
    refine (laws_toNodeS L a cap _ (HN.out.kept HA) hn2 HT2.out).mono ?_
    rintro e w2 ⟨cu2, S2, rfl, hM2, hb2⟩
    replace HA := below_step HA hb2
    go_wp2_with fail
    refine (HSP.out _ _ _ _ _ _ _ hM2).mono ?_
    rintro e w3 ⟨a3, n3, cap3, rfl, hO3, hb3⟩
    replace HA := below_step HA hb3
    have hn3 : n3 ≤ 1048577 := by have := hO3.len; omega
    clear hM2
    go_wp2_with fail
    refine (laws_toNodeS L a cap _ (HN.out.kept HA) hn2 HT2.out).mono ?_
    rintro e w4 ⟨cu4, S4, rfl, hX, hb4⟩
    have HB := hb4
    have hs34 : w3.heap.size < w4.heap.size := lt_of_block hX.blk
    go_wp2_with fail
    refine (HIM.out _ _ _ _ _ _ _ hX).mono ?_
    rintro e w5 ⟨a5, n5, cap5, rfl, hG, hb5⟩
    have hn5 : n5 = n3 := hG.len.symm.trans hO3.len
    subst hn5
    replace HB := below_step HB hb5
    replace hX := hX.kept hb5
    go_wp2_with fail
    refine (laws_eqInt64S _ _ _ _ _ _ _ hG.len hG.ints (hO3.kept HB).ints hn3).mono ?_
    rintro e w6 ⟨rfl, hb6⟩
    replace HB := below_step HB hb6
    replace hX := hX.kept hb6
    replace hG := hG.kept hb6
    go_wp2_with fail
    refine (laws_toNodeS L a cap _ (HN.out.kept (below_step HA HB)) hn2 HT2.out).mono ?_
    rintro e w7 ⟨cu7, S7, rfl, hT, hb7⟩
    replace HB := below_step HB hb7
    replace hX := hX.kept hb7
    replace hG := hG.kept hb7
    go_wp2_with fail
    refine (laws_eqNodeS L _ _ _ _ _ hX.nds hT.nds (by omega) HT2.out).mono ?_
    rintro e w8 ⟨rfl, hb8⟩
    replace HB := below_step HB hb8
    replace hX := hX.kept hb8
    replace hG := hG.kept hb8
    clear hT
    go_wp2_with fail
    refine (laws_markNodeS L w3.heap.size w4.heap.size w3.heap.size _ 1 S4 cu4 _ hX.forget (Nat.le_refl _) hs34 hn2 hs2 (by omega) (by omega)).mono ?_
    rintro e w9 ⟨rfl, hm9⟩
    have HB9 := HB.trans (hm9.below HB.size)
    replace hG := hm9.ints hG (Nat.le_refl _)
    replace HB := HB9
    clear hX hm9 HB9
    have hk1 : ¬ ((1 : Int) + 3 * L.length + ndSum L L.length < 0) := by omega
    go_wp2_with fail
    refine (laws_eqInt64S _ _ _ _ _ _ _ hG.len hG.ints (hO3.kept HB).ints hn3).mono ?_
    rintro e w10 ⟨rfl, hb10⟩
    replace HB := below_step HB hb10
    replace hG := hG.kept hb10
    go_wp2_with fail
    refine (laws_markInt64S_g _ _ _ _ _ _ _ hG hn3 (by omega) (by omega)).mono ?_
    rintro e w11 ⟨M, rfl, hG2, hU, hg11⟩
    have hb11 := (hG.mono (C := w3.heap.size) (by omega)).turn HB.size hg11
    replace HB := HB.trans hb11
    clear hG hg11 hb11
    go_wp2_with fail
    refine (laws_heldInt64S _ _ _ _ _ _ hG2.len hG2.ints hU hn3 (by omega) (by omega)).mono ?_
    rintro e w12 ⟨rfl, hb12⟩
    replace HB := below_step HB hb12
    replace hG2 := hG2.kept hb12
    go_wp2_with fail
    refine (laws_toNodeS L a cap _ (HN.out.kept (below_step HA HB)) hn2 HT2.out).mono ?_
    rintro e w13 ⟨cu13, S13, rfl, hT, hb13⟩
    replace HB := below_step HB hb13
    replace hG2 := hG2.kept hb13
    go_wp2_with fail
    refine (HIM.out _ _ _ _ _ _ _ hT).mono ?_
    rintro e w14 ⟨a14, n14, cap14, rfl, hH, hb14⟩
    have hn14 : n14 = n5 := hH.len.symm.trans hO3.len
    subst hn14
    replace HB := below_step HB hb14
    replace hG2 := hG2.kept hb14
    clear hT
    go_wp2_with fail
    refine (laws_eqInt64S _ _ _ _ _ _ _ hH.len hH.ints (hO3.kept HB).ints hn3).mono ?_
    rintro e w15 ⟨rfl, hb15⟩
    replace HB := below_step HB hb15
    replace hG2 := hG2.kept hb15
    go_wp2_with fail
    refine (laws_heldInt64S _ _ _ _ _ _ hG2.len hG2.ints hU hn3 (by omega) (by omega)).mono ?_
    rintro e w16 ⟨rfl, hb16⟩
    replace HB := below_step HB hb16
    go_wp2_with fail
    go_ret
    exact ⟨rfl, below_step HA HB⟩
end Go.Proofs.Ytglldmfhjipacab

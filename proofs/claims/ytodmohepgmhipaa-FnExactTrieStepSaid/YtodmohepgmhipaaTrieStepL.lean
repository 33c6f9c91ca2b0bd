/-
  FnExactTrieStep: the walk.
-/
import Derived.Test.YtodmohepgmhipaaTrieStepI
import Derived.Test.YtodmohepgmhipaaNodesMark
namespace Go.Proofs.Ytodmohepgmhipaa
open Go.RowKit
set_option linter.unusedVariables false
set_option maxRecDepth 100000
set_option maxHeartbeats 4000000 in
theorem law_FnExactTrieStep (L : List Nd) (a : Option Addr) (cap : Nat) (hlen : L.length ≤ maxLen) (hts : ∀ i, i < L.length → (ndAt L i).K.length ≤ maxLen ∧ (ndAt L i).O.length ≤ maxLen) (i : Int) (_wi : (Lit.int .i64 i).wf = true) (x : Int) (_wx : (Lit.int .i64 x).wf = true) (w : World) (h : Nds w a L) :
    Calls Try.prog 4 #[.slice a L.length cap, .int .i64 i, .int .i64 x] w fun e w' => e = .returned (.bool true) ∧ Below w.heap.size w w' := by
  unfold maxLen at hlen hts
  go_enter Try.func4, Try.ntmps4
  go_wp2_with fail
  refine (laws_szNodeS L a cap _ _ h hlen hts (by omega) (by omega)).mono ?_
  rintro e w1 ⟨r, rfl, hr, hb1⟩
  rcases hr with rfl | ⟨hr0, hr1⟩
  · go_wp2_with fail
    go_ret
    exact ⟨rfl, hb1⟩
  · have hn2 : L.length ≤ 1048576 := by omega
    have hs2 : ndSum L L.length ≤ 1048576 := by omega
    have ht2 : ∀ i, i < L.length → (ndAt L i).K.length ≤ 1048576 ∧ (ndAt L i).O.length ≤ 1048576 := fun i hi => by have := ndSum_at L i L.length hi; omega
    have ht3 : ∀ i, i < L.length → (ndAt L i).K.length ≤ 1048576 := fun i hi => (ht2 i hi).1
    have HT2 := Lib.hid ht2
    have HT3 := Lib.hid ht3
    generalize hH : stepI L i x = R at *
    have HSP := Lib.hid (fun (a : Option Addr) (cap : Nat) (w : World) (h : Nds w a L) => spec_trieStep L a cap i x w h hn2 ht3)
    have HIM := Lib.hid (fun (a : Option Addr) (cap : Nat) (w : World) (h : Nds w a L) => impl_trieStep L a cap i x w h hn2 ht3)
    rw [hH] at HSP HIM
    clear ht2 ht3 hts hr1 hH
    have HN := Lib.hid h
    clear h
    have e1 : (R != R) = false := by simp
    have HA := hb1
    go_wp2_with fail
    refine (laws_toNodeS L a cap _ (HN.out.kept HA) hn2 HT2.out).mono ?_
    rintro e w2 ⟨cu2, S2, rfl, hM2, hb2⟩
    replace HA := below_step HA hb2
    go_wp2_with fail
    refine (HSP.out _ _ _ hM2.nds).mono ?_
    rintro e w3 ⟨rfl, hb3⟩
    replace HA := below_step HA hb3
    clear hM2
    go_wp2_with fail
    refine (laws_toNodeS L a cap _ (HN.out.kept HA) hn2 HT2.out).mono ?_
    rintro e w4 ⟨cu4, S4, rfl, hX, hb4⟩
    replace HA := below_step HA hb4
    go_wp2_with fail
    refine (HIM.out _ _ _ hX.nds).mono ?_
    rintro e w5 ⟨rfl, hb5⟩
    replace HA := below_step HA hb5
    replace hX := hX.kept hb5
    go_wp2_with fail
    refine (laws_toNodeS L a cap _ (HN.out.kept HA) hn2 HT2.out).mono ?_
    rintro e w7 ⟨cu7, S7, rfl, hT, hb7⟩
    replace HA := below_step HA hb7
    replace hX := hX.kept hb7
    go_wp2_with fail
    refine (laws_eqNodeS L _ _ _ _ _ hX.nds hT.nds (by omega) HT2.out).mono ?_
    rintro e w8 ⟨rfl, hb8⟩
    replace HA := below_step HA hb8
    clear hT hX
    go_wp2_with fail
    go_ret
    exact ⟨rfl, HA⟩
end Go.Proofs.Ytodmohepgmhipaa

/-
  ScanAll, in the model; FnExactScanAll's walk.
-/
import Derived.Test.YtodmohepgmhipaaScanAllI
import Derived.Test.YtodmohepgmhipaaRecAll
import Derived.Test.YtodmohepgmhipaaPats2
import Derived.Test.YtodmohepgmhipaaRecLaw
import Derived.Test.YtodmohepgmhipaaSesMark
namespace Go.Proofs.Ytodmohepgmhipaa
open Go.RowKit
set_option linter.unusedVariables false
set_option maxRecDepth 100000
theorem scanL_le {L : List Pt} {r : ByteArray} {n : Nat} (h : (scanL L r).length = n * 3) : n ≤ 1608 := by
  unfold scanL at h
  split at h
  · rename_i hc
    rw [Bool.and_eq_true] at hc
    have h8 : L.length ≤ 8 := by have := hc.1; unfold dictOkL at this; rw [Bool.and_eq_true] at this; simpa using this.1
    have hr : r.size ≤ 200 := by simpa using hc.2
    rw [recI_length, addAllR_length] at h
    have hal := allR_length L r L.length
    have h1 : L.length * (r.size + 1) ≤ 8 * 201 := Nat.mul_le_mul (by omega) (by omega)
    simp at h
    omega
  · simp at h; omega
set_option maxHeartbeats 4000000 in
theorem spec_scanAll (L : List Pt) (a : Option Addr) (cap : Nat) (r : ByteArray) (w : World) (h : Pats w a L) (hlen : L.length ≤ 1048576) (hts : ∀ i, i < L.length → (ptAt L i).t.size ≤ 1048576) (hr : r.size ≤ 1048576) :
    Calls Try.prog 20 #[.slice a L.length cap, .string r] w fun e w' => ∃ a' n cap', e = .returned (.slice a' n cap') ∧ OwnM 106 3 w' w.heap.size a' n cap' (scanL L r) ∧ Below w.heap.size w w' := by
  have HT := Lib.hid hts
  clear hts
  cases hd : dictOkL L
  · have HS := Lib.hid (show scanL L r = [] by unfold scanL; rw [hd]; rfl)
    have HD := Lib.hid hd; clear hd
    go_enter Try.func20, Try.ntmps20
    go_wp2_with (go_at_call 61; refine (spec_dictOk L a cap _ h (by omega) (fun i hi => by have := HT.out i hi; omega)).mono ?_; rintro e w1 ⟨rfl, hb1⟩; rw [HD.out])
    go_ret
    exact ⟨_, 0, 0, rfl, by rw [HS.out]; exact ⟨rfl, by have := World.ownsRow_made (base := w.heap.size) (e := 106) (size := 3) w1 #[] 0 hb1.size (by decide) rfl; exact this⟩, hb1.alloc hb1.size _⟩
  · by_cases h2 : r.size ≤ 200
    · have HS := Lib.hid (show scanL L r = recI (addAllR [] (allR L r L.length)) by unfold scanL; rw [hd, decide_eq_true h2]; rfl)
      have h8 : L.length ≤ 8 := by have := hd; unfold dictOkL at this; rw [Bool.and_eq_true] at this; simpa using this.1
      have HOK := Lib.hid (fun i (hi : i < L.length) => show (ptAt L i).t.size ≤ 20 ∧ 0 ≤ (ptAt L i).k ∧ (ptAt L i).k ≤ 4 by have := (patOk_iff _ _).1 (dict_each hd i hi); omega)
      have HD := Lib.hid hd; clear hd
      go_enter Try.func20, Try.ntmps20
      go_wp2_with (first | (go_at_call 61; refine (spec_dictOk L a cap _ h (by omega) (fun i hi => by have := HT.out i hi; omega)).mono ?_; rintro e w1 ⟨rfl, hb1⟩; rw [HD.out]) | (go_at_call 62; refine (spec_l9All L a cap r _ (h.kept hb1) h8 h2 HOK.out).mono ?_; rintro e w2 ⟨a2, n2, cap2, rfl, hO2, hb2⟩))
      go_ret
      exact ⟨_, _, _, rfl, by rw [HS.out]; exact hO2.mono hb1.size, hb1.trans (hb2.mono hb1.size)⟩
    · have HS := Lib.hid (show scanL L r = [] by unfold scanL; rw [decide_eq_false h2, Bool.and_false]; rfl)
      have HD := Lib.hid hd; clear hd
      go_enter Try.func20, Try.ntmps20
      go_wp2_with (go_at_call 61; refine (spec_dictOk L a cap _ h (by omega) (fun i hi => by have := HT.out i hi; omega)).mono ?_; rintro e w1 ⟨rfl, hb1⟩; rw [HD.out])
      go_ret
      exact ⟨_, 0, 0, rfl, by rw [HS.out]; exact ⟨rfl, by have := World.ownsRow_made (base := w.heap.size) (e := 106) (size := 3) w1 #[] 0 hb1.size (by decide) rfl; exact this⟩, hb1.alloc hb1.size _⟩
set_option maxHeartbeats 4000000 in
theorem law_FnExactScanAll (L : List Pt) (a : Option Addr) (cap : Nat) (hm : L.length ≤ maxLen) (hts : ∀ i, i < L.length → (ptAt L i).t.size ≤ maxLen) (r : ByteArray) (hr : r.size ≤ maxLen) (w : World) (h : Pats w a L) :
    Calls Try.prog 5 #[.slice a L.length cap, .string r] w fun e w' => e = .returned (.bool true) ∧ Below w.heap.size w w' := by
  unfold maxLen at hm hts hr
  have HT := Lib.hid hts
  clear hts
  by_cases hbig : (r.size : Int) ≤ 1048576
  · have hr2 : r.size ≤ 1048576 := by omega
    have HH := Lib.hid h
    go_enter Try.func5, Try.ntmps5
    go_wp2_with fail
    refine (laws_szPatternS L a cap _ _ h (by omega) (fun i hi => HT.out i hi) (by omega) (by omega)).mono ?_
    rintro e w1 ⟨n1, rfl, hs1, hb1⟩
    rcases hs1 with rfl | ⟨hs0, _, hsl, hst⟩
    · go_wp2_with fail
      go_ret
      exact ⟨rfl, hb1⟩
    · have hl2 : L.length ≤ 1048576 := by omega
      have HT2 := Lib.hid (fun i (hi : i < L.length) => show (ptAt L i).t.size ≤ 1048576 by have := hst i hi; omega)
      clear hst hsl
      go_wp2_with fail
      refine (laws_toPatternS L a cap _ (HH.out.kept hb1) hl2).mono ?_
      rintro e w2 ⟨a2, cap2, rfl, hP2, hb2⟩
      have HA := below_step hb1 hb2
      go_wp2_with fail
      refine (spec_scanAll L a2 cap2 r _ hP2 hl2 HT2.out hr2).mono ?_
      rintro e w3 ⟨a3, n3, cap3, rfl, hO3, hb3⟩
      have HA3 := below_step HA hb3
      have HO3 := Lib.hid hO3
      have s23 := hb3.size
      have s02 := HA.size
      clear hP2 hO3 hb3 hb2 HA
      go_wp2_with fail
      refine (laws_toPatternS_m L a cap _ (HH.out.kept HA3) hl2).mono ?_
      rintro e w4 ⟨rfl, hM4, hb4⟩
      have HA4 := below_step HA3 hb4
      have HK4 : Below w3.heap.size w3 w4 := hb4
      have hX4 : w3.heap.size < w4.heap.size := by obtain ⟨cur, h1, _⟩ := hM4; exact lt_of_block h1
      have hP4 : Pats w4 (some ⟨w3.heap.size, 0, none⟩) L := .inr ⟨_, _, rfl, made_pats hM4⟩
      have HM4 := Lib.hid hM4
      have HP4 := Lib.hid hP4
      clear hM4 hP4 hb4
      go_wp2_with fail
      refine (impl_scanAll L _ _ r _ HP4.out hl2 HT2.out hr2).mono ?_
      rintro e w5 ⟨a5, n5, cap5, rfl, hO5, hb5⟩
      have HA5 := below_step HA4 hb5
      have HK5 := below_step HK4 hb5
      have hn : n5 = n3 := by have h1 := hO5.len; have h2 := HO3.out.len; omega
      subst hn
      have HO5 := Lib.hid hO5
      have HB5 := Lib.hid hb5
      have s45 := hb5.size
      have s34 := HK4.size
      have hn8 : n5 ≤ 1608 := scanL_le hO5.len
      clear hO5 hb5
      go_wp2_with fail
      refine (laws_eqRecS (scanL L r) _ _ _ _ _ _ HO5.out.len HO5.out.ints (HO3.out.kept HK5).ints (by omega)).mono ?_
      rintro e w6 ⟨rfl, hb6⟩
      have HA6 := below_step HA5 hb6
      have HK6 := below_step HK5 hb6
      have HB6 := Lib.hid (below_step HB5.out hb6)
      have HO6 := Lib.hid (HO5.out.kept hb6)
      have s56 := hb6.size
      clear hb6
      go_wp2_with fail
      refine (laws_toPatternS L a cap _ (HH.out.kept HA6) hl2).mono ?_
      rintro e w7 ⟨a7, cap7, rfl, hP7, hb7⟩
      have HA7 := below_step HA6 hb7
      have HK7 := below_step HK6 hb7
      have HB7 := Lib.hid (below_step HB6.out hb7)
      have HO7 := Lib.hid (HO6.out.kept hb7)
      have s67 := hb7.size
      clear hb7
      go_wp2_with fail
      refine (laws_eqPatternS L _ _ _ _ _ (HP4.out.kept HB7.out) hP7 (by omega)).mono ?_
      rintro e w8 ⟨rfl, hb8⟩
      have HA8 := below_step HA7 hb8
      have HK8 := below_step HK7 hb8
      have HB8 := Lib.hid (below_step HB7.out hb8)
      have HO8 := Lib.hid (HO7.out.kept hb8)
      have s78 := hb8.size
      clear hb8 hP7
      obtain ⟨P, hPV, hW⟩ := made_wr HM4.out
      have HW8 := Lib.hid (hW.kept HB8.out)
      have HPV := Lib.hid hPV
      clear hW hPV
      go_wp2_with fail
      refine (markPats_w L P _ _ _ _ HPV.out HW8.out (by omega) (by omega) (by omega)).mono ?_
      rintro e w9 ⟨P', rfl, _, _, ht9⟩
      have hkeep : ∀ b, (blkO (some ⟨w3.heap.size, 0, none⟩) L.length = some b) → b = w3.heap.size := fun b e => by
        unfold blkO at e; split at e <;> simp at e; exact e.symm
      have HA9 : Below w.heap.size w w9 := HA8.trans (ht9.below (fun b e => by have := hkeep b e; have := HA3.size; omega) HA8.size)
      have HK9 : Below w3.heap.size w3 w9 := HK8.trans (ht9.below (fun b e => by have := hkeep b e; omega) HK8.size)
      have HO9 := Lib.hid (HO8.out.on (w1 := w9) fun g e => ht9.block g (HO8.out.turn_lt g e) fun e2 => by have := hkeep g e2; have := (HO5.out.2.lt g e).1; omega)
      have s89 := ht9.size
      have hq0 : ¬ ((1 : Int) + L.length * 3 < 0) := by omega
      clear ht9 hkeep
      go_wp2_with fail
      refine (laws_eqRecS (scanL L r) _ _ _ _ _ _ HO9.out.len HO9.out.ints (HO3.out.kept HK9).ints (by omega)).mono ?_
      rintro e w10 ⟨rfl, hb10⟩
      have HA10 := below_step HA9 hb10
      have HK10 := below_step HK9 hb10
      have HO10 := Lib.hid (HO9.out.kept hb10)
      have s910 := hb10.size
      clear hb10
      go_wp2_with fail
      refine (laws_markRecS (scanL L r) _ _ _ _ _ _ HO10.out (by omega) (by omega) (by omega)).mono ?_
      rintro e w11 ⟨M, rfl, hO11, hu11, hg11⟩
      have HA11 : Below w.heap.size w w11 := HA10.trans ((HO10.out.mono (C := w.heap.size) (by have := HA4.size; omega)).turn HA10.size hg11)
      have HK11 : Below w3.heap.size w3 w11 := HK10.trans ((HO10.out.mono (C := w3.heap.size) (by omega)).turn HK10.size hg11)
      have HO11 := Lib.hid hO11
      have HU11 := Lib.hid hu11
      clear hg11 hO11 hu11
      have em : ((1 : Int) + (n5 : Int) * 3 != 1 + (n5 : Int) * 3) = false := by simp
      go_wp2_with fail
      refine (laws_heldRecS M _ _ _ _ _ HO11.out.len HO11.out.ints HU11.out (by omega) (by omega) (by omega)).mono ?_
      rintro e w12 ⟨rfl, hb12⟩
      have HA12 := below_step HA11 hb12
      have HK12 := below_step HK11 hb12
      have HO12 := Lib.hid (HO11.out.kept hb12)
      clear hb12
      go_wp2_with fail
      refine (laws_toPatternS L a cap _ (HH.out.kept HA12) hl2).mono ?_
      rintro e w13 ⟨a13, cap13, rfl, hP13, hb13⟩
      have HA13 := below_step HA12 hb13
      have HK13 := below_step HK12 hb13
      have HO13 := Lib.hid (HO12.out.kept hb13)
      clear hb13
      go_wp2_with fail
      refine (impl_scanAll L _ _ r _ hP13 hl2 HT2.out hr2).mono ?_
      rintro e w14 ⟨a14, n14, cap14, rfl, hO14, hb14⟩
      have hn : n14 = n5 := by have h1 := hO14.len; have h2 := HO3.out.len; omega
      subst hn
      have HA14 := below_step HA13 hb14
      have HK14 := below_step HK13 hb14
      have HO14 := Lib.hid (HO13.out.kept hb14)
      clear hb14 hP13
      go_wp2_with fail
      refine (laws_eqRecS (scanL L r) _ _ _ _ _ _ hO14.len hO14.ints (HO3.out.kept HK14).ints (by omega)).mono ?_
      rintro e w15 ⟨rfl, hb15⟩
      have HA15 := below_step HA14 hb15
      have HO15 := Lib.hid (HO14.out.kept hb15)
      clear hb15 hO14
      go_wp2_with fail
      refine (laws_heldRecS M _ _ _ _ _ HO15.out.len HO15.out.ints HU11.out (by omega) (by omega) (by omega)).mono ?_
      rintro e w16 ⟨rfl, hb16⟩
      have HA16 := below_step HA15 hb16
      clear hb16
      go_wp2_with fail
      go_ret
      exact ⟨rfl, HA16⟩
  · go_enter Try.func5, Try.ntmps5
    go_wp2_with fail
    go_ret
    exact ⟨rfl, Below.refl _ _⟩
end Go.Proofs.Ytodmohepgmhipaa

/-
  ScanAll, in the program.
-/
import Derived.Test.YtodmohepgmhipaaScanFacts
import Derived.Test.YtodmohepgmhipaaSortRecs
import Derived.Test.YtodmohepgmhipaaAppV
namespace Go.Proofs.Ytodmohepgmhipaa
open Go.RowKit
set_option linter.unusedVariables false
set_option maxRecDepth 100000
/-- what ScanAll gives -/
def scanL (L : List Pt) (r : ByteArray) : List Int := if dictOkL L && decide (r.size ≤ 200) then recI (addAllR [] (allR L r L.length)) else []
theorem dict_each {L : List Pt} (h : dictOkL L = true) (i : Nat) (hi : i < L.length) : patOk (ptAt L i).t (ptAt L i).k = true := by
  unfold dictOkL at h
  rw [Bool.and_eq_true] at h
  exact (okTo_all L).2 h.2 i hi
set_option maxHeartbeats 4000000 in
theorem impl_scanAll (L : List Pt) (a : Option Addr) (cap : Nat) (r : ByteArray) (w : World) (h : Pats w a L) (hlen : L.length ≤ 1048576) (hts : ∀ i, i < L.length → (ptAt L i).t.size ≤ 1048576) (hr : r.size ≤ 1048576) :
    Calls Try.prog 22 #[.slice a L.length cap, .string r] w fun e w' => ∃ a' n cap', e = .returned (.slice a' n cap') ∧ OwnM 106 3 w' w.heap.size a' n cap' (scanL L r) ∧ Below w.heap.size w w' := by
  obtain ⟨i0, hi, ht0, ht1, ht2⟩ := info_parts recInfo
  have HT := Lib.hid hts
  clear hts
  cases hd : dictOkL L
  · have HS := Lib.hid (show scanL L r = [] by unfold scanL; rw [hd]; rfl)
    have HD := Lib.hid hd; clear hd
    go_enter Try.func22, Try.ntmps22
    go_wp2_with (go_at_call 64; refine (impl_dictOk L a cap _ h (by omega) (fun i hi => by have := HT.out i hi; omega)).mono ?_; rintro e w1 ⟨rfl, hb1⟩; rw [HD.out])
    go_ret
    exact ⟨none, 0, 0, rfl, by rw [HS.out]; exact OwnM.nil _ _, hb1⟩
  · by_cases h2 : r.size ≤ 200
    · have HS := Lib.hid (show scanL L r = recI (addAllR [] (allR L r L.length)) by unfold scanL; rw [hd, decide_eq_true h2]; rfl)
      have HE := Lib.hid (fun k (hk : k < L.length) => show endsL (ptAt L k).t (ptAt L k).k (ptAt L k).f r = endsP (ptAt L k) r by unfold endsL endsP; rw [dict_each hd k hk, decide_eq_true h2]; rfl)
      have h8 : L.length ≤ 8 := by unfold dictOkL at hd; rw [Bool.and_eq_true] at hd; simpa using hd.1
      have HD := Lib.hid hd; clear hd
      go_enter Try.func22, Try.ntmps22
      go_wp2_with (go_at_call 64; refine (impl_dictOk L a cap _ h (by omega) (fun i hi => by have := HT.out i hi; omega)).mono ?_; rintro e w1 ⟨rfl, hb1⟩; rw [HD.out])
      go_loopw [5, 18] (fun o i wr => ∃ (k n : Nat) (a' : Option Addr) (cap' : Nat), k ≤ L.length ∧ i = .int .i64 k ∧ o = .slice a' n cap' ∧ n = (allR L r k).length ∧ OwnM 106 3 wr w.heap.size a' n cap' (recI (allR L r k)) ∧ Below w.heap.size w wr)
        (fun _ i _ => L.length - (intOf i).toNat)
      case atStart => exact ⟨0, 0, none, 0, by omega, rfl, rfl, rfl, OwnM.nil _ _, hb1⟩
      case round =>
        obtain ⟨k, n, a', cap', hk, rfl, rfl, hnl, hO, hb⟩ := hrel
        have HB := Lib.hid hb
        have HO := Lib.hid hO
        have HNL := Lib.hid hnl
        have HH := Lib.hid h
        by_cases hlt : k < L.length
        · obtain ⟨b, off, rfl, hp⟩ := (h.kept hb).at k hlt
          obtain ⟨c0, c1, c2⟩ := hp k hlt
          have hsz := HT.out k hlt
          have HK := Lib.hid (show allR L r (k + 1) = allR L r k ++ recsF k (endsP (ptAt L k) r) (endsC (ptAt L k) r) from rfl)
          have hal := allR_length L r k
          have hn8 : n ≤ 1608 := by
            have h1 : k * (r.size + 1) ≤ 8 * 201 := Nat.mul_le_mul (by omega) (by omega)
            omega
          have hel := endsP_length (ptAt L k) r
          have hec := endsC_le (ptAt L k) r
          have HEK := Lib.hid (HE.out k hlt)
          have HEL := Lib.hid hel
          clear hO hnl hal h hp hb1 hel hb
          generalize ptAt L k = p at *
          obtain ⟨pt, pk, pf⟩ := p
          simp only at c0 c1 c2 hsz
          have hB0 : Below w.heap.size w (wr.alloc (.cells #[.string pt, .int .i64 pk, .bool pf] 73)) := HB.out.alloc HB.out.size _
          have HB0 := Lib.hid hB0
          clear hB0
          go_wp2_with (first
            | (go_at_call 66; refine (impl_endsOf pt pk pf r _ hsz hr).mono ?_; rintro e w2 ⟨a2, n2, cap2, rfl, hE, hb2⟩; have HE2 := Lib.hid (HEK.out ▸ hE); have HB2 := Lib.hid hb2; clear hE hb2)
            | (go_at_call 65; refine (impl_recsOf k (endsP ⟨pt, pk, pf⟩ r) a2 n2 cap2 _ HE2.out.len HE2.out.ints (by have := HE2.out.len; have := HEL.out; omega)).mono ?_; rintro e w3 ⟨a3, cap3, rfl, hO3, hb3⟩; have HO3 := Lib.hid hO3; have HB3 := Lib.hid hb3; clear hO3 hb3)
            | (at_builtin; have hn2 : n2 * 2 = endsC ⟨pt, pk, pf⟩ r * 2 := (by rw [← HEL.out]; exact HE2.out.len.symm); have HX : Below wr.heap.size wr w3 := (((Below.refl _ wr).alloc (Nat.le_refl _) _).trans ((HB2.out.mono (by simp)).trans (HB3.out.mono (by have := HB2.out.size; simp at this; omega)))); have HX2 := Lib.hid HX; have HS3 := Lib.hid HX.size; clear HX; refine wpList_append_vals rfl _ _ 37 rfl w.heap.size 106 i0 (.agg #[.int .i64 0, .int .i64 0, .int .i64 0]) 3 24 Try.underlying37 hi ht0 ht1 ht2 rfl (by decide) _ n ((recI (allR L r k)).map (Value.int .i64)) rfl (HO.out.kept HX2.out).2 a3 n2 cap3 ((recL k (endsP ⟨pt, pk, pf⟩ r) n2).map (Value.int .i64)) rfl (by rw [List.length_map, recL_length]) HO3.out.ints.vals.news (ints_oneCell .i64 _) (by unfold maxLen; omega) (by omega) (by have := HB.out.size; have := HS3.out; omega) ?_; intro v4 w4 hown4 hg4; have HL4 := Lib.hid (show (recI (allR L r (k + 1))).length = (n + n2) * 3 by rw [recI_length, HK.out, List.length_append, recsF_length, ← HNL.out]; omega); obtain ⟨a4, cap4, rfl, hO4⟩ := OwnM.shape HL4.out (show w4.ownsRow w.heap.size 106 3 v4 (n + n2) ((recI (allR L r (k + 1))).map (Value.int .i64)) by rw [HK.out, recI_append, recI_recsF, show endsC ⟨pt, pk, pf⟩ r = n2 by omega, List.map_append]; exact hown4); have HO4 := Lib.hid hO4; have HB4 := Lib.hid (HB.out.trans ((HX2.out.mono HB.out.size).trans ((HO.out.kept HX2.out).turn (by have := HB.out.size; have := HS3.out; omega) hg4))); clear hown4 hg4 hO4))
          go_roundw
          case rel => exact ⟨k + 1, n + n2, a4, cap4, by omega, by go_num, rfl, by have := HL4.out; rw [recI_length] at this; omega, HO4.out, HB4.out⟩
          case measure => simp [intOf]; omega
        · obtain rfl : k = L.length := by omega
          have HF := Lib.hid (allR_far L r L.length)
          have hal := allR_length L r L.length
          have hn8 : n ≤ 1608 := by
            have h1 : L.length * (r.size + 1) ≤ 8 * 201 := Nat.mul_le_mul (by omega) (by omega)
            omega
          clear hnl hal h hb1 hb
          rcases hO.v.form0 with ⟨rfl, rfl, rfl⟩ | ⟨g, rfl, hnc⟩
          · have HZ := Lib.hid (show recI (addAllR [] (allR L r L.length)) = [] by rw [List.eq_nil_of_length_eq_zero HNL.out.symm]; rfl)
            clear hO
            go_wp2_with (go_at_call 67; refine (sl_sortRecs_none _ _ _ _).mono ?_; rintro e w5 ⟨rfl, rfl⟩)
            go_ret
            exact ⟨none, 0, 0, rfl, by rw [HS.out, HZ.out]; exact OwnM.nil _ _, HB.out⟩
          · clear hO
            go_wp2_with (go_at_call 67; refine (sl_sortRecs (allR L r L.length) g n cap' w.heap.size _ HNL.out.symm HO.out (by omega)).mono ?_; rintro e w5 ⟨rfl, l5, hp5, hs5, hO5, hg5⟩; have HO5 := Lib.hid hO5; have HG5 := Lib.hid hg5; have HE5 := Lib.hid (sort_is_add _ _ HF.out hp5 hs5); clear hO5 hg5 hp5 hs5)
            go_ret
            exact ⟨_, _, _, rfl, by rw [HS.out, ← HE5.out]; exact HO5.out, HB.out.trans (HO.out.turn HB.out.size HG5.out)⟩
    · have HS := Lib.hid (show scanL L r = [] by unfold scanL; rw [decide_eq_false h2, Bool.and_false]; rfl)
      have HD := Lib.hid hd; clear hd
      go_enter Try.func22, Try.ntmps22
      go_wp2_with (go_at_call 64; refine (impl_dictOk L a cap _ h (by omega) (fun i hi => by have := HT.out i hi; omega)).mono ?_; rintro e w1 ⟨rfl, hb1⟩; rw [HD.out])
      go_ret
      exact ⟨none, 0, 0, rfl, by rw [HS.out]; exact OwnM.nil _ _, hb1⟩
end Go.Proofs.Ytodmohepgmhipaa

/-
  Chapter 16: all pieces of a text in order, in the program: a bag's texts, each as often as it is there.
-/
import Derived.Test.YtelhgpoppgpniabIter
import Derived.Test.YtelhgpoppgpniabAppV
namespace Go.Proofs.Ytelhgpoppgpniab
open Go.RowKit Go.Maps
set_option linter.unusedVariables false
set_option maxRecDepth 100000
theorem encStr_strs (K : List (List UInt8)) : K.map Go.Proofs.encStr = strs K := rfl
theorem sorted_facts {D : DataW Unit} {ss K : List (List UInt8)} (hS : ss.Perm (strKeys D)) (hK : ss.mergeSort (fun x y => decide (x ≤ y)) = K) : ss.length = K.length ∧ K.length = Maps.size D ∧ ∀ x, x ∈ K → x ∈ strKeys D := by
  have hp := List.mergeSort_perm ss (fun x y => decide (x ≤ y))
  rw [hK] at hp
  refine ⟨hp.length_eq.symm, ?_, fun x hx => (hp.trans hS).mem_iff.1 hx⟩
  rw [(hp.trans hS).length_eq]
  cases D <;> simp [strKeys, Maps.size]
set_option maxHeartbeats 8000000 in
theorem impl_inOrder (b n : Nat) (D : DataW Unit) (G L : List (List UInt8)) (w : World) (h : Bag w b n D G) (hn : n ≤ 10000) (hG : G.length ≤ 10000) (hL : UpL L) (hc : ∀ u, L.count u = G.count u) (hLl : L.length ≤ 10000) :
    Calls Try.prog 82 #[.map (some b)] w fun e w' => ∃ a cap, e = .returned (.slice a L.length cap) ∧ OwnV 9 1 w' w.heap.size a L.length cap (strs L) ∧ Below w.heap.size w w' := by
  obtain ⟨i0, hi, ht0, ht1, ht2⟩ := info_parts str_info
  have hsz : Maps.size D ≤ n := h.1.size_le
  have HBAG := Lib.hid h
  have hown := h.1
  have hbl := h.1.lt
  have HALL := Lib.hid (fun (ss : List (List UInt8)) (hs : ss.Perm (strKeys D)) => repL_all h hs hL hc)
  clear h hc
  go_enter Try.func82, Try.ntmps82
  go_wp2_with (first
    | (go_at_call 111; refine (bag_keys _ _).mono ?_; rintro e w1 ⟨rfl, rfl⟩)
    | (go_at_call 110; refine (bag_sorted b n D _ w hown (by unfold maxLen; omega) (by omega)).mono ?_; rintro e w2 ⟨v, ss, rfl, hS, hrow, hnil, hb2⟩; obtain ⟨K, hK⟩ : ∃ K, ss.mergeSort (fun x y => decide (x ≤ y)) = K := ⟨_, rfl⟩; obtain ⟨hKl, hKL, hKm⟩ := sorted_facts hS hK; rw [hK, hKl] at hrow; rw [encStr_strs] at hrow; obtain ⟨a0, cap0, rfl, hO0⟩ := OwnV.shape (by rw [strs_length]; omega) hrow; have hREP := HALL.out ss hS; rw [hK] at hREP; have HREP := Lib.hid hREP; have HKM := Lib.hid hKm; have HKL := Lib.hid (strKeys_le hown Try.underlying9); have hB2 : Below w.heap.size w w2 := below_step (by repeat (first | exact Below.refl _ _ | assumption | (refine Below.drew ?_) | (refine below_drewN ?_ _) | (refine Below.alloc ?_ (by first | omega | (simp; done) | (simp; omega)) _) | (refine Below.setCell ?_ (by first | omega | (simp; done) | (simp; omega)) _))) hb2; have HO0 := Lib.hid hO0; have HB2 := Lib.hid hB2; have HKS := Lib.hid hKL; clear hS hK hKl hrow hnil hREP hKm hO0 hb2 hown hB2 hKL))
  have hKn : K.length ≤ 10000 := by have := HKS.out; omega
  have hlen : ∀ k, (repL G (K.take k)).length ≤ L.length := fun k => by
    have h1 : repL G K = repL G (K.take k) ++ repL G (K.drop k) := by rw [← repL_append, List.take_append_drop]
    rw [← HREP.out, h1, List.length_append]; omega
  have HLEN := Lib.hid hlen
  have hz2 : w.heap.size ≤ w2.heap.size := HB2.out.size
  clear hlen
  go_loopw [3, 10] (fun l i wr => ∃ (k : Nat) (a : Option Addr) (cap : Nat), k ≤ K.length ∧ i = .int .i64 (k : Int) ∧ l = .slice a (repL G (K.take k)).length cap ∧ OwnV 9 1 wr w2.heap.size a (repL G (K.take k)).length cap (strs (repL G (K.take k))) ∧ Below w2.heap.size w2 wr)
    (fun _ i _ => K.length - (intOf i).toNat)
  case atStart => exact ⟨0, none, 0, by omega, rfl, rfl, OwnV.nil _ _, Below.refl _ _⟩
  case round =>
    obtain ⟨k, a, cap, hk, rfl, rfl, hO, hb⟩ := hrel
    by_cases hlt : k < K.length
    · obtain ⟨b9, off9, rfl, hp⟩ := (HO0.out.kept hb).vals.at k (by rw [strs_length]; exact hlt)
      have c0 := hp k (by rw [strs_length]; exact hlt)
      rw [strs_at hlt] at c0
      have htk : repL G (K.take (k + 1)) = repL G (K.take k) ++ List.replicate (G.count (K.getD k [])) (K.getD k []) := by
        rw [List.take_succ_eq_append_getElem hlt, repL_append]
        simp [repL, List.getD_eq_getElem?_getD, hlt]
      have hxm : K.getD k [] ∈ K := by
        rw [List.getD_eq_getElem?_getD, List.getElem?_eq_getElem hlt]; exact List.getElem_mem hlt
      have hxl := HKL.out _ (HKM.out _ hxm)
      have hl2 := HLEN.out (k + 1)
      rw [htk, List.length_append, List.length_replicate] at hl2
      obtain ⟨x, hx⟩ : ∃ x, K.getD k [] = x := ⟨_, rfl⟩
      rw [hx] at c0 htk hxl hl2
      obtain ⟨X, hX⟩ : ∃ X, txt x = X := ⟨_, rfl⟩
      have hXs : X.size ≤ maxLen := by rw [← hX, txt_size]; exact hxl
      have hbX : bl X = x := by rw [← hX, bl_txt]
      rw [hX] at c0
      have hkX := bag_key X hXs
      rw [hbX] at hkX
      have HXV := Lib.hid (show strs [x] = [Value.string X] by rw [← hX]; rfl)
      have hbag := HBAG.out.below (HB2.out.trans (hb.mono hz2))
      have hatB := hbag.2 x
      have hownB := hbag.1
      obtain ⟨c, hcx⟩ : ∃ c, G.count x = c := ⟨_, rfl⟩
      rw [hcx] at hatB htk hl2
      obtain ⟨R, hR⟩ : ∃ R, repL G (K.take k) = R := ⟨_, rfl⟩
      rw [hR] at hO htk hl2 ⊢
      have HTK := Lib.hid htk
      have HO := Lib.hid hO
      have HB := Lib.hid hb
      have hcl : R.length + c ≤ 10000 := by omega
      obtain ⟨m, hm⟩ : ∃ m, R.length = m := ⟨_, rfl⟩
      have HM := Lib.hid hm
      rw [hm] at HO hcl ⊢
      clear hp hxm hx hX hbX hO hb hbag hcx hR htk hl2 hm
      go_wp2_with (at_lookup; refine wpList_lookup_own_int _ rfl _ _ 104 rfl 9 2 .i64 bag_law Try.underlying104 Try.underlying2 (bag_zero _) b n _ rfl hownB _ _ rfl hkX ?_; intro c2 hat2 hwc2; rw [hatB] at hat2; have hc9 : ((c : Nat) : Int) = c2 := (by injection hat2 with h1; injection h1); subst hc9)
      go_loopw [3, 17] (fun l i wi => ∃ (j : Nat) (a' : Option Addr) (cap' : Nat), j ≤ c ∧ i = .int .i64 (j : Int) ∧ l = .slice a' (m + j) cap' ∧ OwnV 9 1 wi w2.heap.size a' (m + j) cap' (strs (R ++ List.replicate j x)) ∧ Below w2.heap.size w2 wi)
        (fun _ i _ => c - (intOf i).toNat)
      case atStart => exact ⟨0, a, cap, by omega, rfl, rfl, by rw [List.replicate_zero, List.append_nil]; exact HO.out, HB.out⟩
      case round =>
        obtain ⟨j, a', cap', hj, rfl, rfl, hO', hb'⟩ := hrel
        by_cases hjc : j < c
        · have hB3 : Below wr.heap.size wr (wr.alloc (.cells #[Value.string X] 9)) := (Below.refl _ _).alloc (Nat.le_refl _) _
          have HK3 := Lib.hid (hO'.kept hB3)
          have HC3 := Lib.hid (cells_new wr #[Value.string X] 9)
          have HZ3 := Lib.hid hb'.size
          have HL3 := Lib.hid (show (strs (R ++ List.replicate j x) ++ [Value.string X]).length = (m + j + 1) * 1 by rw [List.length_append, hO'.len]; simp)
          have HE3 := Lib.hid (show strs (R ++ List.replicate (j + 1) x) = strs (R ++ List.replicate j x) ++ [Value.string X] by rw [← HXV.out, ← strs_append, List.replicate_succ', List.append_assoc])
          have HB3 := Lib.hid hb'
          clear hO' hB3 hb'
          go_wp2_with (at_builtin; refine wpList_append_own _ rfl _ _ 43 rfl w2.heap.size 9 i0 (.string ⟨#[]⟩) 1 16 Try.underlying43 hi ht0 ht1 ht2 rfl (by decide) _ _ _ rfl HK3.out.2 ⟨wr.heap.size, 0, none⟩ 1 1 [Value.string X] rfl rfl HC3.out (by simp [Value.oneCell']) (by unfold maxLen; omega) (by omega) (by have := HZ3.out; simp; omega) ?_; intro v3 w3 hown3 hg3 _; obtain ⟨a3, cap3, rfl, hO3⟩ := OwnV.shape HL3.out (show w3.ownsRow w2.heap.size 9 1 v3 (m + j + 1) (strs (R ++ List.replicate j x) ++ [Value.string X]) by exact hown3); have HO3 := Lib.hid hO3; have HBB := Lib.hid (HB3.out.trans (((Below.refl _ wr).alloc HZ3.out _).trans (HK3.out.turn (by have := HZ3.out; simp; omega) hg3))); clear hown3 hg3 hO3)
          go_roundw
          case rel => exact ⟨j + 1, a3, cap3, by omega, by go_num, rfl, by rw [HE3.out]; exact HO3.out, HBB.out⟩
          case measure => simp [intOf]; omega
        · have hjc2 : j = c := by omega
          subst hjc2
          have HO4 := Lib.hid hO'; have HB4 := Lib.hid hb'
          clear hO' hb'
          go_wp2_with fail
          go_roundw
          case rel => exact ⟨k + 1, a', cap', by omega, by go_num, by rw [HTK.out, List.length_append, List.length_replicate, HM.out], by rw [HTK.out, List.length_append, List.length_replicate, HM.out]; exact HO4.out, HB4.out⟩
          case measure => simp [intOf]; omega
    · have hkk : k = K.length := by omega
      have HR9 := Lib.hid (show repL G (K.take k) = L by rw [hkk, List.take_length]; exact HREP.out)
      rw [HR9.out] at hO ⊢
      have HO4 := Lib.hid (hO.mono hz2)
      have HB4 := Lib.hid (HB2.out.trans (hb.mono hz2))
      clear hO hb
      go_wp2
      go_ret
      exact ⟨_, _, rfl, HO4.out, HB4.out⟩
end Go.Proofs.Ytelhgpoppgpniab

/-
  Chapter 7, the model: l7Kid, l7Deep, l7Go.
-/
import Derived.Test.YtodmohepgmhipaaTrie
namespace Go.Proofs.Ytodmohepgmhipaa
open Go.RowKit
set_option linter.unusedVariables false
set_option maxRecDepth 100000
set_option maxHeartbeats 1000000 in
theorem spec_l7Kid (L : List Nd) (b off cap i : Nat) (x : Int) (w : World) (h : NdsAt w b off L) (hi : i < L.length) (hk : ∀ k, k ∈ (ndAt L i).K → 0 ≤ k ∧ k < L.length) (hlen : L.length ≤ 1048576) (hK : (ndAt L i).K.length ≤ 1048576) :
    Calls Try.prog 98 #[.slice (some ⟨b, off, none⟩) L.length cap, .int .i64 i, .int .i64 x] w fun e w' => e = .returned (.int .i64 (kidN L i x)) ∧ Below w.heap.size w w' := by
  unfold kidN
  have HA := Lib.hid h
  obtain ⟨_, _, _, ⟨a3, z3, c3, i3⟩, _⟩ := h i hi
  clear h
  generalize hKK : (ndAt L i).K = K at *
  have HI := Lib.hid i3
  have HK := Lib.hid hk
  clear hk hKK i3
  go_enter Try.func98, Try.ntmps98
  go_wp2
  go_loopw [7] (fun j wr => ∃ m : Nat, m ≤ K.length ∧ j = .int .i64 m ∧ kidS L x (K.drop m) = kidS L x K ∧ Below w.heap.size w wr)
    (fun j _ => K.length - (intOf j).toNat)
  case atStart => exact ⟨0, by omega, rfl, by simp, Below.refl _ _⟩
  case round =>
    obtain ⟨m, hm, rfl, hv, hb⟩ := hrel
    have d3 := (hb.cell (p := ⟨b, _, none⟩) (block_lt_of_cell c3)).trans c3
    by_cases hlt : m < K.length
    · have e := kidS_drop (L := L) (b := x) hlt
      rw [hv] at e
      obtain ⟨y0, y1⟩ := HK.out _ (show intAt K m ∈ K by simp [intAt, hlt])
      obtain ⟨b4, o4, rfl, hI⟩ := (HI.out.kept hb).at m hlt
      have d4 := hI m hlt
      generalize intAt K m = y at *
      obtain ⟨Y, rfl⟩ := Int.eq_ofNat_of_zero_le y0
      have hY : Y < L.length := by omega
      obtain ⟨e0, _⟩ := (HA.out Y hY).kept hb
      rw [Int.toNat_natCast] at e
      clear hI hv
      generalize (ndAt L Y).b = z at *
      by_cases hz : z = x
      · subst hz
        rw [if_pos rfl] at e
        have HE := Lib.hid e
        clear e
        go_wp2
        go_ret
        exact ⟨by rw [HE.out]; rfl, hb⟩
      · rw [if_neg hz] at e
        have HE := Lib.hid e
        have hz2 : (z == x) = false := by simp [hz]
        clear e
        go_wp2
        go_roundw
        case rel => exact ⟨m + 1, by omega, by go_num, HE.out.symm, hb⟩
        case measure => simp [intOf]; omega
    · obtain rfl : m = K.length := by omega
      have HE := Lib.hid (show kidS L x K = 0 by rw [← hv, List.drop_length]; rfl)
      clear hv
      go_wp2
      go_ret
      exact ⟨by rw [HE.out]; rfl, hb⟩
set_option maxHeartbeats 1000000 in
theorem spec_l7Deep (L : List Nd) (b off cap i : Nat) (w : World) (h : NdsAt w b off L) (hi : i < L.length) (hW : WellP L) (hlen : L.length ≤ 1048576) :
    Calls Try.prog 97 #[.slice (some ⟨b, off, none⟩) L.length cap, .int .i64 i] w fun e w' => e = .returned (.int .i64 (deepN L i)) ∧ Below w.heap.size w w' := by
  have HA := Lib.hid h
  have HW := Lib.hid hW
  have hd := deepN_le hW i hi
  clear h hW
  go_enter Try.func97, Try.ntmps97
  go_wp2
  go_loopw [1, 5] (fun a n wr => ∃ j m : Nat, j < L.length ∧ a = .int .i64 j ∧ n = .int .i64 m ∧ deepN L j + m = deepN L i ∧ Below w.heap.size w wr)
    (fun a _ _ => (intOf a).toNat)
  case atStart => exact ⟨i, 0, hi, rfl, rfl, by omega, Below.refl _ _⟩
  case round =>
    obtain ⟨j, m, hj, rfl, rfl, hv, hb⟩ := hrel
    by_cases h0 : j = 0
    · subst h0
      have HE := Lib.hid (show m = deepN L i by rw [deepN_zero] at hv; omega)
      clear hv hd
      go_wp2
      go_ret
      exact ⟨by rw [HE.out]; rfl, hb⟩
    · obtain ⟨⟨p0, p1⟩, _⟩ := HW.out j (by omega) hj
      have e := deepN_pos HW.out (show 0 < j by omega) hj
      obtain ⟨_, e1, _⟩ := (HA.out j hj).kept hb
      generalize (ndAt L j).p = z at *
      obtain ⟨Z, rfl⟩ := Int.eq_ofNat_of_zero_le p0
      rw [Int.toNat_natCast] at e
      have HE := Lib.hid (show deepN L Z + (m + 1) = deepN L i by omega)
      have hm : m ≤ 1048576 := by omega
      clear hv e hd
      have j0 : 0 < (j : Int) := by omega
      go_wp2
      go_roundw
      case rel => exact ⟨Z, m + 1, by omega, rfl, by go_num, HE.out, hb⟩
      case measure => simp [intOf]; omega
set_option maxHeartbeats 1000000 in
theorem spec_l7Go (L : List Nd) (b off cap i : Nat) (x : Int) (w : World) (h : NdsAt w b off L) (hi : i < L.length) (hR : Right L) (hK : ∀ i, i < L.length → (ndAt L i).K.length ≤ 1048576) :
    Calls Try.prog 54 #[.slice (some ⟨b, off, none⟩) L.length cap, .int .i64 i, .int .i64 x] w fun e w' => e = .returned (.int .i64 (goN L i x)) ∧ Below w.heap.size w w' := by
  have HA := Lib.hid h
  have HR := Lib.hid hR
  have HK := Lib.hid hK
  have hl := hR.high
  clear h hR hK
  go_enter Try.func54, Try.ntmps54
  go_wp2
  go_loopw [1] (fun a wr => ∃ j : Nat, j < L.length ∧ a = .int .i64 j ∧ goN L j x = goN L i x ∧ Below w.heap.size w wr)
    (fun a _ => deepN L (intOf a).toNat)
  case atStart => exact ⟨i, hi, rfl, rfl, Below.refl _ _⟩
  case round =>
    obtain ⟨j, hj, rfl, hv, hb⟩ := hrel
    have hA1 : NdsAt _ b off L := fun q hq => (HA.out q hq).kept hb
    have HV := Lib.hid hv
    clear hv
    go_wp2_with fail
    refine (spec_l7Kid L b off cap j x _ hA1 hj (fun k hk => by have := HR.out.kid hj hk; omega) (by omega) (HK.out j hj)).mono ?_
    rintro e w1 ⟨rfl, hb1⟩
    have hb2 := hb.trans (hb1.mono hb.size)
    by_cases hc : 0 < kidN L j x ∨ j = 0
    · have HE := Lib.hid ((goN_yes hc).symm.trans HV.out)
      clear hA1
      generalize kidN L j x = y at *
      rcases hc with hc | hc
      · go_wp2_with fail
        go_ret
        exact ⟨by rw [HE.out]; rfl, hb2⟩
      · subst hc
        by_cases hy : 0 < y
        · go_wp2_with fail
          go_ret
          exact ⟨by rw [HE.out]; rfl, hb2⟩
        · go_wp2_with fail
          go_ret
          exact ⟨by rw [HE.out]; rfl, hb2⟩
    · have hj0 : 0 < (j : Int) := by omega
      have hy : ¬ 0 < kidN L j x := by omega
      have hj2 : ((j : Int) == 0) = false := by simp; omega
      have HE := Lib.hid ((goN_no HR.out hj hc).symm.trans HV.out)
      obtain ⟨f0, f1⟩ := HR.out.fail j hj
      have hd := HR.out.deep j (by omega) hj
      obtain ⟨_, _, e2, _⟩ := (hA1 j hj).kept hb1
      clear hA1 hc
      generalize (ndAt L j).f = z at *
      obtain ⟨Z, rfl⟩ := Int.eq_ofNat_of_zero_le f0
      rw [Int.toNat_natCast] at hd
      have HD := Lib.hid hd
      clear hd
      generalize kidN L j x = y at *
      have hy2 : decide (0 < y) = false := decide_eq_false hy
      go_wp2_with fail
      go_roundw
      case rel => exact ⟨Z, by omega, rfl, HE.out, hb2⟩
      case measure => exact HD.out
end Go.Proofs.Ytodmohepgmhipaa

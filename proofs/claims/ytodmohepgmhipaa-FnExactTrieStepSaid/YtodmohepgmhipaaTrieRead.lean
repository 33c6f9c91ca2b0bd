/-
  Chapter 7, the program: a trie's nodes as pointers, as they are read: kid, step, kidsAre.
-/
import Derived.Test.YtodmohepgmhipaaTrie
import Derived.Test.YtodmohepgmhipaaOwnV
namespace Go.Proofs.Ytodmohepgmhipaa
open Go.RowKit
set_option linter.unusedVariables false
set_option maxRecDepth 100000
/-- the pointer to node k -/
def ptrOf (A : Nat → Nat) (k : Int) : Value := .pointer (some ⟨A k.toNat, 0, none⟩)
/-- the same, where 0 stands for none -/
def ptrO (A : Nat → Nat) (k : Int) : Value := if k = 0 then .pointer none else ptrOf A k
/-- node i lies at block A i: its byte, its depth, its parent, its fail, its kids -/
def TN (w : World) (A : Nat → Nat) (i : Nat) (b : Int) (d : Nat) (p f : Value) (K : List Int) : Prop :=
  ∃ ka kc, w.heap[A i]? = some (.cells #[.int .i64 i, .int .i64 b, .int .i64 d, p, f, .slice ka K.length kc, .slice none 0 0] 94 (0, 0)) ∧ Vals w ka (K.map (ptrOf A))
def letA (L : List Nd) (i : Nat) : Int := if i = 0 then 0 else (ndAt L i).b
theorem valAt_ptr (A : Nat → Nat) (K : List Int) (i : Nat) (h : i < K.length) : valAt (K.map (ptrOf A)) i = ptrOf A (intAt K i) := by
  simp [valAt, intAt, List.getD_eq_getElem?_getD, h]
set_option maxHeartbeats 1000000 in
theorem impl_kid (L : List Nd) (A : Nat → Nat) (i : Nat) (b : Int) (d : Nat) (p f : Value) (K : List Int) (x : Int) (w : World) (h : TN w A i b d p f K) (hk : ∀ k, k ∈ K → 0 < k ∧ ∃ b' d' p' f' K', TN w A k.toNat b' d' p' f' K' ∧ b' = (ndAt L k.toNat).b) (hK : K.length ≤ 1048576) :
    Calls Try.prog 102 #[.pointer (some ⟨A i, 0, none⟩), .int .i64 x] w fun e w' => e = .returned (ptrO A (kidS L x K)) ∧ w = w' := by
  obtain ⟨ka, kc, hA, hv⟩ := h
  have c5 : w.cell? ⟨A i, 5, none⟩ = some (.slice ka K.length kc) := by rw [cell_of_row _ _ 5 _ _ _ hA]; rfl
  have HV := Lib.hid hv
  have HK := Lib.hid hk
  clear hA hv hk
  go_enter Try.func102, Try.ntmps102
  go_wp2
  go_loopw [12] (fun j wr => ∃ m : Nat, m ≤ K.length ∧ j = .int .i64 m ∧ kidS L x (K.drop m) = kidS L x K ∧ wr = w)
    (fun j _ => K.length - (intOf j).toNat)
  case atStart => exact ⟨0, by omega, rfl, by simp, rfl⟩
  case round =>
    obtain ⟨m, hm, rfl, hvv, rfl⟩ := hrel
    by_cases hlt : m < K.length
    · have e := kidS_drop (L := L) (b := x) hlt
      rw [hvv] at e
      obtain ⟨b4, o4, rfl, hI⟩ := HV.out.at m (by simpa using hlt)
      have d4 := hI m (by simpa using hlt)
      rw [valAt_ptr A K m hlt] at d4
      obtain ⟨y0, b', d', p', f', K', ⟨ka', kc', hA', _⟩, hb'⟩ := HK.out _ (show intAt K m ∈ K by simp [intAt, hlt])
      generalize intAt K m = y at *
      have e1 : wr.cell? ⟨A y.toNat, 1, none⟩ = some (.int .i64 b') := by rw [cell_of_row _ _ 1 _ _ _ hA']; rfl
      rw [← hb'] at e
      clear hI hvv hA' hb'
      unfold ptrOf at d4
      have d4 := d4
      have HE := fun h => Lib.hid (show kidS L x K = y by rw [e, if_pos h])
      have HE2 := fun h => Lib.hid (show kidS L x (K.drop (m + 1)) = kidS L x K by rw [e, if_neg h])
      clear e
      by_cases hz : b' = x
      · have HZ := HE hz
        have HP := Lib.hid (show ptrO A y = .pointer (some ⟨A y.toNat, 0, none⟩) by unfold ptrO ptrOf; rw [if_neg (by omega)])
        subst hz
        clear HE HE2
        go_wp2
        go_ret
        exact ⟨by rw [HZ.out, HP.out]; rfl, rfl⟩
      · have HZ := HE2 hz
        have hz2 : (b' == x) = false := by simp [hz]
        clear HE HE2
        go_wp2
        go_roundw
        case rel => exact ⟨m + 1, by omega, by go_num, HZ.out, trivial⟩
        case measure => simp [intOf]; omega
    · obtain rfl : m = K.length := by omega
      have HE := Lib.hid (show ptrO A (kidS L x K) = .pointer none by rw [← hvv, List.drop_length]; rfl)
      clear hvv
      go_wp2
      go_ret
      exact ⟨by rw [HE.out]; rfl, rfl⟩
def flV (L : List Nd) (A : Nat → Nat) (i : Nat) : Value := if i = 0 then .pointer none else ptrOf A (ndAt L i).f
/-- all nodes lie in memory -/
def TNs (w : World) (A : Nat → Nat) (L : List Nd) (P : Nat → Value) : Prop := ∀ i, i < L.length → TN w A i (letA L i) (deepN L i) (P i) (flV L A i) (ndAt L i).K
/-- how deep a node says that it stands -/
def depM (v : Value) (w : World) : Nat := match v with
  | .pointer (some ad) => match w.cell? ⟨ad.block, 2, none⟩ with
    | some (.int _ d) => d.toNat
    | _ => 0
  | _ => 0
theorem TN.depM {w : World} {A : Nat → Nat} {i : Nat} {b : Int} {d : Nat} {p f : Value} {K : List Int} (h : TN w A i b d p f K) : depM (.pointer (some ⟨A i, 0, none⟩)) w = d := by
  obtain ⟨ka, kc, hA, _⟩ := h
  have c2 : w.cell? ⟨A i, 2, none⟩ = some (.int .i64 d) := by rw [cell_of_row _ _ 2 _ _ _ hA]; rfl
  unfold Go.Proofs.Ytodmohepgmhipaa.depM
  simp only [c2, Int.toNat_natCast]
set_option maxHeartbeats 1000000 in
theorem impl_step (L : List Nd) (A : Nat → Nat) (P : Nat → Value) (i : Nat) (x : Int) (w : World) (h : TNs w A L P) (hR : Right L) (hi : i < L.length) (hK : ∀ i, i < L.length → (ndAt L i).K.length ≤ 1048576) :
    Calls Try.prog 58 #[.pointer (some ⟨A i, 0, none⟩), .int .i64 x] w fun e w' => e = .returned (ptrOf A (goN L i x)) ∧ w = w' := by
  have HA := Lib.hid h
  have HR := Lib.hid hR
  have HK := Lib.hid hK
  clear h hR hK
  go_enter Try.func58, Try.ntmps58
  go_wp2
  go_loopw [0] (fun v wr => ∃ j : Nat, j < L.length ∧ v = .pointer (some ⟨A j, 0, none⟩) ∧ goN L j x = goN L i x ∧ wr = w)
    (fun v wr => depM v wr)
  case atStart => exact ⟨i, hi, rfl, rfl, rfl⟩
  case round =>
    obtain ⟨j, hj, rfl, hv, rfl⟩ := hrel
    have HV := Lib.hid hv
    clear hv
    go_wp2_with fail
    refine (impl_kid L A j _ _ _ _ _ x _ (HA.out j hj) (fun k hk => by
      have hk2 := HR.out.kid hj hk
      have hn := HA.out k.toNat (by omega)
      exact ⟨hk2.1, _, _, _, _, _, hn, by unfold letA; rw [if_neg (by omega)]⟩) (HK.out j hj)).mono ?_
    rintro e w1 ⟨rfl, rfl⟩
    rw [show kidS L x (ndAt L j).K = kidN L j x from rfl]
    by_cases hc : 0 < kidN L j x
    · have HE := Lib.hid ((goN_yes (.inl hc)).symm.trans HV.out)
      have hp : ptrO A (kidN L j x) = ptrOf A (kidN L j x) := by unfold ptrO; rw [if_neg (by omega)]
      rw [hp]
      generalize kidN L j x = y at *
      unfold ptrOf
      go_wp2_with fail
      go_ret
      exact ⟨by rw [← HE.out]; rfl, rfl⟩
    · have h0 : kidN L j x = 0 := by
        rcases kidS_in (L := L) (b := x) (K := (ndAt L j).K) with h | ⟨h, _⟩
        · exact h
        · exact absurd (HR.out.kid hj h).1 hc
      obtain ⟨ka, kc, hA, _⟩ := HA.out j hj
      have c4 : wr.cell? ⟨A j, 4, none⟩ = some (flV L A j) := by rw [cell_of_row _ _ 4 _ _ _ hA]; rfl
      clear hA
      by_cases hj0 : j = 0
      · subst hj0
        have HE := Lib.hid (show (0 : Int) = goN L i x by rw [← HV.out, goN_yes (.inr rfl), h0])
        rw [h0]
        unfold ptrO
        rw [if_pos rfl]
        replace c4 : wr.cell? ⟨A 0, 4, none⟩ = some (.pointer none) := c4
        clear h0 hc
        go_wp2_with fail
        go_ret
        exact ⟨by rw [← HE.out]; rfl, rfl⟩
      · have HE := Lib.hid ((goN_no HR.out hj (by omega)).symm.trans HV.out)
        have hd := HR.out.deep j (by omega) hj
        have hf := HR.out.fail j hj
        have HD := Lib.hid (show depM (.pointer (some ⟨A (ndAt L j).f.toNat, 0, none⟩)) wr < depM (.pointer (some ⟨A j, 0, none⟩)) wr by
          rw [(HA.out _ (show (ndAt L j).f.toNat < L.length by omega)).depM, (HA.out j hj).depM]; exact hd)
        replace c4 : wr.cell? ⟨A j, 4, none⟩ = some (.pointer (some ⟨A (ndAt L j).f.toNat, 0, none⟩)) := by rw [c4]; unfold flV ptrOf; rw [if_neg hj0]
        have hfl : (ndAt L j).f.toNat < L.length := by omega
        rw [h0]
        unfold ptrO
        rw [if_pos rfl]
        clear h0 hc hd hf
        generalize (ndAt L j).f.toNat = F at *
        go_wp2_with fail
        go_roundw
        case rel => exact ⟨F, hfl, rfl, HE.out, trivial⟩
        case measure => exact HD.out
set_option maxHeartbeats 1000000 in
theorem impl_kidsAre1 (A : Nat → Nat) (i : Nat) (b : Int) (d : Nat) (p f : Value) (K : List Int) (x : Int) (w : World) (h : TN w A i b d p f K) :
    Calls Try.prog 129 #[.pointer (some ⟨A i, 0, none⟩), .int .i64 x] w fun e w' => e = .returned (.bool ((i : Int) == x)) ∧ w = w' := by
  obtain ⟨ka, kc, hA, hv⟩ := h
  have c0 : w.cell? ⟨A i, 0, none⟩ = some (.int .i64 i) := by rw [cell_of_row _ _ 0 _ _ _ hA]; rfl
  clear hA hv
  go_enter Try.func129, Try.ntmps129
  go_wp2
  go_ret
  exact ⟨rfl, rfl⟩
end Go.Proofs.Ytodmohepgmhipaa

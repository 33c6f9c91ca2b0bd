/-
  Chapter 2: contracts of l2Hex, l2Un and Unescaped in the model.
-/
import Derived.Test.YtodmohepgmhipaaL2From
namespace Go.Proofs.Ytodmohepgmhipaa
open Go.RowKit
set_option linter.unusedVariables false
set_option maxRecDepth 100000
theorem spec_l2Hex (b : UInt8) (w : World) :
    Calls Try.prog 125 #[.int .u8 (b.toNat : Int)] w fun e w' => e = .returned (.int .i64 (hexV b : Int)) ∧ w = w' := by
  have hb := b.toNat_lt
  by_cases h1 : 48 ≤ b.toNat
  · by_cases h2 : b.toNat ≤ 57
    · have H := Lib.hid (show (hexV b : Int) = (b.toNat : Int) - 48 by unfold hexV; rw [if_pos ⟨h1, h2⟩]; omega)
      go_enter Try.func125, Try.ntmps125
      go_wp2
      go_ret
      exact ⟨by rw [H.out]; rfl, rfl⟩
    · have d2 : decide ((b.toNat : Int) ≤ 57) = false := by simp; omega
      by_cases h3 : 97 ≤ b.toNat
      · by_cases h4 : b.toNat ≤ 102
        · have H := Lib.hid (show (hexV b : Int) = (b.toNat : Int) - 97 + 10 by unfold hexV; rw [if_neg (by omega), if_pos ⟨h3, h4⟩]; omega)
          go_enter Try.func125, Try.ntmps125
          go_wp2
          go_ret
          exact ⟨by rw [H.out]; rfl, rfl⟩
        · have d4 : decide ((b.toNat : Int) ≤ 102) = false := by simp; omega
          have H := Lib.hid (show (hexV b : Int) = 16 by unfold hexV; rw [if_neg (by omega), if_neg (by omega)]; rfl)
          go_enter Try.func125, Try.ntmps125
          go_wp2
          go_ret
          exact ⟨by rw [H.out]; rfl, rfl⟩
      · have d3 : decide ((97 : Int) ≤ (b.toNat : Int)) = false := by simp; omega
        have H := Lib.hid (show (hexV b : Int) = 16 by unfold hexV; rw [if_neg (by omega), if_neg (by omega)]; rfl)
        go_enter Try.func125, Try.ntmps125
        go_wp2
        go_ret
        exact ⟨by rw [H.out]; rfl, rfl⟩
  · have d1 : decide ((48 : Int) ≤ (b.toNat : Int)) = false := by simp; omega
    have d3 : decide ((97 : Int) ≤ (b.toNat : Int)) = false := by simp; omega
    have H := Lib.hid (show (hexV b : Int) = 16 by unfold hexV; rw [if_neg (by omega), if_neg (by omega)]; rfl)
    go_enter Try.func125, Try.ntmps125
    go_wp2
    go_ret
    exact ⟨by rw [H.out]; rfl, rfl⟩
theorem drop_at {s : ByteArray} {k : Nat} {L : List UInt8} (h : s.data.toList.drop k = L) (j : Nat) (hj : j < L.length) : ∀ hh, s[k + j]'hh = L[j] := by
  intro hh
  subst h
  rw [List.getElem_drop]; rfl
def unPos (r : Except Nat (List UInt8)) : Int := match r with
  | .ok _ => -1
  | .error p => (p : Int)
def l2Post (r : Except Nat (List UInt8)) (e : Ending) : Prop := e = .returned (.tuple #[.string (unText r), .int .i64 (unPos r)])
set_option maxHeartbeats 8000000 in
set_option maxRecDepth 1000000 in
theorem spec_l2Un (s : ByteArray) (w : World) (hs : s.size ≤ 1073741824) :
    Calls Try.prog 89 #[.string s] w fun e w' => l2Post (unAll s) e ∧ Below w.heap.size w w' := by
  obtain ⟨i0, hi, hz0, hz1, hz2⟩ := info_parts byte_info
  have hdl : s.data.toList.length = s.size := Array.length_toList
  obtain ⟨R0, hR0⟩ : ∃ R0, unAll s = R0 := ⟨_, rfl⟩
  rw [hR0]
  go_enter Try.func89, Try.ntmps89
  go_wp2
  go_loopw [4, 5] (fun v i wr => ∃ (k : Nat) (acc : List UInt8), k ≤ s.size ∧ acc.length ≤ k ∧ i = .int .i64 k ∧ R0 = onto acc (unL s.size (s.data.toList.drop k) k) ∧ wr.ownsRow w.heap.size 5 1 v acc.length (acc.map byteVal) ∧ Below w.heap.size w wr)
    (fun _ i _ => s.size - (intOf i).toNat)
  case atStart => exact ⟨0, [], by omega, by simp, rfl, by rw [← hR0, List.drop_zero]; unfold onto unAll; split <;> simp_all, World.ownsRow_made w #[] 0 (Nat.le_refl _) (by decide) rfl, (Below.refl _ _).alloc (Nat.le_refl _) _⟩
  case round =>
    obtain ⟨k, acc, hk, hacc, rfl, hR, hown, hb⟩ := hrel
    by_cases hlt : k < s.size
    · obtain ⟨L, hL⟩ : ∃ L, s.data.toList.drop k = L := ⟨_, rfl⟩
      have hLl : L.length = s.size - k := by rw [← hL]; simp
      have hne : L ≠ [] := by intro e; rw [e] at hLl; simp at hLl; omega
      rw [hL] at hR
      have HNO : unStep L = none → R0 = .error k := fun hu => by rw [hR, unL_none (by omega) hne hu]; rfl
      have HYES : ∀ b n, unStep L = some (b, n) → R0 = onto (acc ++ [b]) (unL s.size (s.data.toList.drop (k + n)) (k + n)) := fun b n hu => by
        rw [hR, unL_step hne (by omega) hu, ← hL, List.drop_drop]
        unfold onto
        cases unL s.size (List.drop (k + n) s.data.toList) (k + n) <;> simp
      have hat := fun j hj => drop_at hL j hj
      clear hR hR0
      match L, hL, hLl, hne, HNO, HYES, hat with
      | b :: r, hL, hLl, hne, HNO, HYES, hat =>
        have hc0 : ∀ hh, s[k]'hh = b := hat 0 (by simp)
        have hbl := b.toNat_lt
        by_cases hb1 : b.toNat < 33
        · have HRe := Lib.hid (HNO (unStep_bad (.inl hb1)))
          clear HNO HYES hat hL hLl hne
          go_wp2
          go_ret2
          exact ⟨by rw [HRe.out]; rfl, hb⟩
        · by_cases hb2 : 126 < b.toNat
          · have HRe := Lib.hid (HNO (unStep_bad (.inr hb2)))
            clear HNO HYES hat hL hLl hne
            go_wp2
            go_ret2
            exact ⟨by rw [HRe.out]; rfl, hb⟩
          · by_cases hb3 : b.toNat = 92
            · have hx : b = 92 := byte_of hb3 (by decide)
              subst hx
              match r, hL, hLl, hne, HNO, HYES, hat with
              | [], hL, hLl, hne, HNO, HYES, hat =>
                simp only [List.length_cons, List.length_nil] at hLl
                have d1 : decide ((k : Int) + 1 < (s.size : Int)) = false := by simp; omega
                have d3 : decide ((k : Int) + 3 < (s.size : Int)) = false := by simp; omega
                have HRe := Lib.hid (HNO unStep_end)
                clear HNO HYES hat hL hLl hne
                go_wp2_with (go_at_call 125; refine (spec_l2Hex _ _).mono ?_; rintro e w1 ⟨rfl, rfl⟩)
                go_ret2
                exact ⟨by rw [HRe.out]; rfl, hb⟩
              | c :: r2, hL, hLl, hne, HNO, HYES, hat =>
                have hc1 : ∀ hh, s[k + 1]'hh = c := hat 1 (by simp)
                have hcl := c.toNat_lt
                simp only [List.length_cons] at hLl
                have hk1 : k + 1 < s.size := by omega
                by_cases h1 : c.toNat = 92
                · have hx : c = 92 := byte_of h1 (by decide)
                  subst hx
                  have HRe := Lib.hid (HYES _ _ (unStep_back r2))
                  clear HNO HYES hat hL hLl hne
                  go_wp2_with (first | (at_builtin; refine wpList_append_own _ rfl _ _ 128 rfl w.heap.size 5 i0 (.int .u8 0) 1 1 Try.underlying128 hi hz0 hz1 hz2 rfl (by decide) _ _ _ rfl (hown.alloc _) ⟨wr.heap.size, 0, none⟩ 1 1 _ rfl rfl (cells_new _ _ _) (one_all rfl) (by unfold maxLen; omega) (by omega) (by have := hb.size; simp; omega) ?_; intro v' w1 hown' hg _) | (go_at_call 125; refine (spec_l2Hex _ _).mono ?_; rintro e w1 ⟨rfl, rfl⟩))
                  have hown2 := own_cat (X := [92]) hown' rfl rfl
                  have hb' := (hb.alloc hb.size _).grown hg (by have := hb.size; simp; omega) (fun j hj => (hown.lt j hj).1)
                  clear hown hb hg hown'
                  go_roundw
                  case rel => exact ⟨k + 2, acc ++ [92], by omega, by simp; omega, by go_num, HRe.out, hown2, hb'⟩
                  case measure => simp [intOf]; omega
                · by_cases h2 : c.toNat = 110
                  · have hx : c = 110 := byte_of h2 (by decide)
                    subst hx
                    have HRe := Lib.hid (HYES _ _ (unStep_feed r2))
                    clear HNO HYES hat hL hLl hne
                    go_wp2_with (first | (at_builtin; refine wpList_append_own _ rfl _ _ 128 rfl w.heap.size 5 i0 (.int .u8 0) 1 1 Try.underlying128 hi hz0 hz1 hz2 rfl (by decide) _ _ _ rfl (hown.alloc _) ⟨wr.heap.size, 0, none⟩ 1 1 _ rfl rfl (cells_new _ _ _) (one_all rfl) (by unfold maxLen; omega) (by omega) (by have := hb.size; simp; omega) ?_; intro v' w1 hown' hg _) | (go_at_call 125; refine (spec_l2Hex _ _).mono ?_; rintro e w1 ⟨rfl, rfl⟩))
                    have hown2 := own_cat (X := [10]) hown' rfl rfl
                    have hb' := (hb.alloc hb.size _).grown hg (by have := hb.size; simp; omega) (fun j hj => (hown.lt j hj).1)
                    clear hown hb hg hown'
                    go_roundw
                    case rel => exact ⟨k + 2, acc ++ [10], by omega, by simp; omega, by go_num, HRe.out, hown2, hb'⟩
                    case measure => simp [intOf]; omega
                  · by_cases h3 : c.toNat = 120
                    · have hx : c = 120 := byte_of h3 (by decide)
                      subst hx
                      match r2, hL, hLl, hne, HNO, HYES, hat with
                      | [], hL, hLl, hne, HNO, HYES, hat =>
                        simp only [List.length_nil] at hLl
                        have d3 : decide ((k : Int) + 3 < (s.size : Int)) = false := by simp; omega
                        have HRe := Lib.hid (HNO unStep_short0)
                        clear HNO HYES hat hL hLl hne
                        go_wp2_with (go_at_call 125; refine (spec_l2Hex _ _).mono ?_; rintro e w1 ⟨rfl, rfl⟩)
                        go_ret2
                        exact ⟨by rw [HRe.out]; rfl, hb⟩
                      | [q], hL, hLl, hne, HNO, HYES, hat =>
                        simp only [List.length_cons, List.length_nil] at hLl
                        have d3 : decide ((k : Int) + 3 < (s.size : Int)) = false := by simp; omega
                        have HRe := Lib.hid (HNO (unStep_short1 q))
                        clear HNO HYES hat hL hLl hne
                        go_wp2_with (go_at_call 125; refine (spec_l2Hex _ _).mono ?_; rintro e w1 ⟨rfl, rfl⟩)
                        go_ret2
                        exact ⟨by rw [HRe.out]; rfl, hb⟩
                      | q :: l :: r3, hL, hLl, hne, HNO, HYES, hat =>
                        have hc2 : ∀ hh, s[k + 2]'hh = q := hat 2 (by simp)
                        have hc3 : ∀ hh, s[k + 3]'hh = l := hat 3 (by simp)
                        simp only [List.length_cons] at hLl
                        have hk3 : k + 3 < s.size := by omega
                        have hv1 := hexV_le q
                        have hv2 := hexV_le l
                        by_cases g1 : hexV q < 16
                        · by_cases g2 : hexV l < 16
                          · have HRe := Lib.hid (HYES _ _ (unStep_hex ⟨g1, g2⟩))
                            clear HNO HYES hat hL hLl hne
                            have e1 : IntKind.i64.wrap ((k : Int) + 2) = (k : Int) + 2 := IntWalk.i64_in _ (by omega)
                            have e2 : IntKind.i64.wrap ((k : Int) + 3) = (k : Int) + 3 := IntWalk.i64_in _ (by omega)
                            have e3 : ((k : Int) + 2).toNat = k + 2 := by omega
                            have e4 : ((k : Int) + 3).toNat = k + 3 := by omega
                            have e5 : IntKind.i64.wrap (16 * (hexV q : Int)) = 16 * (hexV q : Int) := IntWalk.i64_in _ (by omega)
                            have e6 : IntKind.i64.wrap (16 * (hexV q : Int) + (hexV l : Int)) = 16 * (hexV q : Int) + (hexV l : Int) := IntWalk.i64_in _ (by omega)
                            have e7 : IntKind.u8.wrap (16 * (hexV q : Int) + (hexV l : Int)) = 16 * (hexV q : Int) + (hexV l : Int) := by rw [IntKind.wrap_u8]; omega
                            have p1 : (0 : Int) ≤ (k : Int) + 2 := by omega
                            have p2 : (0 : Int) ≤ (k : Int) + 3 := by omega
                            have p3 : (k : Int) + 2 < (s.size : Int) := by omega
                            have p4 : (k : Int) + 3 < (s.size : Int) := by omega
                            go_wp2_with (go_at_call 125; refine (spec_l2Hex _ _).mono ?_; rintro e w1 ⟨rfl, rfl⟩)
                            go_region_law (first | (refine step_append_lies _ rfl (.tmp 100) (.tmp 114) 128 rfl w.heap.size 5 i0 (.int .u8 0) 1 1 Try.underlying128 hi hz0 hz1 hz2 rfl (by decide) u4 _ _ (by simp [Act.eval]) (hown.alloc _).drew ⟨wr.heap.size, 0, none⟩ 1 1 [.int .u8 (16 * (hexV q : Int) + (hexV l : Int))] (by simp [Act.eval]) rfl (fun j u h => cells_new wr _ _ j u h) (one_all rfl) (by decide) (by unfold maxLen; omega) (by omega) (by have := hb.size; simp; omega) _ rfl ?_; intro g cap w1 hown' hg _ _) | (go_simp; go_at_call 125; refine (spec_l2Hex _ _).mono ?_; rintro e w1 ⟨rfl, rfl⟩))
                            all_goals
                              have hown2 := own_cat (X := [UInt8.ofNat (16 * hexV q + hexV l)]) hown' rfl (by
                                have e8 : ((UInt8.ofNat (16 * hexV q + hexV l)).toNat : Int) = 16 * (hexV q : Int) + (hexV l : Int) := by rw [UInt8.toNat_ofNat']; omega
                                simp only [List.map_cons, List.map_nil, byteVal, e8])
                              have hb' := ((hb.alloc hb.size _).drew).grown hg (by have := hb.size; simp; omega) (fun j hj => (hown.lt j hj).1)
                              clear hown hb hg hown'
                              go_wp2
                              go_roundw
                              case rel => exact ⟨k + 4, acc ++ [UInt8.ofNat (16 * hexV q + hexV l)], by omega, by simp; omega, by go_num, HRe.out, hown2, hb'⟩
                              case measure => simp [intOf]; omega
                          · have dg : decide ((hexV l : Int) < 16) = false := by simp; omega
                            have HRe := Lib.hid (HNO (unStep_nohex (by omega)))
                            clear HNO HYES hat hL hLl hne
                            go_wp2_with (go_at_call 125; refine (spec_l2Hex _ _).mono ?_; rintro e w1 ⟨rfl, rfl⟩)
                            go_ret2
                            exact ⟨by rw [HRe.out]; rfl, hb⟩
                        · have dg : decide ((hexV q : Int) < 16) = false := by simp; omega
                          have HRe := Lib.hid (HNO (unStep_nohex (by omega)))
                          clear HNO HYES hat hL hLl hne
                          go_wp2_with (go_at_call 125; refine (spec_l2Hex _ _).mono ?_; rintro e w1 ⟨rfl, rfl⟩)
                          go_ret2
                          exact ⟨by rw [HRe.out]; rfl, hb⟩
                    · by_cases h4 : k + 3 < s.size
                      · have HRe := Lib.hid (HNO (unStep_other h1 h2 h3))
                        clear HNO HYES hat hL hLl hne
                        go_wp2_with (go_at_call 125; refine (spec_l2Hex _ _).mono ?_; rintro e w1 ⟨rfl, rfl⟩)
                        go_ret2
                        exact ⟨by rw [HRe.out]; rfl, hb⟩
                      · have d3 : decide ((k : Int) + 3 < (s.size : Int)) = false := by simp; omega
                        have HRe := Lib.hid (HNO (unStep_other h1 h2 h3))
                        clear HNO HYES hat hL hLl hne
                        go_wp2_with (go_at_call 125; refine (spec_l2Hex _ _).mono ?_; rintro e w1 ⟨rfl, rfl⟩)
                        go_ret2
                        exact ⟨by rw [HRe.out]; rfl, hb⟩
            · have HRe := Lib.hid (HYES b 1 (unStep_plain (by omega) hb3))
              have d2 : decide ((126 : Int) < (b.toNat : Int)) = false := by simp; omega
              clear HNO HYES hat hL hLl hne
              go_wp2_with (at_builtin; refine wpList_append_own _ rfl _ _ 128 rfl w.heap.size 5 i0 (.int .u8 0) 1 1 Try.underlying128 hi hz0 hz1 hz2 rfl (by decide) _ _ _ rfl (hown.alloc _) ⟨wr.heap.size, 0, none⟩ 1 1 _ rfl rfl (cells_new _ _ _) (one_all rfl) (by unfold maxLen; omega) (by omega) (by have := hb.size; simp; omega) ?_; intro v' w1 hown' hg _)
              have hown2 := own_cat (X := [b]) hown' rfl rfl
              have hb' := (hb.alloc hb.size _).grown hg (by have := hb.size; simp; omega) (fun j hj => (hown.lt j hj).1)
              clear hown hb hg hown'
              go_roundw
              case rel => exact ⟨k + 1, acc ++ [b], by omega, by simp; omega, by go_num, HRe.out, hown2, hb'⟩
              case measure => simp [intOf]; omega
    · obtain rfl : k = s.size := by omega
      have hRe : R0 = .ok acc := by
        rw [hR, List.drop_of_length_le (by omega), unL_nil]; simp [onto]
      have HRe := Lib.hid hRe
      clear hR hRe hR0
      have hcv := run_owned_string (P := Try.prog) (w := wr) (src := 128) (dst := 9) (e := 5) Try.underlying128 Try.underlying5 Try.underlying9 _ hown
      go_wp2
      go_ret2
      exact ⟨by rw [HRe.out]; rfl, hb⟩

theorem unPos_neg (r : Except Nat (List UInt8)) : decide (unPos r < 0) = unOk r := by
  cases r with
  | ok l => rfl
  | error p => show decide ((p : Int) < 0) = false; rw [decide_eq_false_iff_not]; omega
end Go.Proofs.Ytodmohepgmhipaa

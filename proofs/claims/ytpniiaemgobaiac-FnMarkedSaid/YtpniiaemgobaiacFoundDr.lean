/-
  Chapter 17: what the drawers of what was found hand over; the laws' own helpers.
-/
import Derived.Test.YtpniiaemgobaiacFdI
import Derived.Test.YtpniiaemgobaiacFoundIn
import Derived.Test.YtpniiaemgobaiacRd
namespace Go.Proofs.Ytpniiaemgobaiac
open Go.RowKit
set_option linter.unusedVariables false
set_option maxRecDepth 100000
theorem OwnM.rd {e m R : Nat} {w w1 : World} {B : Nat} {a : Option Addr} {n cap : Nat} {L : List Int} (h : OwnM e m w B a n cap L) (hg : w.grownBy w1 (some R)) (hR : R < B) : OwnM e m w1 B a n cap L :=
  ⟨h.1, h.2.kept hg (.inr fun e => by have := (h.2.lt R e).1; omega)⟩
set_option maxHeartbeats 2000000 in
theorem rd_found (w : World) (R : Nat) (a : Option Addr) (len cap : Nat) (z : List Int) (h : RdOk w R a len cap z) (n : Nat) (hn : n ≤ 100) :
    Calls Try.prog 48 #[.pointer (some ⟨R, 0, none⟩), .int .i64 n] w fun e w' => ∃ (L : List Fd) (m : Nat) (a' : Option Addr) (cp : Nat), e = .returned (.slice a' m cp) ∧ L.length = m ∧ m ≤ n + 1 ∧ OwnM 30 3 w' w.heap.size a' m cp (fdI L) ∧ RdOk w' R a len cap z ∧ w.grownBy w' (some R) := by
  obtain ⟨i0, hi, ht0, ht1, ht2⟩ := info_parts found_info
  have hwz := h.lt
  go_enter Try.func48, Try.ntmps48
  go_wp2_with fail
  refine (rd_below _ _ _ _ _ _ (h.alloc _) _).mono ?_
  rintro e w1 ⟨m, rfl, ⟨hm0, hm3, hm1, _⟩, hok, hg⟩
  have hm2 : m ≤ n := by
    by_cases h1 : (n : Int) + 1 ≤ 1
    · have := hm3 h1; omega
    · have := hm1 (by omega); omega
  clear hm1 hm3
  obtain ⟨q, rfl⟩ := Int.eq_ofNat_of_zero_le hm0
  have HG1 := Lib.hid (show w.grownBy w1 (some R) from grownBy_trans (World.grownBy_alloc w _ _) hg)
  have HO0 := Lib.hid (show OwnM 30 3 w1 w.heap.size (some ⟨w.heap.size, 0, none⟩) 0 0 (fdI []) from ⟨rfl, (World.ownsRow_made (e := 30) (size := 3) w #[] 0 (Nat.le_refl _) (by decide) rfl).kept hg (.inr (by simp [Value.ownBlock]; omega))⟩)
  have hqn : q ≤ n := by omega
  clear hg hm0 hm2
  go_wp2_with fail
  go_loopw [5, 6, 7] (fun v i _ wr => ∃ (k m cp : Nat) (a' : Option Addr) (L : List Fd), m + k = q ∧ i = .int .i64 k ∧ v = .slice a' m cp ∧ L.length = m ∧ OwnM 30 3 wr w.heap.size a' m cp (fdI L) ∧ RdOk wr R a len cap z ∧ w.grownBy wr (some R))
    (fun _ i _ _ => (intOf i).toNat)
  case atStart => exact ⟨q, 0, 0, some ⟨w.heap.size, 0, none⟩, [], by omega, rfl, rfl, rfl, HO0.out, hok, HG1.out⟩
  case round =>
    obtain ⟨k, m, cp, a', L, hmk, rfl, rfl, hL, hO, hokr, hgr⟩ := hrel
    have HO := Lib.hid hO; have HGR := Lib.hid hgr; have HL := Lib.hid hL; have HMK := Lib.hid hmk
    have hmq : m + k ≤ n := by omega
    clear hO hgr hL HO0 HG1 hok hmk
    by_cases hk0 : k = 0
    · subst hk0
      go_wp2_with fail
      refine (rd_once _ _ _ _ _ _ hokr _ (by omega) (by omega)).mono ?_
      rintro e w2 ⟨c, rfl, hok2, hg2⟩
      have HO2 := Lib.hid (HO.out.rd hg2 hwz)
      have HG2 := Lib.hid (grownBy_trans HGR.out hg2)
      clear hg2
      cases c
      · go_wp2_with fail
        go_ret
        exact ⟨L, m, a', cp, rfl, HL.out, by omega, HO2.out, hok2, HG2.out⟩
      · go_wp2_with fail
        refine (rd_off _ _ _ _ _ _ hok2 _ _ (by omega) (by omega) (by omega) (by omega)).mono ?_
        rintro e w3 ⟨t, rfl, ht, hok3, hg3⟩
        have HO3 := Lib.hid (HO2.out.rd hg3 hwz)
        have HG3 := Lib.hid (grownBy_trans HG2.out hg3)
        have hzw : w.heap.size ≤ w3.heap.size := HG3.out.size
        have hB5 : Below w3.heap.size w3 (w3.alloc (.cells #[.int .i64 3, .int .i64 t, .int .i64 0] 30)) := (Below.refl _ _).alloc (Nat.le_refl _) _
        have HK5 := Lib.hid (HO3.out.kept hB5)
        have HC5 := Lib.hid (cells_new w3 #[Value.int .i64 3, .int .i64 t, .int .i64 0] 30)
        have HRL := Lib.hid (show (fdI (L ++ [⟨3, t, 0⟩])).length = (m + 1) * 3 by rw [fdI_length, List.length_append, HL.out]; rfl)
        have HR := Lib.hid (show fdI (L ++ [⟨3, t, 0⟩]) = fdI L ++ [3, t, 0] from fdI_append _ _)
        clear hg3 hB5 hok2 HO2 HG2
        go_wp2_with (at_builtin; go_must (refine wpList_append_own _ rfl _ _ 24 rfl w.heap.size 30 i0 (.agg #[.int .i64 0, .int .i64 0, .int .i64 0]) 3 24 Try.underlying24 hi ht0 ht1 ht2 rfl (by decide) _ _ _ rfl HK5.out.2 ⟨w3.heap.size, 0, none⟩ 1 1 [.int .i64 3, .int .i64 t, .int .i64 0] rfl rfl HC5.out (by simp [Value.oneCell']) (by unfold maxLen; omega) (by omega) (by simp; omega) ?_; intro v6 w6 hown6 hg6 _; obtain ⟨a6, cap6, rfl, hO6⟩ := OwnM.shape HRL.out (by rw [HR.out, List.map_append]; exact hown6); have HO6 := Lib.hid hO6; have HG6 := Lib.hid (grownBy_own (grownBy_alloc HG3.out _) hg6 (fun k hk => (HK5.out.2.lt k hk).1)); have HR6 := Lib.hid ((hok3.alloc (.cells #[.int .i64 3, .int .i64 t, .int .i64 0] 30)).grown hg6 (fun k hk => by have := (HK5.out.2.lt k hk).1; omega)); clear hown6 hg6 hO6))
        go_ret
        exact ⟨L ++ [⟨3, t, 0⟩], m + 1, a6, cap6, rfl, by rw [List.length_append, HL.out]; rfl, by omega, HO6.out, HR6.out, HG6.out⟩
    · go_wp2_with fail
      refine (rd_below _ _ _ _ _ _ hokr _).mono ?_
      rintro e w2 ⟨x, rfl, ⟨hx0, _, hx1, _⟩, hok2, hg2⟩
      have hx2 : x < 12 := hx1 (by omega)
      have HO2 := Lib.hid (HO.out.rd hg2 hwz)
      have HG2 := Lib.hid (grownBy_trans HGR.out hg2)
      clear hg2 hx1 hokr HO HGR
      go_wp2_with fail
      refine (rd_below _ _ _ _ _ _ hok2 _).mono ?_
      rintro e w3 ⟨y, rfl, ⟨hy0, _, hy1, _⟩, hok3, hg3⟩
      have hy2 : y < 5 := hy1 (by omega)
      have HO3 := Lib.hid (HO2.out.rd hg3 hwz)
      have HG3 := Lib.hid (grownBy_trans HG2.out hg3)
      clear hg3 hy1 hok2 HO2 HG2
      go_wp2_with fail
      refine (rd_below _ _ _ _ _ _ hok3 _).mono ?_
      rintro e w4 ⟨v, rfl, ⟨hv0, _, hv1, _⟩, hok4, hg4⟩
      have HO4 := Lib.hid (HO3.out.rd hg4 hwz)
      have HG4 := Lib.hid (grownBy_trans HG3.out hg4)
      have hzw : w.heap.size ≤ w4.heap.size := HG4.out.size
      have hB5 : Below w4.heap.size w4 (w4.alloc (.cells #[.int .i64 x, .int .i64 (x + 1 + y), .int .i64 v] 30)) := (Below.refl _ _).alloc (Nat.le_refl _) _
      have HK5 := Lib.hid (HO4.out.kept hB5)
      have HC5 := Lib.hid (cells_new w4 #[Value.int .i64 x, .int .i64 (x + 1 + y), .int .i64 v] 30)
      have HRL := Lib.hid (show (fdI (L ++ [⟨x, x + 1 + y, v⟩])).length = (m + 1) * 3 by rw [fdI_length, List.length_append, HL.out]; rfl)
      have HR := Lib.hid (show fdI (L ++ [⟨x, x + 1 + y, v⟩]) = fdI L ++ [x, x + 1 + y, v] from fdI_append _ _)
      clear hg4 hB5 hok3 HO3 HG3 hv1
      go_wp2_with (at_builtin; go_must (refine wpList_append_own _ rfl _ _ 24 rfl w.heap.size 30 i0 (.agg #[.int .i64 0, .int .i64 0, .int .i64 0]) 3 24 Try.underlying24 hi ht0 ht1 ht2 rfl (by decide) _ _ _ rfl HK5.out.2 ⟨w4.heap.size, 0, none⟩ 1 1 [.int .i64 x, .int .i64 (x + 1 + y), .int .i64 v] rfl rfl HC5.out (by simp [Value.oneCell']) (by unfold maxLen; omega) (by omega) (by simp; omega) ?_; intro v6 w6 hown6 hg6 _; obtain ⟨a6, cap6, rfl, hO6⟩ := OwnM.shape HRL.out (by rw [HR.out, List.map_append]; exact hown6); have HO6 := Lib.hid hO6; have HG6 := Lib.hid (grownBy_own (grownBy_alloc HG4.out _) hg6 (fun k hk => (HK5.out.2.lt k hk).1)); have HR6 := Lib.hid ((hok4.alloc (.cells #[.int .i64 x, .int .i64 (x + 1 + y), .int .i64 v] 30)).grown hg6 (fun k hk => by have := (HK5.out.2.lt k hk).1; omega)); clear hown6 hg6 hO6))
      go_roundw
      case rel => exact ⟨k - 1, m + 1, cap6, a6, L ++ [⟨x, x + 1 + y, v⟩], by have := HMK.out; omega, by congr 1; omega, rfl, by rw [List.length_append, HL.out]; rfl, HO6.out, HR6.out, HG6.out⟩
      case measure => simp [intOf]; omega
theorem drawFoundOk (a : Option Addr) (len cap : Nat) (z : List Int) (w : World) (hr : IsRow .u8 w a len cap z) (hl : len ≤ 1048576) :
    Calls Try.prog 12 #[.slice a len cap] w fun e w' => ∃ (L : List Fd) (m : Nat) (a' : Option Addr) (cp : Nat), e = .returned (.slice a' m cp) ∧ L.length = m ∧ m ≤ 7 ∧ OwnM 30 3 w' w.heap.size a' m cp (fdI L) ∧ Below w.heap.size w w' := by
  go_enter Try.func12, Try.ntmps12
  go_wp2_with fail
  refine (l1Open_any _ _ _ _ _ hr hl).mono ?_
  rintro e w1 ⟨rfl, hok, hb⟩
  go_wp2_with fail
  refine (rd_found _ _ _ _ _ _ hok 6 (by omega)).mono ?_
  rintro e w2 ⟨L, m, a', cp, rfl, hL, hm, hO, hok2, hg2⟩
  have HL := Lib.hid hL
  clear hL
  go_wp2_with fail
  go_ret
  exact ⟨L, m, a', cp, rfl, HL.out, hm, hO.mono hb.size, below_rd hb hg2⟩
theorem drawLeftmost (a : Option Addr) (len cap : Nat) (z : List Int) (w : World) (hr : IsRow .u8 w a len cap z) (hl : len ≤ 1048576) :
    Calls Try.prog 10 #[.slice a len cap] w fun e w' => ∃ (L : List Fd) (m : Nat) (a' : Option Addr) (cp : Nat), e = .returned (.slice a' m cp) ∧ L.length = m ∧ m ≤ 7 ∧ OwnM 30 3 w' w.heap.size a' m cp (fdI L) ∧ Below w.heap.size w w' := by
  go_enter Try.func10, Try.ntmps10
  go_wp2_with fail
  refine (drawFoundOk _ _ _ _ _ hr hl).mono ?_
  rintro e w2 ⟨L, m, a', cp, rfl, hL, hm, hO, hb⟩
  have HL := Lib.hid hL
  clear hL
  go_wp2_with fail
  go_ret
  exact ⟨L, m, a', cp, rfl, HL.out, hm, hO, hb⟩
theorem drawBestOf (a : Option Addr) (len cap : Nat) (z : List Int) (w : World) (hr : IsRow .u8 w a len cap z) (hl : len ≤ 1048576) :
    Calls Try.prog 18 #[.slice a len cap] w fun e w' => ∃ (L : List Fd) (m : Nat) (a' : Option Addr) (cp : Nat), e = .returned (.slice a' m cp) ∧ L.length = m ∧ m ≤ 7 ∧ OwnM 30 3 w' w.heap.size a' m cp (fdI L) ∧ Below w.heap.size w w' := by
  go_enter Try.func18, Try.ntmps18
  go_wp2_with fail
  refine (drawFoundOk _ _ _ _ _ hr hl).mono ?_
  rintro e w2 ⟨L, m, a', cp, rfl, hL, hm, hO, hb⟩
  have HL := Lib.hid hL
  clear hL
  go_wp2_with fail
  go_ret
  exact ⟨L, m, a', cp, rfl, HL.out, hm, hO, hb⟩
set_option maxHeartbeats 1000000 in
theorem laws_sameFound (L : List Int) (a1 a2 : Option Addr) (n cap1 cap2 : Nat) (w : World) (hn : L.length = n * 3) (h1 : Ints w a1 L) (h2 : Ints w a2 L) (hlen : n ≤ 1048577) :
    Calls Try.prog 13 #[.slice a1 n cap1, .slice a2 n cap2] w fun e w' => e = .returned (.bool true) ∧ Below w.heap.size w w' := by
  have e0 : ((n : Int) != (n : Int)) = false := by simp
  have HL := Lib.hid hn
  clear hn
  go_enter Try.func13, Try.ntmps13
  go_wp2
  go_loopw [5] (fun i wr => ∃ k : Nat, k ≤ n ∧ i = .int .i64 k ∧ Below w.heap.size w wr)
    (fun i _ => n - (intOf i).toNat)
  case atStart => exact ⟨0, by omega, rfl, Below.refl _ _⟩
  case round =>
    obtain ⟨k, hk, rfl, hb⟩ := hrel
    by_cases hlt : k < n
    · obtain ⟨b1, o1, rfl, hp⟩ := (h1.kept hb).at (k * 3) (by rw [HL.out]; omega)
      obtain ⟨b2, o2, rfl, hq⟩ := (h2.kept hb).at (k * 3) (by rw [HL.out]; omega)
      have c0 := hp (k * 3) (by rw [HL.out]; omega)
      have c1 := hp (k * 3 + 1) (by rw [HL.out]; omega)
      have c2 := hp (k * 3 + 2) (by rw [HL.out]; omega)
      have d0 := hq (k * 3) (by rw [HL.out]; omega)
      have d1 := hq (k * 3 + 1) (by rw [HL.out]; omega)
      have d2 := hq (k * 3 + 2) (by rw [HL.out]; omega)
      rw [← Nat.add_assoc] at c1 c2 d1 d2
      generalize intAt L (k * 3) = x at *
      generalize intAt L (k * 3 + 1) = y at *
      generalize intAt L (k * 3 + 2) = z at *
      have hl1 := block_lt_of_cell c0
      have hl2 := block_lt_of_cell d0
      clear h1 h2 hp hq
      go_wp2_with fail
      go_quiet (fail)
      go_wp2
      go_roundw
      case rel => exact ⟨k + 1, by omega, by go_num, below_drewN hb _⟩
      case measure => simp [intOf]; omega
    · obtain rfl : k = n := by omega
      go_wp2
      go_ret
      exact ⟨rfl, hb⟩
theorem apart_at : ∀ (l : List Fd) (e : Int), ApartF e l → ∀ i, i + 1 < l.length → (fdAt l i).t ≤ (fdAt l (i + 1)).f
  | [], _, _, i, h => by simp at h
  | [x], _, _, i, h => by simp at h
  | x :: y :: ys, e, hA, 0, _ => hA.2.1
  | x :: y :: ys, e, hA, i + 1, h => by
    have := apart_at (y :: ys) x.t hA.2 i (by simpa using h)
    exact this
set_option maxHeartbeats 1000000 in
theorem laws_apart (l : List Fd) (e : Int) (a : Option Addr) (n cap : Nat) (w : World) (hn : l.length = n) (hA : ApartF e l) (h : Ints w a (fdI l)) (hlen : n ≤ 1048577) :
    Calls Try.prog 17 #[.slice a n cap] w fun e w' => e = .returned (.bool true) ∧ Below w.heap.size w w' := by
  have HL := Lib.hid (show (fdI l).length = n * 3 by rw [fdI_length, hn])
  have HN := Lib.hid hn
  have HA := Lib.hid (apart_at l e hA)
  clear hn hA
  go_enter Try.func17, Try.ntmps17
  go_wp2
  go_loopw [3] (fun i wr => ∃ k : Nat, 1 ≤ k ∧ k ≤ n + 1 ∧ i = .int .i64 k ∧ Below w.heap.size w wr)
    (fun i _ => n + 1 - (intOf i).toNat)
  case atStart => exact ⟨1, by omega, by omega, rfl, Below.refl _ _⟩
  case round =>
    obtain ⟨k, hk0, hk, rfl, hb⟩ := hrel
    by_cases hlt : k < n
    · obtain ⟨p, rfl⟩ : ∃ p, k = p + 1 := ⟨k - 1, by omega⟩
      obtain ⟨b1, o1, rfl, hp⟩ := (h.kept hb).at ((p + 1) * 3) (by rw [HL.out]; omega)
      have c0 := hp ((p + 1) * 3) (by rw [HL.out]; omega)
      have c1 := hp (p * 3 + 1) (by rw [HL.out]; omega)
      obtain ⟨q0, _, _⟩ := fdI_at l (p + 1) (by rw [HN.out]; exact hlt)
      obtain ⟨_, r1, _⟩ := fdI_at l p (by rw [HN.out]; omega)
      rw [← Nat.add_assoc] at c1
      rw [q0] at c0; rw [r1] at c1
      have hap := HA.out p (by rw [HN.out]; exact hlt)
      generalize (fdAt l (p + 1)).f = f at *
      generalize (fdAt l p).t = t at *
      have e0 : decide (f < t) = false := by simp; omega
      have hw : IntKind.i64.wrap (((p + 1 : Nat) : Int) - 1) = (p : Int) := by rw [IntKind.wrap_i64]; omega
      have hw2 : (((p + 1 : Nat) : Int) - 1) = (p : Int) := by omega
      have hpn : p < n := by omega
      have hl1 := block_lt_of_cell c0
      clear h hp q0 r1 hap
      go_wp2_with fail
      go_quiet (fail)
      go_wp2
      go_roundw
      case rel => exact ⟨p + 1 + 1, by omega, by omega, by go_num, below_drewN hb _⟩
      case measure => simp [intOf]; omega
    · have e1 : decide ((k : Int) < (n : Int)) = false := by simp; omega
      have e2 : decide (k < n) = false := by simp; omega
      go_wp2
      go_ret
      exact ⟨rfl, hb⟩
end Go.Proofs.Ytpniiaemgobaiac

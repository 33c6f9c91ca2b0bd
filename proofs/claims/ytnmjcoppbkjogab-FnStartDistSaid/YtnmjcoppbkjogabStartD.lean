/-
  FnStartDist: the walk.
-/
import Derived.Test.YtnmjcoppbkjogabL19St
import Derived.Test.YtnmjcoppbkjogabL1Draw
namespace Go.Proofs.Ytnmjcoppbkjogab
open Go.RowKit
set_option linter.unusedVariables false
set_option maxRecDepth 100000
theorem startD_dist {s r : ByteArray} (hs : s.size ≤ 200) (hr : r.size ≤ 200) : startDI s r ≤ distI s r false ∧ 0 ≤ startDI s r ∧ startDI s r ≤ s.size := by
  rw [startDI_yes ⟨hs, hr⟩, distI_yes ⟨hs, hr⟩]
  have h := leastS_le s r (r.size + 1) r.size (by omega)
  have b := leastS_bnd s r (r.size + 1)
  exact ⟨h, b.1, b.2⟩
theorem startD_zero {s r : ByteArray} (hs : s.size ≤ 200) (hr : r.size ≤ 200) : startDI s r = 0 ↔ bl s = (bl r).take s.size := by
  rw [startDI_yes ⟨hs, hr⟩]
  have hc : ∀ j, j ≤ r.size → colAt s r 1 j s.size = (ed (bl s) ((bl r).take j) : Nat) := fun j hj => by
    rw [colAt_ed s r j s.size hj (Nat.le_refl _), List.take_of_length_le (l := bl s) (by rw [bl_len]; exact Nat.le_refl _)]
  have b := leastS_bnd s r (r.size + 1)
  constructor
  · intro h
    rcases leastS_is s r (r.size + 1) with e | ⟨j, hj, e⟩
    · rw [h] at e
      have h0 : s.size = 0 := by omega
      have : bl s = [] := List.eq_nil_of_length_eq_zero (by rw [bl_len]; exact h0)
      rw [this, h0]; rfl
    · rw [h, hc j (by omega)] at e
      have e2 := ed_zero _ _ (show ed (bl s) ((bl r).take j) = 0 by omega)
      have hl := congrArg List.length e2
      rw [bl_len, List.length_take, bl_len] at hl
      have : j = s.size := by omega
      rw [← this]; exact e2
  · intro h
    have hl := congrArg List.length h
    rw [bl_len, List.length_take, bl_len] at hl
    have h1 := leastS_le s r (r.size + 1) s.size (by omega)
    rw [hc s.size (by omega), ← h, ed_self] at h1
    omega
theorem colAt_begin (s r q : ByteArray) (rise : Int) : ∀ k i, k ≤ r.size → colAt s (r ++ q) rise k i = colAt s r rise k i := by
  intro k
  induction k with
  | zero => intro i _; rfl
  | succ k ih =>
    intro i hk
    have hb : byteAt (r ++ q) k = byteAt r k := by
      unfold byteAt
      have e : (r ++ q).data.toList = r.data.toList ++ q.data.toList := bl_append r q
      have hl : r.data.toList.length = r.size := bl_len r
      rw [e, List.getD_eq_getElem?_getD, List.getD_eq_getElem?_getD, List.getElem?_append_left (by omega)]
    have hf : colAt s (r ++ q) rise k = colAt s r rise k := funext fun j => ih j (by omega)
    simp only [colAt, hb, hf]
theorem startD_more {s r q : ByteArray} (hs : s.size ≤ 200) (hr : r.size + q.size ≤ 200) : startDI s (r ++ q) ≤ startDI s r := by
  have hz : (r ++ q).size = r.size + q.size := ByteArray.size_append
  rw [startDI_yes ⟨hs, by omega⟩, startDI_yes ⟨hs, by omega⟩]
  have h1 : ∀ k, k ≤ r.size + 1 → leastS s (r ++ q) k = leastS s r k := by
    intro k
    induction k with
    | zero => intro _; rfl
    | succ k ih => intro hk; simp only [leastS]; rw [ih (by omega), colAt_begin s r q 1 k s.size (by omega)]
  have h2 : ∀ m k, leastS s (r ++ q) (k + m) ≤ leastS s (r ++ q) k := by
    intro m
    induction m with
    | zero => intro k; exact Int.le_refl _
    | succ m ih =>
      intro k
      have := ih k
      rw [← Nat.add_assoc, leastS]
      split <;> omega
  have := h2 q.size (r.size + 1)
  rw [h1 _ (Nat.le_refl _)] at this
  rw [hz, show r.size + q.size + 1 = r.size + 1 + q.size by omega]
  exact this
/-- does r begin with s, as the law asks? -/
def beginsB (s r : ByteArray) : Bool := (r.extract 0 s.size).toList == s.toList
theorem begins_iff (s r : ByteArray) : beginsB s r = true ↔ bl s = (bl r).take s.size := by
  unfold beginsB
  rw [ByteArray.toList_eq, ByteArray.toList_eq, beq_iff_eq]
  show bl (r.extract 0 s.size) = bl s ↔ _
  rw [bl_extract, List.drop_zero]
  exact ⟨fun h => h.symm, fun h => h.symm⟩
theorem drawStartDist (a : Option Addr) (len cap : Nat) (z : List Int) (w : World) (hr : IsRow .u8 w a len cap z) (hl : len ≤ 1048576) :
    Calls Try.prog 49 #[.slice a len cap] w fun e w' => ∃ (s t : ByteArray), e = .returned (.tuple #[.string s, .string t]) ∧ s.size ≤ 30 ∧ t.size ≤ 30 ∧ Below w.heap.size w w' := by
  go_enter Try.func49, Try.ntmps49
  go_wp2_with fail
  refine (l1Open_any _ _ _ _ _ hr hl).mono ?_
  rintro e w1 ⟨rfl, hok, hb⟩
  go_wp2_with fail
  refine (rd_term _ _ _ _ _ _ hok 5 (by omega)).mono ?_
  rintro e w2 ⟨s, rfl, hs, hok2, hg2⟩
  go_wp2_with fail
  refine (rd_nearly _ _ _ _ _ _ hok2 s (by omega)).mono ?_
  rintro e w3 ⟨t, rfl, ht, hok3, hg3⟩
  go_wp2_with fail
  refine (rd_term _ _ _ _ _ _ hok3 4 (by omega)).mono ?_
  rintro e w4 ⟨u, rfl, hu, hok4, hg4⟩
  have hg := grownBy_trans hg2 (grownBy_trans hg3 hg4)
  go_wp2_with fail
  go_ret2
  exact ⟨_, _, rfl, by omega, by rw [ByteArray.size_append]; omega, below_rd hb hg⟩
set_option maxHeartbeats 4000000 in
theorem law_FnStartDist (a : Option Addr) (len cap : Nat) (z : List Int) (w : World) (hr : IsRow .u8 w a len cap z) :
    Calls Try.prog 14 #[.slice a len cap] w fun e w' => e = .returned (.bool true) ∧ Below w.heap.size w w' := by
  by_cases hl : len ≤ 1048576
  · have hbig : decide (1048576 < (len : Int)) = false := by simp; omega
    go_enter Try.func14, Try.ntmps14
    go_wp2_with (go_at_call 35; refine (laws_big _ _ _ _ (by omega)).mono ?_; rintro e w' ⟨rfl, rfl⟩)
    refine (drawStartDist _ _ _ _ _ hr hl).mono ?_
    rintro e w1 ⟨s, r, rfl, hs, hr, hb1⟩
    obtain ⟨k1, k2, k3⟩ := startD_dist (s := s) (r := r) (by omega) (by omega)
    have hz := startD_zero (s := s) (r := r) (by omega) (by omega)
    rw [← begins_iff] at hz
    have hmo := startD_more (s := s) (r := r) (q := ⟨#[97, 98]⟩) (by omega) (by show r.size + 2 ≤ 200; omega)
    have hq0 := (startD_dist (s := s) (r := r ++ ⟨#[97, 98]⟩) (by omega) (by rw [ByteArray.size_append]; show r.size + 2 ≤ 200; omega)).2.1
    have hqz : (r ++ ⟨#[97, 98]⟩ : ByteArray).size ≤ 1048576 := by rw [ByteArray.size_append]; show r.size + 2 ≤ _; omega
    obtain ⟨n, hn⟩ : ∃ n, startDI s r = n := ⟨_, rfl⟩
    obtain ⟨d, hd⟩ : ∃ d, distI s r false = d := ⟨_, rfl⟩
    obtain ⟨m, hm⟩ : ∃ m, startDI s (r ++ ⟨#[97, 98]⟩) = m := ⟨_, rfl⟩
    rw [hn] at k1 k2 k3 hz hmo
    rw [hd] at k1
    rw [hm] at hmo hq0
    have HN := Lib.hid hn; have HD := Lib.hid hd; have HM := Lib.hid hm; have HQZ := Lib.hid hqz
    have e0 : (n != n) = false := by simp
    have e1 : decide (n < 0) = false := by simpa using k2
    have e2 : decide (n ≤ d) = true := by simpa using k1
    have e3 : decide (n ≤ (s.size : Int)) = true := by simpa using k3
    have e4 : decide (m ≤ n) = true := by simpa using hmo
    clear hn hd hm hqz hq0
    go_wp2_with fail
    refine (impl_startDist s r _ (by omega) (by omega)).mono ?_
    rintro e w2 ⟨rfl, hb2⟩
    rw [HN.out]
    have hB2 := below_step hb1 hb2
    go_wp2_with fail
    refine (spec_startDist s r _ (by omega) (by omega)).mono ?_
    rintro e w3 ⟨rfl, hb3⟩
    rw [HN.out]
    have hB3 := below_step hB2 hb3
    clear hb1 hb2 hb3 hB2
    by_cases hle : s.size ≤ r.size
    · have hle1 : ¬ (r.size : Int) < (s.size : Int) := by omega
      have hle2 : (s.size : Int) ≤ (r.size : Int) := by omega
      obtain ⟨X, hX⟩ : ∃ X, r.extract 0 s.size = X := ⟨_, rfl⟩
      have hbg : (X.toList == s.toList) = (n == 0) := by
        rw [← hX]
        show beginsB s r = (n == 0)
        rw [Bool.eq_iff_iff, ← hz, beq_iff_eq]
      have HX := Lib.hid hX
      clear hX hz
      obtain ⟨b, hb⟩ : ∃ b, (n == 0) = b := ⟨_, rfl⟩
      rw [hb] at hbg
      have e5 : (b == b) = true := by simp
      go_wp2_with (fail)
      rw [HX.out]
      go_wp2_with fail
      refine (impl_distance s r false _ (by omega) (by omega)).mono ?_
      rintro e w4 ⟨rfl, hb4⟩
      rw [HD.out]
      have hB4 := below_step hB3 hb4
      go_wp2_with fail
      refine (impl_startDist s _ _ (by omega) HQZ.out).mono ?_
      rintro e w5 ⟨rfl, hb5⟩
      rw [HM.out]
      have hB5 := below_step hB4 hb5
      clear hb4 hb5 hB3 hB4
      go_wp2_with fail
      go_ret
      exact ⟨rfl, hB5⟩
    · have hle1 : (r.size : Int) < (s.size : Int) := by omega
      have hle2 : ¬ (s.size : Int) ≤ (r.size : Int) := by omega
      have hn0 : (n == 0) = false := by
        have hnb : ¬ beginsB s r = true := by
          rw [begins_iff]
          intro e
          have := congrArg List.length e
          rw [bl_len, List.length_take, bl_len] at this
          omega
        simp only [beq_eq_false_iff_ne, ne_eq]
        exact fun e => hnb (hz.1 e)
      clear hz
      go_wp2_with fail
      refine (impl_distance s r false _ (by omega) (by omega)).mono ?_
      rintro e w4 ⟨rfl, hb4⟩
      rw [HD.out]
      have hB4 := below_step hB3 hb4
      go_wp2_with fail
      refine (impl_startDist s _ _ (by omega) HQZ.out).mono ?_
      rintro e w5 ⟨rfl, hb5⟩
      rw [HM.out]
      have hB5 := below_step hB4 hb5
      clear hb4 hb5 hB3 hB4
      go_wp2_with fail
      go_ret
      exact ⟨rfl, hB5⟩
  · have hbig : decide (1048576 < (len : Int)) = true := by simp; omega
    go_enter Try.func14, Try.ntmps14
    go_wp2_with (go_at_call 35; go_in)
    go_ret
    exact ⟨rfl, Below.refl _ _⟩
end Go.Proofs.Ytnmjcoppbkjogab

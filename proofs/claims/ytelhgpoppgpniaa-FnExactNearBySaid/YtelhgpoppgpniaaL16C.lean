/-
  Chapter 16's model: how many pieces two texts have in common, and whether they may be near; the contracts.
-/
import Derived.Test.YtelhgpoppgpniaaL16G
import Derived.Test.YtelhgpoppgpniaaL3Ok
namespace Go.Proofs.Ytelhgpoppgpniaa
open Go.RowKit
set_option linter.unusedVariables false
set_option maxRecDepth 100000
def gramOk (s : ByteArray) (q : Int) : Bool := decide (1 ≤ q ∧ q ≤ 10 ∧ s.size ≤ 200)
theorem gramOk_iff {s : ByteArray} {q : Int} : gramOk s q = true ↔ (1 ≤ q ∧ q ≤ 10 ∧ s.size ≤ 200) := by simp [gramOk]
theorem gramOk_no {s : ByteArray} {q : Int} (h : ¬ (1 ≤ q ∧ q ≤ 10 ∧ s.size ≤ 200)) : gramOk s q = false := by simp only [gramOk, decide_eq_false_iff_not]; exact h
theorem spec_l16Ok (s : ByteArray) (q : Int) (w : World) (hs : s.size ≤ 1048576) :
    Calls Try.prog 72 #[.string s, .int .i64 q] w fun e w' => e = .returned (.bool (gramOk s q)) ∧ w = w' := by
  by_cases h1 : 1 ≤ q ∧ q ≤ 10
  · have HI := Lib.hid (inB_yes h1)
    by_cases h2 : s.size ≤ 200
    · have d1 : decide ((s.size : Int) ≤ 200) = true := by simp; omega
      have HF := Lib.hid (gramOk_iff.2 ⟨h1.1, h1.2, h2⟩)
      clear h1
      go_enter Try.func72, Try.ntmps72
      go_wp2_with (go_at_call 52; refine (spec_l1In _ _ _ _).mono ?_; rintro e w1 ⟨rfl, rfl⟩; rw [HI.out])
      go_ret
      exact ⟨by rw [HF.out]; rfl, rfl⟩
    · have d1 : decide ((s.size : Int) ≤ 200) = false := by simp; omega
      have HF := Lib.hid (gramOk_no (s := s) (q := q) (fun h => h2 h.2.2))
      clear h1
      go_enter Try.func72, Try.ntmps72
      go_wp2_with (go_at_call 52; refine (spec_l1In _ _ _ _).mono ?_; rintro e w1 ⟨rfl, rfl⟩; rw [HI.out])
      go_ret
      exact ⟨by rw [HF.out]; rfl, rfl⟩
  · have HI := Lib.hid (inB_no h1)
    have HF := Lib.hid (gramOk_no (s := s) (q := q) (fun h => h1 ⟨h.1, h.2.1⟩))
    clear h1
    go_enter Try.func72, Try.ntmps72
    go_wp2_with (go_at_call 52; refine (spec_l1In _ _ _ _).mono ?_; rintro e w1 ⟨rfl, rfl⟩; rw [HI.out])
    go_ret
    exact ⟨by rw [HF.out]; rfl, rfl⟩
theorem drop_getD (L : List (List UInt8)) (i : Nat) (h : i < L.length) : L.drop i = L.getD i [] :: L.drop (i + 1) := by
  rw [List.drop_eq_getElem_cons h]
  simp [List.getD_eq_getElem?_getD, h]
theorem comL_lt {A B : List (List UInt8)} {x y : List UInt8} (h : x < y) : comL (x :: A) (y :: B) = comL A (y :: B) := by rw [comL, if_pos h]
theorem comL_gt {A B : List (List UInt8)} {x y : List UInt8} (h : ¬ x < y) (h2 : y < x) : comL (x :: A) (y :: B) = comL (x :: A) B := by rw [comL, if_neg h, if_pos h2]
theorem comL_same {A B : List (List UInt8)} {x y : List UInt8} (h : ¬ x < y) (h2 : ¬ y < x) : comL (x :: A) (y :: B) = comL A B + 1 := by rw [comL, if_neg h, if_neg h2]
theorem comL_end (A B : List (List UInt8)) (i j : Nat) (h : ¬ (i < A.length ∧ j < B.length)) : comL (A.drop i) (B.drop j) = 0 := by
  by_cases h1 : i < A.length
  · rw [List.drop_of_length_le (l := B) (by omega), comL_nil']
  · rw [List.drop_of_length_le (l := A) (by omega), comL_nil]
set_option maxHeartbeats 4000000 in
theorem spec_l16Common (A B : List (List UInt8)) (a b : Option Addr) (n m cn cm : Nat) (w : World) (hA : Vals w a (strs A)) (hB : Vals w b (strs B)) (hn : A.length = n) (hm : B.length = m) (hn2 : n ≤ 1000) (hm2 : m ≤ 1000) :
    Calls Try.prog 77 #[.slice a n cn, .slice b m cm] w fun e w' => e = .returned (.int .i64 (comL A B : Nat)) ∧ Below w.heap.size w w' := by
  obtain ⟨v, hv⟩ : ∃ v, comL A B = v := ⟨_, rfl⟩
  have hv2 : v ≤ 1000 := by
    have : ∀ N X Y, X.length + Y.length ≤ N → comL X Y ≤ X.length := by
      intro N
      induction N with
      | zero => intro X Y h; rw [List.eq_nil_of_length_eq_zero (l := X) (by omega), comL_nil]; exact Nat.le_refl _
      | succ N ih =>
        intro X Y h
        match X, Y, h with
        | [], Y, _ => rw [comL_nil]; exact Nat.le_refl _
        | x :: X, [], _ => rw [comL_nil']; exact Nat.zero_le _
        | x :: X, y :: Y, h =>
          simp only [List.length_cons] at h
          by_cases h1 : x < y
          · rw [comL_lt h1]; have := ih X (y :: Y) (by simp only [List.length_cons]; omega); simp only [List.length_cons]; omega
          · by_cases h2 : y < x
            · rw [comL_gt h1 h2]; exact ih (x :: X) Y (by simp only [List.length_cons]; omega)
            · rw [comL_same h1 h2]; have := ih X Y (by omega); simp only [List.length_cons]; omega
    have := this _ A B (Nat.le_refl _)
    omega
  rw [hv]
  have HV := Lib.hid hv; have HNA := Lib.hid hn; have HMB := Lib.hid hm
  clear hv hn hm
  go_enter Try.func77, Try.ntmps77
  go_wp2
  go_loopw [5, 6, 7] (fun c x y wr => ∃ (k i j : Nat), c = .int .i64 (k : Int) ∧ x = .int .i64 (i : Int) ∧ y = .int .i64 (j : Int) ∧ i ≤ n ∧ j ≤ m ∧ k + comL (A.drop i) (B.drop j) = v ∧ Below w.heap.size w wr)
    (fun _ x y _ => n - (intOf x).toNat + (m - (intOf y).toNat))
  case atStart => exact ⟨0, 0, 0, rfl, rfl, rfl, by omega, by omega, by rw [List.drop_zero, List.drop_zero, HV.out]; omega, Below.refl _ _⟩
  case round =>
    obtain ⟨k, i, j, rfl, rfl, rfl, hi, hj, hk, hb⟩ := hrel
    have hkk : k ≤ 1000 := by omega
    by_cases hlt : i < n ∧ j < m
    · obtain ⟨hin, hjm⟩ := hlt
      have di := drop_getD A i (by rw [HNA.out]; exact hin)
      have dj := drop_getD B j (by rw [HMB.out]; exact hjm)
      obtain ⟨b0, off0, rfl, hp⟩ := (hA.kept hb).at i (by rw [strs_length, HNA.out]; exact hin)
      obtain ⟨b1, off1, rfl, hq⟩ := (hB.kept hb).at j (by rw [strs_length, HMB.out]; exact hjm)
      have c0 := hp i (by rw [strs_length, HNA.out]; exact hin)
      have c1 := hq j (by rw [strs_length, HMB.out]; exact hjm)
      rw [strs_at (by rw [HNA.out]; exact hin)] at c0
      rw [strs_at (by rw [HMB.out]; exact hjm)] at c1
      obtain ⟨x, hx⟩ : ∃ x, A.getD i [] = x := ⟨_, rfl⟩
      obtain ⟨y, hy⟩ : ∃ y, B.getD j [] = y := ⟨_, rfl⟩
      rw [hx] at c0 di
      rw [hy] at c1 dj
      obtain ⟨X, hX⟩ : ∃ X, txt x = X := ⟨_, rfl⟩
      obtain ⟨Y, hY⟩ : ∃ Y, txt y = Y := ⟨_, rfl⟩
      have bX : bl X = x := by rw [← hX, bl_txt]
      have bY : bl Y = y := by rw [← hY, bl_txt]
      rw [hX] at c0
      rw [hY] at c1
      have sl := strLt X Y
      have se := strEq X Y
      rw [bX, bY] at sl se
      rw [di, dj] at hk
      have DI := Lib.hid di; have DJ := Lib.hid dj
      clear hX hY bX bY hx hy hp hq di dj hA hB
      by_cases h1 : x < y
      · have e1 : Op.bytesLess X.toList Y.toList = true := by rw [sl]; exact decide_eq_true h1
        rw [comL_lt h1] at hk
        have HK := Lib.hid hk
        clear sl se hk h1
        go_wp2_with fail
        go_quiet (fail)
        go_wp2
        go_roundw
        case rel => exact ⟨k, i + 1, j, rfl, by go_num, rfl, by omega, by omega, by rw [DJ.out]; exact HK.out, below_drewN hb _⟩
        case measure => simp [intOf]; omega
      · have e1 : Op.bytesLess X.toList Y.toList = false := by rw [sl]; exact decide_eq_false h1
        by_cases h2 : y < x
        · have e2 : (X.toList == Y.toList) = false := by rw [se]; exact decide_eq_false (fun e => bl_irrefl y (by rw [e] at h2; exact h2))
          rw [comL_gt h1 h2] at hk
          have HK := Lib.hid hk
          clear sl se hk h1 h2
          go_wp2_with fail
          go_quiet (fail)
          go_wp2
          go_quiet (fail)
          go_wp2
          go_roundw
          case rel => exact ⟨k, i, j + 1, rfl, rfl, by go_num, by omega, by omega, by rw [DI.out]; exact HK.out, below_drewN hb _⟩
          case measure => simp [intOf]; omega
        · have e2 : (X.toList == Y.toList) = true := by rw [se]; exact decide_eq_true (bl_tri h1 h2)
          rw [comL_same h1 h2] at hk
          have HK := Lib.hid hk
          clear sl se hk h1 h2
          go_wp2_with fail
          go_quiet (fail)
          go_wp2
          go_quiet (fail)
          go_wp2
          go_roundw
          case rel => exact ⟨k + 1, i + 1, j + 1, by go_num, by go_num, by go_num, by omega, by omega, by have := HK.out; omega, below_drewN hb _⟩
          case measure => simp [intOf]; omega
    · rw [comL_end A B i j (by rw [HNA.out, HMB.out]; exact hlt)] at hk
      have HK := Lib.hid (show k = v by omega)
      by_cases h1 : i < n
      · have h2 : ¬ j < m := fun h => hlt ⟨h1, h⟩
        clear hk hlt
        go_wp2
        go_ret
        exact ⟨by rw [← HK.out]; rfl, hb⟩
      · clear hk hlt
        go_wp2
        go_ret
        exact ⟨by rw [← HK.out]; rfl, hb⟩
set_option maxHeartbeats 2000000 in
theorem spec_common_yes (s t : ByteArray) (q : Nat) (w : World) (hs : s.size ≤ 200) (ht : t.size ≤ 200) (hq1 : 1 ≤ q) (hq2 : q ≤ 10) :
    Calls Try.prog 39 #[.string s, .string t, .int .i64 (q : Int)] w fun e w' => e = .returned (.int .i64 (comN q s t : Nat)) ∧ Below w.heap.size w w' := by
  have G1 := Lib.hid (gramOk_iff (s := s) (q := q).2 ⟨by omega, by omega, hs⟩)
  have G2 := Lib.hid (gramOk_iff (s := t) (q := q).2 ⟨by omega, by omega, ht⟩)
  have HC := Lib.hid (comL_gramsS hq1 s t)
  go_enter Try.func39, Try.ntmps39
  go_wp2_with (go_at_call 72; first | (with_reducible refine (spec_l16Ok s _ _ (by omega)).mono ?_; rintro e w1 ⟨rfl, rfl⟩; rw [G1.out]) | (with_reducible refine (spec_l16Ok t _ _ (by omega)).mono ?_; rintro e w1 ⟨rfl, rfl⟩; rw [G2.out]))
  refine (spec_l16Grams s q _ hs hq1 hq2).mono ?_
  rintro e w2 ⟨a, ca, rfl, hO1, hb1⟩
  go_wp2_with fail
  refine (spec_l16Grams t q _ ht hq1 hq2).mono ?_
  rintro e w3 ⟨b, cb, rfl, hO2, hb2⟩
  have hB := below_step hb1 hb2
  go_wp2_with fail
  refine (spec_l16Common (gramsS q s) (gramsS q t) _ _ _ _ _ _ _ (hO1.kept hb2).vals hO2.vals (gramsS_length q s) (gramsS_length q t) (by omega) (by omega)).mono ?_
  rintro e w4 ⟨rfl, hb3⟩
  rw [HC.out]
  have hB2 := below_step hB hb3
  clear hb1 hb2 hb3 hO1 hO2 hB
  go_wp2
  go_ret
  exact ⟨rfl, hB2⟩
theorem comI_no (s t : ByteArray) (q : Int) (h : ¬ (gramOk s q = true ∧ gramOk t q = true)) : gramOk s q = false ∨ gramOk s q = true ∧ gramOk t q = false := by
  cases h1 : gramOk s q
  · exact .inl rfl
  · cases h2 : gramOk t q
    · exact .inr ⟨rfl, rfl⟩
    · exact absurd ⟨h1, h2⟩ h
def comI (s t : ByteArray) (q : Int) : Int := if gramOk s q = true ∧ gramOk t q = true then (comN q.toNat s t : Nat) else -1
theorem comI_yes {s t : ByteArray} {q : Nat} (h1 : gramOk s q = true) (h2 : gramOk t q = true) : comI s t (q : Int) = (comN q s t : Nat) := by
  unfold comI; rw [if_pos ⟨h1, h2⟩]; rfl
theorem comI_else {s t : ByteArray} {q : Int} (h : ¬ (gramOk s q = true ∧ gramOk t q = true)) : comI s t q = -1 := if_neg h
set_option maxHeartbeats 2000000 in
theorem spec_common (s t : ByteArray) (q : Int) (w : World) (hs : s.size ≤ 1048576) (ht : t.size ≤ 1048576) :
    Calls Try.prog 39 #[.string s, .string t, .int .i64 q] w fun e w' => e = .returned (.int .i64 (comI s t q)) ∧ Below w.heap.size w w' := by
  by_cases h : gramOk s q = true ∧ gramOk t q = true
  · obtain ⟨h1, h2⟩ := h
    obtain ⟨a1, a2, a3⟩ := gramOk_iff.1 h1
    obtain ⟨_, _, a4⟩ := gramOk_iff.1 h2
    obtain ⟨k, rfl⟩ : ∃ k : Nat, q = (k : Int) := ⟨q.toNat, by omega⟩
    rw [comI_yes h1 h2]
    exact spec_common_yes s t k w a3 a4 (by omega) (by omega)
  · rw [comI_else h]
    rcases comI_no s t q h with h1 | ⟨h1, h2⟩
    · have G1 := Lib.hid h1
      clear h h1
      go_enter Try.func39, Try.ntmps39
      go_wp2_with (go_at_call 72; refine (spec_l16Ok s _ _ (by omega)).mono ?_; rintro e w1 ⟨rfl, rfl⟩; rw [G1.out])
      go_ret
      exact ⟨rfl, Below.refl _ _⟩
    · have G1 := Lib.hid h1; have G2 := Lib.hid h2
      clear h h1 h2
      go_enter Try.func39, Try.ntmps39
      go_wp2_with fail
      refine (spec_l16Ok s _ _ (by omega)).mono ?_
      rintro e w1 ⟨rfl, rfl⟩
      rw [G1.out]
      go_wp2_with fail
      refine (spec_l16Ok t _ _ (by omega)).mono ?_
      rintro e w1 ⟨rfl, rfl⟩
      rw [G2.out]
      go_wp2
      go_ret
      exact ⟨rfl, Below.refl _ _⟩
end Go.Proofs.Ytelhgpoppgpniaa

/-
  Chapter 19: the words of a text, yielded one by one (the iterator's contract), and collected.
-/
import Derived.Test.YtgikjopmijomgabRange2
import Derived.Test.YtgikjopmijomgabL19P
import Derived.Test.YtgikjopmijomgabL1Mask
import Derived.Test.YtgikjopmijomgabStructs
import Derived.Maps.OwnIn
import Derived.BigGuardPartIn
namespace Go.Proofs.Ytgikjopmijomgab
open Go Go.RowKit Go.Shelf
set_option linter.unusedVariables false
set_option maxRecDepth 100000
attribute [local go_sem] Oper.semAt_some
theorem impl_isOfWord (b : Int) (w : World) (h0 : 0 ≤ b) (h1 : b ≤ 255) :
    Calls Try.prog 50 #[.int .u8 b] w fun e w' => e = .returned (.bool (letB b)) ∧ w = w' := by
  by_cases a1 : 65 ≤ b <;> by_cases a2 : b ≤ 90 <;> by_cases a3 : 97 ≤ b <;> by_cases a4 : b ≤ 122 <;> by_cases a5 : 48 ≤ b <;> by_cases a6 : b ≤ 57 <;> first
    | (exfalso; omega)
    | (have H : Hid (letB b = true) := decide_eq_true (by omega)
       go_enter Try.func50, Try.ntmps50
       go_wp2
       go_ret
       exact ⟨by rw [H.out]; rfl, rfl⟩)
    | (have H : Hid (letB b = false) := decide_eq_false (by omega)
       go_enter Try.func50, Try.ntmps50
       go_wp2
       go_ret
       exact ⟨by rw [H.out]; rfl, rfl⟩)
theorem letAt_in (r : ByteArray) (k : Nat) (h : k < r.size) : letAt r k = letB (r[k].toNat : Int) := by unfold letAt; rw [byteAt_eq r k h]
theorem letAt_out (r : ByteArray) (k : Nat) (h : r.size ≤ k) : letAt r k = false := by
  unfold letAt byteAt
  have hl : r.data.toList.length = r.size := Array.length_toList
  rw [List.getD_eq_getElem?_getD, List.getElem?_eq_none (by omega)]; rfl
theorem wDone_end (r : ByteArray) : wDone r (r.size + 1) = wordsL r := by
  rw [wDone, letAt_out r r.size (Nat.le_refl _)]; rfl
/-- spans as numbers -/
def spL : List (Nat × Nat) → List Int
  | [] => []
  | x :: W => (x.1 : Int) :: (x.2 : Int) :: spL W
theorem spL_append (A B : List (Nat × Nat)) : spL (A ++ B) = spL A ++ spL B := by
  induction A with
  | nil => rfl
  | cons x A ih => rw [List.cons_append, spL, spL, ih]; rfl
theorem spL_length (A : List (Nat × Nat)) : (spL A).length = A.length * 2 := by
  induction A with
  | nil => rfl
  | cons x A ih => rw [spL, List.length_cons, List.length_cons, ih, List.length_cons]; omega
theorem spL_at (A : List (Nat × Nat)) : ∀ i, i < A.length → intAt (spL A) (i * 2) = ((A.getD i (0, 0)).1 : Int) ∧ intAt (spL A) (i * 2 + 1) = ((A.getD i (0, 0)).2 : Int) := by
  induction A with
  | nil => intro i h; simp at h
  | cons x A ih =>
    intro i h
    cases i with
    | zero => exact ⟨rfl, rfl⟩
    | succ i =>
      obtain ⟨h1, h2⟩ := ih i (by simpa using h)
      have e : ∀ j, intAt (spL (x :: A)) (j + 2) = intAt (spL A) j := fun j => by simp [intAt, spL]
      rw [show (i + 1) * 2 = i * 2 + 2 by omega, show i * 2 + 2 + 1 = i * 2 + 1 + 2 by omega, e, e, h1, h2]
      exact ⟨by simp, by simp⟩
def encW (x : Nat × Nat) : Array Value := #[.agg #[.int .i64 (x.1 : Int), .int .i64 (x.2 : Int)]]
def HandW (r : ByteArray) (k : Nat) (x : Nat × Nat) (W : World) : Prop := (wordsL r)[k]? = some x
abbrev boxW (b : Nat) : Value := .pointer (some ⟨b, 0, none⟩)
set_option maxHeartbeats 4000000 in
/-- THE ITERATOR: it hands out each word in turn. -/
theorem words_iter (r : ByteArray) (bt : Nat) (n : Nat) (T0 : Nat → Prop) (w : World) (hr : r.size ≤ 200) (ct : w.cell? ⟨bt, 0, none⟩ = some (.string r)) (nt : ¬ T0 bt) :
    Iter Fence.wide n Try.prog 49 #[boxW bt] encW (HandW r) (wordsL r).length T0 w := by
  intro l W K hW hK hY ⟨T, hk0, hT⟩
  have bt1 := block_lt_of_cell ct
  simp only at bt1
  have hWs := hW.size
  have ct := (hW.cell (p := ⟨bt, 0, none⟩) trivial bt1).trans ct
  clear hW
  refine callsIn_of_wp Try.func49 rfl trivial ?_ rfl
  simp only [Try.ntmps49, List.size_toArray, List.length_cons, List.length_nil, Nat.reduceAdd, Nat.reduceSub, Array.replicate_succ, Array.replicate_zero, List.push_toArray, List.append_toArray, List.nil_append, List.cons_append]
  have HT := Lib.hid hT
  clear hT
  gi_wp2
  gi_loopw [3, 8] (fun v i wr => ∃ (k : Nat) (T : Nat → Prop), k ≤ r.size + 1 ∧ i = .int .i64 k ∧ v = .int .i64 (wFrom r k : Nat) ∧ K (wDone r k).length T wr ∧ (∀ b, T b → (T0 b ∨ w.heap.size ≤ b) ∧ b < wr.heap.size) ∧ wr.cell? ⟨bt, 0, none⟩ = some (.string r) ∧ w.heap.size ≤ wr.heap.size)
    (fun _ i _ => r.size + 1 - (intOf i).toNat)
  case atStart => exact ⟨0, T, by omega, rfl, rfl, hk0, HT.out, ct, hWs⟩
  case round =>
    obtain ⟨k, T, hk, rfl, rfl, hKk, hT, ct, hsz⟩ := hrel
    have nTt : ¬ T bt := fun t => (hT bt t).1.elim nt (by omega)
    have hfl := wFrom_le r k
    by_cases hlt : k < r.size + 1
    · have HTT := Lib.hid hT
      have HKK := Lib.hid hKk
      have kw : IntKind.i64.wrap ((k : Int) + 1) = (k : Int) + 1 := by rw [IntKind.wrap_i64]; omega
      clear hT hk0 HT
      by_cases hlet : letAt r k = true
      · have hin : k < r.size := by
          rcases Nat.lt_or_ge k r.size with h | h
          · exact h
          · rw [letAt_out r k h] at hlet; cases hlet
        have HF : Hid (wFrom r (k + 1) = wFrom r k) := by show _ = _; rw [wFrom, hlet]; simp
        have HD : Hid (wDone r (k + 1) = wDone r k) := by show _ = _; rw [wDone, hlet]; simp
        have hLB := letAt_in r k hin
        rw [hlet] at hLB
        have HLB := Lib.hid hLB.symm
        have hca := r[k].toNat_lt
        clear hY hlet hLB hKk
        gi_wp2
        refine ⟨trivial, fun h => (Bool.false_ne_true h).elim, ?_⟩
        refine (callsIn_wide.2 (impl_isOfWord _ _ (by omega) (by omega))).mono ?_
        rintro e w1 ⟨rfl, rfl⟩
        rw [HLB.out]
        gi_wp2
        go_roundw
        case rel => exact ⟨k + 1, T, by omega, by go_num, by rw [HF.out], by rw [HD.out]; exact HKK.out, HTT.out, ct, hsz⟩
        case measure => simp [intOf]; omega
      · have hlet : letAt r k = false := by simpa using hlet
        have HF : Hid (wFrom r (k + 1) = k + 1) := by show _ = _; rw [wFrom, hlet]; simp
        by_cases hfk : wFrom r k < k
        · have HD : Hid ((wDone r (k + 1)).length = (wDone r k).length + 1) := by show _ = _; rw [wDone, hlet]; simp [hfk]
          obtain ⟨S, hS⟩ := w_hand (r := r) (k := k) (by omega) hfk (.inr hlet)
          have hlen : (wDone r k).length < (wordsL r).length := by rw [hS]; simp
          have hx : HandW r (wDone r k).length (wFrom r k, k) wr := by
            show (wordsL r)[(wDone r k).length]? = some (wFrom r k, k)
            rw [hS]; simp
          obtain ⟨fn, tmps, assign, body, hy, hR⟩ := hY _ T (wFrom r k, k) wr hlen hKk hx
          dsimp only [encW] at hy
          have hfk2 : ((wFrom r k : Nat) : Int) < (k : Int) := by omega
          generalize wFrom r k = fr at *
          clear hS hlen hx hY hKk
          by_cases hin : k < r.size
          · have hLB := letAt_in r k hin
            rw [hlet] at hLB
            have HLB := Lib.hid hLB.symm
            have hca := r[k].toNat_lt
            clear hlet hLB
            gi_wp2
            refine ⟨trivial, fun h => (Bool.false_ne_true h).elim, ?_⟩
            refine (callsIn_wide.2 (impl_isOfWord _ _ (by omega) (by omega))).mono ?_
            rintro e w1 ⟨rfl, rfl⟩
            rw [HLB.out]
            gi_wp2
            refine ⟨fun h => (Bool.false_ne_true h).elim, hR.mono ?_⟩
            rintro e W3 ⟨rfl, T', hK3, hOn, hT3⟩
            have ct3 := (hOn.cell (p := ⟨bt, 0, none⟩) nTt (by show bt < _; omega)).trans ct
            have hs3 := hOn.size
            have HT3 := Lib.hid hT3
            clear hT3 hOn hR hy
            gi_wp2
            go_roundw
            case rel => exact ⟨k + 1, T', by omega, by go_num, by rw [HF.out]; go_num, by rw [HD.out]; exact hK3, fun b t => ⟨(HT3.out b t).1.elim (HTT.out b · |>.1) (fun h => .inr (by omega)), (HT3.out b t).2⟩, ct3, by omega⟩
            case measure => simp [intOf]; omega
          · have hnk : ¬ (k : Int) < (r.size : Int) := by omega
            have hnk1 : decide ((k : Int) < (r.size : Int)) = false := decide_eq_false hnk
            have hnk2 : decide (k < r.size) = false := decide_eq_false hin
            clear hlet
            gi_wp2
            refine ⟨trivial, ?_⟩
            gi_wp2
            refine ⟨fun h => (Bool.false_ne_true h).elim, hR.mono ?_⟩
            rintro e W3 ⟨rfl, T', hK3, hOn, hT3⟩
            have ct3 := (hOn.cell (p := ⟨bt, 0, none⟩) nTt (by show bt < _; omega)).trans ct
            have hs3 := hOn.size
            have HT3 := Lib.hid hT3
            clear hT3 hOn hR hy
            gi_wp2
            go_roundw
            case rel => exact ⟨k + 1, T', by omega, by go_num, by rw [HF.out]; go_num, by rw [HD.out]; exact hK3, fun b t => ⟨(HT3.out b t).1.elim (HTT.out b · |>.1) (fun h => .inr (by omega)), (HT3.out b t).2⟩, ct3, by omega⟩
            case measure => simp [intOf]; omega
        · have HD : Hid (wDone r (k + 1) = wDone r k) := by show _ = _; rw [wDone, hlet]; simp [hfk]
          have hnf : ¬ ((wFrom r k : Nat) : Int) < (k : Int) := by omega
          have hnf1 : decide (((wFrom r k : Nat) : Int) < (k : Int)) = false := decide_eq_false hnf
          have hnf2 : decide (wFrom r k < k) = false := decide_eq_false hfk
          generalize wFrom r k = fr at *
          clear hY hKk hfk hfl
          by_cases hin : k < r.size
          · have hLB := letAt_in r k hin
            rw [hlet] at hLB
            have HLB := Lib.hid hLB.symm
            have hca := r[k].toNat_lt
            clear hlet hLB
            gi_wp2
            refine ⟨trivial, fun h => (Bool.false_ne_true h).elim, ?_⟩
            refine (callsIn_wide.2 (impl_isOfWord _ _ (by omega) (by omega))).mono ?_
            rintro e w1 ⟨rfl, rfl⟩
            rw [HLB.out]
            gi_wp2
            refine ⟨fun f h => (by cases h), ?_⟩
            gi_wp2
            go_roundw
            case rel => exact ⟨k + 1, T, by omega, by go_num, by rw [HF.out]; go_num, by rw [HD.out]; exact HKK.out, HTT.out, ct, hsz⟩
            case measure => simp [intOf]; omega
          · have hnk : ¬ (k : Int) < (r.size : Int) := by omega
            have hnk1 : decide ((k : Int) < (r.size : Int)) = false := decide_eq_false hnk
            have hnk2 : decide (k < r.size) = false := decide_eq_false hin
            clear hlet
            gi_wp2
            refine ⟨trivial, ?_⟩
            gi_wp2
            refine ⟨fun f h => (by cases h), ?_⟩
            gi_wp2
            go_roundw
            case rel => exact ⟨k + 1, T, by omega, by go_num, by rw [HF.out]; go_num, by rw [HD.out]; exact HKK.out, HTT.out, ct, hsz⟩
            case measure => simp [intOf]; omega
    · obtain rfl : k = r.size + 1 := by omega
      rw [wDone_end] at hKk
      clear hT hk0 HT hY
      gi_wp2
      go_end0
      exact ⟨⟨_, rfl⟩, _, hKk⟩
end Go.Proofs.Ytgikjopmijomgab

/-
  Chapter 7, the program: readTrie.
-/
import Derived.Test.YtodmohepgmhipaaTrieFail
import Derived.Test.YtodmohepgmhipaaL7RightS
import Derived.Deep.AppendLies
import Derived.Deep.RegionLaw
namespace Go.Proofs.Ytodmohepgmhipaa
open Go.RowKit
set_option linter.unusedVariables false
set_option maxRecDepth 100000
theorem implT_isByte (x : Int) (w : World) : Calls Try.prog 57 #[.int .i64 x] w fun e w' => e = .returned (.bool (inB x 0 255)) ∧ w = w' := by
  by_cases h1 : 0 ≤ x
  · by_cases h2 : x ≤ 255
    · have H := Lib.hid (inB_yes ⟨h1, h2⟩)
      go_enter Try.func57, Try.ntmps57
      go_wp2
      go_ret
      exact ⟨by rw [H.out]; rfl, rfl⟩
    · have H := Lib.hid (inB_no (n := x) (lo := 0) (hi := 255) (by omega))
      go_enter Try.func57, Try.ntmps57
      go_wp2
      go_ret
      exact ⟨by rw [H.out]; rfl, rfl⟩
  · have H := Lib.hid (inB_no (n := x) (lo := 0) (hi := 255) (by omega))
    go_enter Try.func57, Try.ntmps57
    go_wp2
    go_ret
    exact ⟨by rw [H.out]; rfl, rfl⟩
def GoodAt (L : List Nd) (j : Nat) : Prop := (0 ≤ (ndAt L j).p ∧ (ndAt L j).p ≤ (j : Int) - 1) ∧ 0 ≤ (ndAt L j).b ∧ (ndAt L j).b ≤ 255
theorem good_from (L : List Nd) : ∀ (d j : Nat), j + d = L.length → 1 ≤ j → WellTo L j → ∃ m, 1 ≤ m ∧ m ≤ L.length ∧ WellTo L m ∧ (m = L.length ∨ (m < L.length ∧ ¬ GoodAt L m)) := by
  intro d
  induction d with
  | zero => intro j hj h1 hW; exact ⟨j, h1, by omega, hW, .inl (by omega)⟩
  | succ d ih =>
    intro j hj h1 hW
    by_cases hg : GoodAt L j
    · exact ih (j + 1) (by omega) (by omega) fun i h0 hi => by
        by_cases e : i = j
        · rw [e]; exact hg
        · exact hW i h0 (by omega)
    · exact ⟨j, h1, by omega, hW, .inr ⟨by omega, hg⟩⟩
theorem ndAt_take (L : List Nd) (m i : Nat) (h : i < m) : ndAt (L.take m) i = ndAt L i := by
  simp only [ndAt, List.getD_eq_getElem?_getD, List.getElem?_take, if_pos h]
/-- the longest beginning of a list that can be made -/
theorem good_prefix (L : List Nd) (h : 1 ≤ L.length) : ∃ M : List Nd, 1 ≤ M.length ∧ M.length ≤ L.length ∧ WellP M ∧ (∀ i, i < M.length → ndAt M i = ndAt L i) ∧ (M = L ∨ (M.length < L.length ∧ ¬ GoodAt L M.length)) := by
  obtain ⟨m, h1, h2, hW, he⟩ := good_from L (L.length - 1) 1 (by omega) (Nat.le_refl _) (fun i h0 hi => by omega)
  have hl : (L.take m).length = m := by rw [List.length_take]; omega
  refine ⟨L.take m, by omega, by omega, fun i h0 hi => ?_, fun i hi => ndAt_take L m i (by omega), ?_⟩
  · rw [ndAt_take L m i (by omega)]; exact hW i h0 (by omega)
  · rcases he with he | ⟨he, hg⟩
    · left; rw [he]; exact List.take_length
    · right; rw [hl]; exact ⟨he, hg⟩
theorem TM.tn {w : World} {B : Nat} {L : List Nd} {n : Nat} {A T : Nat → Nat} {F : Nat → Value} {ka : Nat → Option Addr} {kc : Nat → Nat} (h : TM w B L n A T F ka kc) (i : Nat) (hi : i < n) : TN w A i (letA L i) (deepN L i) (parV L A i) (F i) (KQ L n i) :=
  ⟨ka i, kc i, h.blk i hi, (h.own i hi).vals⟩
theorem TM.kin {w : World} {B : Nat} {L : List Nd} {n : Nat} {A T : Nat → Nat} {F : Nat → Value} {ka : Nat → Option Addr} {kc : Nat → Nat} (h : TM w B L n A T F ka kc) (i : Nat) (hi : i < n) : Kin w A (KQ L n i) :=
  fun k hk => by
    obtain ⟨h1, h2⟩ := KQ_in hi hk
    exact ⟨h1, _, _, _, _, _, h.tn _ h2⟩
end Go.Proofs.Ytodmohepgmhipaa

/-
  Chapter 16: GramsOf, in the program and in its model; FnExactGramsOf: the walk.
-/
import Derived.Test.YtelhgpoppgpniabL16O
import Derived.Test.YtelhgpoppgpniabL16P
import Derived.Test.YtelhgpoppgpniabStrLaw
import Derived.Test.YtelhgpoppgpniabClone
namespace Go.Proofs.Ytelhgpoppgpniab
open Go.RowKit
set_option linter.unusedVariables false
set_option maxRecDepth 100000
def gramsV (s : ByteArray) (q : Int) : List (List UInt8) := if gramOk s q = true then gramsS q.toNat s else []
theorem gramsV_yes {s : ByteArray} {q : Nat} (h : gramOk s (q : Int) = true) : gramsV s (q : Int) = gramsS q s := by unfold gramsV; rw [if_pos h]; rfl
theorem gramsV_no {s : ByteArray} {q : Int} (h : ¬ gramOk s q = true) : gramsV s q = [] := if_neg h
theorem gramsV_len (s : ByteArray) (q : Int) : (gramsV s q).length ≤ 201 := by
  by_cases h : gramOk s q = true
  · obtain ⟨h1, h2, h3⟩ := gramOk_iff.1 h
    obtain ⟨n, rfl⟩ : ∃ n : Nat, q = (n : Int) := ⟨q.toNat, by omega⟩
    rw [gramsV_yes h, gramsS_length]; omega
  · rw [gramsV_no h]; simp
set_option maxHeartbeats 2000000 in
theorem spec_gramsOf (s : ByteArray) (q : Int) (w : World) (hs : s.size ≤ 1048576) :
    Calls Try.prog 38 #[.string s, .int .i64 q] w fun e w' => ∃ a cap, e = .returned (.slice a (gramsV s q).length cap) ∧ OwnV 9 1 w' w.heap.size a (gramsV s q).length cap (strs (gramsV s q)) ∧ Below w.heap.size w w' := by
  by_cases h : gramOk s q = true
  · obtain ⟨h1, h2, h3⟩ := gramOk_iff.1 h
    obtain ⟨n, rfl⟩ : ∃ n : Nat, q = (n : Int) := ⟨q.toNat, by omega⟩
    rw [gramsV_yes h]
    have HG := Lib.hid h
    have HL := Lib.hid (gramsS_length n s)
    clear h
    go_enter Try.func38, Try.ntmps38
    go_wp2_with (go_at_call 84; refine (spec_l16Ok s _ _ hs).mono ?_; rintro e w1 ⟨rfl, rfl⟩; rw [HG.out])
    refine (spec_l16Grams s n _ h3 (by omega) (by omega)).mono ?_
    rintro e w2 ⟨a, cap, rfl, hO, hb⟩
    rw [← HL.out] at hO ⊢
    go_wp2
    go_ret
    exact ⟨_, _, rfl, hO, hb⟩
  · rw [gramsV_no h]
    have HG := Lib.hid (show gramOk s q = false by simpa using h)
    have hO0 : OwnV 9 1 (w.alloc (.cells #[] 9)) w.heap.size (some ⟨w.heap.size, 0, none⟩) 0 0 [] :=
      ⟨rfl, World.ownsRow_made w #[] 0 (Nat.le_refl _) (by decide) rfl⟩
    have HO0 := Lib.hid hO0
    clear h hO0
    go_enter Try.func38, Try.ntmps38
    go_wp2_with (go_at_call 84; refine (spec_l16Ok s _ _ hs).mono ?_; rintro e w1 ⟨rfl, rfl⟩; rw [HG.out])
    go_ret
    exact ⟨_, _, rfl, HO0.out, (Below.refl _ _).alloc (Nat.le_refl _) _⟩
set_option maxHeartbeats 2000000 in
theorem impl_gramsOf (s : ByteArray) (q : Int) (w : World) (hs : s.size ≤ 1048576) :
    Calls Try.prog 35 #[.string s, .int .i64 q] w fun e w' => ∃ a cap, e = .returned (.slice a (gramsV s q).length cap) ∧ OwnV 9 1 w' w.heap.size a (gramsV s q).length cap (strs (gramsV s q)) ∧ Below w.heap.size w w' := by
  by_cases h : gramOk s q = true
  · obtain ⟨h1, h2, h3⟩ := gramOk_iff.1 h
    obtain ⟨n, rfl⟩ : ∃ n : Nat, q = (n : Int) := ⟨q.toNat, by omega⟩
    rw [gramsV_yes h]
    have HG := Lib.hid h
    have hl := gramsS_length n s
    have hl2 : (gramsL n (bl s)).length ≤ 10000 := by rw [gramsL_len (by omega), bl_len]; omega
    have HU := Lib.hid (gramsS_up n s)
    have HCT := Lib.hid (gramsS_count (q := n) (by omega) s)
    have hLl : (gramsS n s).length ≤ 10000 := by omega
    obtain ⟨L, hL⟩ : ∃ L, gramsS n s = L := ⟨_, rfl⟩
    rw [hL] at hLl HU HCT ⊢
    clear h hL hl
    go_enter Try.func35, Try.ntmps35
    go_wp2_with (go_at_call 80; refine (impl_gramsOk s _ _ hs).mono ?_; rintro e w1 ⟨rfl, rfl⟩; rw [HG.out])
    refine (str_clone s _ hs).mono ?_
    rintro e w2 ⟨rfl, hb1⟩
    go_wp2_with fail
    refine (impl_gramsIn s n _ (by omega) (by omega) (by omega)).mono ?_
    rintro e w3 ⟨rfl, hB, hb2⟩
    obtain ⟨m, D, hm, hbag⟩ := hB
    have hB3 := below_step hb1 hb2
    go_wp2_with fail
    refine (impl_inOrder _ m D _ L _ hbag (by omega) hl2 HU.out HCT.out hLl).mono ?_
    rintro e w4 ⟨a, cap, rfl, hO, hb3⟩
    have HB := Lib.hid (below_step hB3 hb3)
    have HO := Lib.hid (hO.mono hB3.size)
    clear hb1 hb2 hb3 hO hB3 hbag
    go_wp2
    go_ret
    exact ⟨_, _, rfl, HO.out, HB.out⟩
  · rw [gramsV_no h]
    have HG := Lib.hid (show gramOk s q = false by simpa using h)
    clear h
    go_enter Try.func35, Try.ntmps35
    go_wp2_with (go_at_call 80; refine (impl_gramsOk s _ _ hs).mono ?_; rintro e w1 ⟨rfl, rfl⟩; rw [HG.out])
    go_ret
    exact ⟨none, 0, rfl, OwnV.nil _ _, Below.refl _ _⟩
end Go.Proofs.Ytelhgpoppgpniab

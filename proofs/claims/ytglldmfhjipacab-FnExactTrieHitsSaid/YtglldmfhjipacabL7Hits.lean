/-
  Chapter 7: contracts of TrieHits, in the program and in its model.
-/
import Derived.Test.YtglldmfhjipacabNodesMark
import Derived.Test.YtglldmfhjipacabL3Ok
import Derived.Laws.AppendOwnNone
namespace Go.Proofs.Ytglldmfhjipacab
open Go.RowKit
set_option linter.unusedVariables false
set_option maxRecDepth 100000
theorem OwnN.news {w : World} {B g n cap : Nat} {L : List Int} (h : OwnN w B (some ⟨g, 0, none⟩) n cap L) : ∀ j u, (L.map (Value.int .i64))[j]? = some u → (w.alloc (.cells #[] 2)).cell? ((⟨g, 0, none⟩ : Addr).add j) = some u := by
  intro j u hu
  have hj : j < L.length := by
    have := (List.getElem?_eq_some_iff.1 hu).1
    simpa using this
  rw [Addr.add_lit, Nat.zero_add, World.cell?_of_block (Below.heap_alloc w _ _ h.base.2), h.cell j (by rw [← h.len]; exact hj)]
  simp [hj] at hu
  rw [← hu]; simp [intAt, hj]
set_option maxHeartbeats 1000000 in
theorem own_l1Copy (L : List Int) (a : Option Addr) (n cap B : Nat) (w : World) (h : OwnN w B a n cap L) (hlen : n ≤ 1048577) :
    Calls Try.prog 35 #[.slice a n cap] w fun e w' => ∃ a' cap', e = .returned (.slice a' n cap') ∧ OwnN w' w.heap.size a' n cap' L ∧ Below w.heap.size w w' := by
  obtain ⟨i0, hi, ht0, ht1, ht2⟩ := info_parts int_info
  have HN := Lib.hid h.len
  rcases h.2.2 with ⟨hv, h0⟩ | ⟨g, c, cur, hv, _⟩
  · simp only [Value.slice.injEq] at hv
    obtain ⟨rfl, _, rfl⟩ := hv
    subst h0
    have hL : L = [] := List.eq_nil_of_length_eq_zero h.len
    subst hL
    clear h
    go_enter Try.func35, Try.ntmps35
    go_wp2_with (at_builtin; refine wpList_append_own_none rfl _ _ 24 rfl w.heap.size 2 i0 1 Try.underlying24 hi _ 0 [] rfl (World.ownsRow_made w #[] 0 (Nat.le_refl _) (by decide) rfl) rfl ?_)
    go_ret
    exact ⟨_, _, rfl, ⟨rfl, World.ownsRow_made w #[] 0 (Nat.le_refl _) (by decide) rfl⟩, (Below.refl _ w).alloc (Nat.le_refl _) _⟩
  · simp only [Value.slice.injEq] at hv
    obtain ⟨rfl, _, rfl⟩ := hv
    have hnews := h.news
    have hone := ints_oneCell .i64 L
    have hlen2 : (L.map (Value.int .i64)).length = n * 1 := by rw [List.length_map, HN.out, Nat.mul_one]
    have HL2 := Lib.hid hlen2; clear hlen2 h
    go_enter Try.func35, Try.ntmps35
    go_wp2_with (at_builtin; refine wpList_append_own _ rfl _ _ 24 rfl w.heap.size 2 i0 (.int .i64 0) 1 8 Try.underlying24 hi ht0 ht1 ht2 rfl (by decide) _ _ _ rfl (World.ownsRow_made w #[] 0 (Nat.le_refl _) (by decide) rfl) ⟨g, 0, none⟩ n cap (L.map (Value.int .i64)) rfl HL2.out hnews hone (by unfold maxLen; omega) (by omega) (by simp) ?_; intro v' w1 hown' hg _)
    have hown2 : w1.ownsRow w.heap.size 2 1 v' n (L.map (Value.int .i64)) := by simpa using hown'
    obtain ⟨a', cap', rfl, hO⟩ := OwnN.shape hown2
    go_wp2
    go_ret
    exact ⟨_, _, rfl, hO, ((Below.refl _ w).alloc (Nat.le_refl _) _).grown hg (by simp) (fun q hq => by cases hq; exact Nat.le_refl _)⟩
set_option maxHeartbeats 1000000 in
theorem own_clone (L : List Int) (a : Option Addr) (n cap B : Nat) (w : World) (h : OwnN w B a n cap L) (hlen : n ≤ 1048577) :
    Calls Try.prog 37 #[.slice a n cap] w fun e w' => ∃ a' cap', e = .returned (.slice a' n cap') ∧ OwnN w' w.heap.size a' n cap' L ∧ Below w.heap.size w w' := by
  obtain ⟨i0, hi, ht0, ht1, ht2⟩ := info_parts int_info
  have HN := Lib.hid h.len
  rcases h.2.2 with ⟨hv, h0⟩ | ⟨g, c, cur, hv, _⟩
  · simp only [Value.slice.injEq] at hv
    obtain ⟨rfl, _, rfl⟩ := hv
    subst h0
    have hL : L = [] := List.eq_nil_of_length_eq_zero h.len
    subst hL
    have EQ : ∀ W : World, (binOp BinOp.eql 24 (.slice none 0 0) (Value.slice none 0 0)).run Try.prog W = Result.ok (Value.bool true) W := fun W => rfl
    clear h
    go_enter Try.func37, Try.ntmps37
    go_wp2
    go_ret
    exact ⟨_, _, rfl, OwnN.nil _ _, (by repeat (first | exact Below.refl _ _ | assumption | (refine Below.drew ?_) | (refine below_drewN ?_ _) | (refine Below.alloc ?_ (by first | omega | (simp; done) | (simp; omega)) _) | (refine Below.setCell ?_ (by first | omega | (simp; done) | (simp; omega)) _)))⟩
  · simp only [Value.slice.injEq] at hv
    obtain ⟨rfl, _, rfl⟩ := hv
    have hnews := h.news
    have hone := ints_oneCell .i64 L
    have hlen2 : (L.map (Value.int .i64)).length = n * 1 := by rw [List.length_map, HN.out, Nat.mul_one]
    have HL2 := Lib.hid hlen2; clear hlen2 h
    have EQ : ∀ W : World, (binOp BinOp.eql 24 (.slice (some ⟨g, 0, none⟩) n cap) (Value.slice none 0 0)).run Try.prog W = Result.ok (Value.bool false) W := fun W => rfl
    go_enter Try.func37, Try.ntmps37
    go_wp2_with (at_builtin; refine wpList_append_own _ rfl _ _ 24 rfl w.heap.size 2 i0 (.int .i64 0) 1 8 Try.underlying24 hi ht0 ht1 ht2 rfl (by decide) _ _ _ rfl (World.ownsRow_made w #[] 0 (Nat.le_refl _) (by decide) rfl) ⟨g, 0, none⟩ n cap (L.map (Value.int .i64)) rfl HL2.out hnews hone (by unfold maxLen; omega) (by omega) (by simp) ?_; intro v' w1 hown' hg _)
    have hown2 : w1.ownsRow w.heap.size 2 1 v' n (L.map (Value.int .i64)) := by simpa using hown'
    obtain ⟨a', cap', rfl, hO⟩ := OwnN.shape hown2
    go_wp2
    go_ret
    exact ⟨_, _, rfl, hO, ((Below.refl _ w).alloc (Nat.le_refl _) _).grown hg (by simp) (fun q hq => by cases hq; exact Nat.le_refl _)⟩
/-- the texts that end at a node -/
def hitsL (L : List Nd) (at' : Int) : List Int := if 0 ≤ at' ∧ at' < L.length then (ndAt L at'.toNat).O else []
theorem NMade.outs {w : World} {B C g n : Nat} {L : List Nd} {cur : Array Value} {S : Nat → Value} (h : NMade w B C g n n L cur S) (i : Nat) (hi : i < n) : ∃ a cap, w.cell? ⟨g, i * 5 + 4, none⟩ = some (.slice a (ndAt L i).O.length cap) ∧ OwnN w B a (ndAt L i).O.length cap (ndAt L i).O := by
  obtain ⟨a4, c4, e4, o4⟩ := h.nest.own (i * 2 + 1) (by omega)
  rw [lstOf_odd] at e4 o4
  exact ⟨a4, c4, ((cell_of_row w g _ _ _ _ h.blk).trans (h.row i hi).2.2.2.2).trans (by rw [e4]), o4⟩
set_option maxHeartbeats 1000000 in
theorem spec_trieHits (L : List Nd) (B C g cap : Nat) (cur : Array Value) (S : Nat → Value) (i : Int) (w : World) (h : NMade w B C g L.length L.length L cur S) (hlen : L.length ≤ 1048576) (hts : ∀ i, i < L.length → (ndAt L i).O.length ≤ 1048576) :
    Calls Try.prog 8 #[.slice (some ⟨g, 0, none⟩) L.length cap, .int .i64 i] w fun e w' => ∃ a' n cap', e = .returned (.slice a' n cap') ∧ OwnN w' w.heap.size a' n cap' (hitsL L i) ∧ Below w.heap.size w w' := by
  by_cases hin : 0 ≤ i ∧ i ≤ (L.length : Int) - 1
  · obtain ⟨I, rfl⟩ := Int.eq_ofNat_of_zero_le hin.1
    have hI : I < L.length := by omega
    have HH := Lib.hid (show hitsL L (I : Int) = (ndAt L I).O by unfold hitsL; rw [if_pos (by omega)]; rfl)
    have HI := Lib.hid (inB_yes hin)
    obtain ⟨a4, c4, q4, o4⟩ := h.outs I hI
    have hso := hts I hI
    have HO := Lib.hid o4
    clear h hts o4 hin
    generalize hO : (ndAt L I).O = O at *
    clear hO
    go_enter Try.func8, Try.ntmps8
    go_wp2_with (go_at_call 34; refine (spec_l1In _ _ _ _).mono ?_; rintro e w' ⟨rfl, rfl⟩; rw [HI.out])
    refine (own_l1Copy O _ _ _ B _ HO.out (by omega)).mono ?_
    rintro e w1 ⟨a', cap', rfl, hO, hb1⟩
    go_wp2_with fail
    go_ret
    exact ⟨_, _, _, rfl, by rw [HH.out]; exact hO, hb1⟩
  · have HH := Lib.hid (show hitsL L i = [] by unfold hitsL; rw [if_neg (by omega)])
    have HI := Lib.hid (inB_no hin)
    clear h hts hin
    go_enter Try.func8, Try.ntmps8
    go_wp2_with (go_at_call 34; refine (spec_l1In _ _ _ _).mono ?_; rintro e w' ⟨rfl, rfl⟩; rw [HI.out])
    go_ret
    exact ⟨_, _, _, rfl, by rw [HH.out]; exact ⟨rfl, World.ownsRow_made w #[] 0 (Nat.le_refl _) (by decide) rfl⟩, (by repeat (first | exact Below.refl _ _ | assumption | (refine Below.drew ?_) | (refine below_drewN ?_ _) | (refine Below.alloc ?_ (by first | omega | (simp; done) | (simp; omega)) _) | (refine Below.setCell ?_ (by first | omega | (simp; done) | (simp; omega)) _)))⟩
set_option maxHeartbeats 1000000 in
theorem impl_trieHits (L : List Nd) (B C g cap : Nat) (cur : Array Value) (S : Nat → Value) (i : Int) (w : World) (h : NMade w B C g L.length L.length L cur S) (hlen : L.length ≤ 1048576) (hts : ∀ i, i < L.length → (ndAt L i).O.length ≤ 1048576) :
    Calls Try.prog 10 #[.slice (some ⟨g, 0, none⟩) L.length cap, .int .i64 i] w fun e w' => ∃ a' n cap', e = .returned (.slice a' n cap') ∧ OwnN w' w.heap.size a' n cap' (hitsL L i) ∧ Below w.heap.size w w' := by
  by_cases h0 : 0 ≤ i
  · obtain ⟨I, rfl⟩ := Int.eq_ofNat_of_zero_le h0
    by_cases hI : I < L.length
    · have HH := Lib.hid (show hitsL L (I : Int) = (ndAt L I).O by unfold hitsL; rw [if_pos (by omega)]; rfl)
      obtain ⟨a4, c4, q4, o4⟩ := h.outs I hI
      have hso := hts I hI
      have HO := Lib.hid o4
      have g1 : decide ((I : Int) < 0) = false := decide_eq_false (by omega)
      have g2 : decide ((L.length : Int) ≤ (I : Int)) = false := decide_eq_false (by omega)
      have g3 : decide (L.length ≤ I) = false := decide_eq_false (by omega)
      clear h hts o4 h0
      generalize hO : (ndAt L I).O = O at *
      clear hO
      go_enter Try.func10, Try.ntmps10
      go_wp2_with fail
      refine (own_clone O _ _ _ B _ HO.out (by omega)).mono ?_
      rintro e w1 ⟨a', cap', rfl, hO, hb1⟩
      go_wp2_with fail
      go_ret
      exact ⟨_, _, _, rfl, by rw [HH.out]; exact hO, hb1⟩
    · have HH := Lib.hid (show hitsL L (I : Int) = [] by unfold hitsL; rw [if_neg (by omega)])
      have g1 : decide ((I : Int) < 0) = false := decide_eq_false (by omega)
      have g2 : decide ((L.length : Int) ≤ (I : Int)) = true := decide_eq_true (by omega)
      have g3 : decide (L.length ≤ I) = true := decide_eq_true (by omega)
      clear h hts
      go_enter Try.func10, Try.ntmps10
      go_wp2
      go_ret
      exact ⟨_, _, _, rfl, by rw [HH.out]; exact OwnN.nil _ _, (by repeat (first | exact Below.refl _ _ | assumption | (refine Below.drew ?_) | (refine below_drewN ?_ _) | (refine Below.alloc ?_ (by first | omega | (simp; done) | (simp; omega)) _) | (refine Below.setCell ?_ (by first | omega | (simp; done) | (simp; omega)) _)))⟩
  · have HH := Lib.hid (show hitsL L i = [] by unfold hitsL; rw [if_neg (by omega)])
    have g1 : decide (i < 0) = true := decide_eq_true (by omega)
    clear h hts
    go_enter Try.func10, Try.ntmps10
    go_wp2
    go_ret
    exact ⟨_, _, _, rfl, by rw [HH.out]; exact OwnN.nil _ _, (by repeat (first | exact Below.refl _ _ | assumption | (refine Below.drew ?_) | (refine below_drewN ?_ _) | (refine Below.alloc ?_ (by first | omega | (simp; done) | (simp; omega)) _) | (refine Below.setCell ?_ (by first | omega | (simp; done) | (simp; omega)) _)))⟩
end Go.Proofs.Ytglldmfhjipacab

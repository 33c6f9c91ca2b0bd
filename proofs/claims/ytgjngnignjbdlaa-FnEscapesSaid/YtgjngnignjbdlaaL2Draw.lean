/-
  Chapter 2: what the drawers of texts hand over, whatever they read.
-/
import Derived.Test.YtgjngnignjbdlaaL1Draw
import Derived.Test.YtgjngnignjbdlaaL2Esc
namespace Go.Proofs.Ytgjngnignjbdlaa
open Go.RowKit
set_option linter.unusedVariables false
def litOf (L : List ByteArray) (j : Nat) : ByteArray := L.getD j ⟨#[]⟩
theorem litOf_size (L : List ByteArray) (m : Nat) (h : ∀ s ∈ L, s.size ≤ m) (j : Nat) : (litOf L j).size ≤ m := by
  unfold litOf
  by_cases hj : j < L.length
  · rw [List.getD_eq_getElem?_getD, List.getElem?_eq_getElem hj]; exact h _ (List.getElem_mem hj)
  · rw [List.getD_eq_getElem?_getD, List.getElem?_eq_none (by omega)]; exact Nat.zero_le _
theorem lit_el (L : List ByteArray) (j : Nat) (hj : j < L.length) : (L.map Value.string).toArray[j]? = some (.string (litOf L j)) := by
  simp [litOf, List.getD_eq_getElem?_getD, List.getElem?_eq_getElem hj]
theorem lit_at (L : List ByteArray) (j : Nat) (hh : j < (L.map Value.string).length) : (L.map Value.string)[j]'hh = .string (litOf L j) := by
  have hj : j < L.length := by simpa using hh
  simp [litOf, List.getD_eq_getElem?_getD, List.getElem?_eq_getElem hj]
theorem lit_new (L : List ByteArray) {W wn : World} {R : Nat} {t : TypeId} {cs : Array Value} (hg : (W.alloc (.cells cs t)).grownBy wn (some R)) (hR : R < W.heap.size) (hcs : cs = (L.map Value.string).toArray) :
    ∀ j, j < L.length → wn.cell? ⟨W.heap.size, j, none⟩ = some (.string (litOf L j)) := by
  intro j hj
  subst hcs
  exact hg.cell (by rw [World.cell?_alloc_new]; exact lit_el L j hj) (by simp; omega)
theorem lit_newd (L : List ByteArray) {W wn : World} {R : Nat} {t : TypeId} {cs : Array Value} (hg : ((W.alloc (.cells cs t)).drew).grownBy wn (some R)) (hR : R < W.heap.size) (hcs : cs = (L.map Value.string).toArray) :
    ∀ j, j < L.length → wn.cell? ⟨W.heap.size, j, none⟩ = some (.string (litOf L j)) :=
  lit_new L (W := W) (t := t) (cs := cs) ⟨hg.os, hg.tape, hg.output, hg.size, hg.block⟩ hR hcs
theorem grownBy_drew1 {w w1 : World} {r : Option Nat} (h : w.grownBy w1 r) : w.grownBy w1.drew r := ⟨h.os, h.tape, h.output, h.size, h.block⟩
theorem lit_kept (L : List ByteArray) {w wn : World} {R b : Nat} (hl : ∀ j, j < L.length → w.cell? ⟨b, j, none⟩ = some (.string (litOf L j))) (hg : w.grownBy wn (some R)) (hR : R < b) :
    ∀ j, j < L.length → wn.cell? ⟨b, j, none⟩ = some (.string (litOf L j)) := fun j hj => hg.cell (hl j hj) (by simp; omega)
theorem RdOk.drew {w : World} {R : Nat} {a : Option Addr} {len cap : Nat} {z : List Int} (h : RdOk w R a len cap z) : RdOk w.drew R a len cap z := h.below (Below.drew (Below.refl _ _))
theorem grownBy_drew0 {w : World} {R : Nat} : w.grownBy w.drew (some R) := ⟨rfl, rfl, rfl, Nat.le_refl _, fun _ _ _ => rfl⟩
def odds : List ByteArray := [⟨#[]⟩, ⟨#[92]⟩, ⟨#[10]⟩, ⟨#[0]⟩, ⟨#[255]⟩, ⟨#[120]⟩, ⟨#[32]⟩]
theorem odds_size (j : Nat) : (litOf odds j).size ≤ 1 := litOf_size _ _ (by decide) j
set_option maxHeartbeats 1000000 in
theorem rd_odd (w : World) (R : Nat) (a : Option Addr) (len cap : Nat) (z : List Int) (h : RdOk w R a len cap z) :
    Calls Try.prog 40 #[.pointer (some ⟨R, 0, none⟩)] w fun e w' => ∃ s : ByteArray, e = .returned (.string s) ∧ s.size ≤ 20 ∧ RdOk w' R a len cap z ∧ w.grownBy w' (some R) := by
  have hR := h.lt
  go_enter Try.func40, Try.ntmps40
  go_wp2_with fail
  go_region_law (first
    | (have hj2 := hj; go_simp; go_at_call 33; refine (rd_term _ R a len cap z (by repeat (first | assumption | refine RdOk.alloc ?_ _ | refine RdOk.drew ?_)) 3 (by omega)).mono ?_; rintro e wn ⟨t, rfl, hst, hok, hg⟩; (first | have hl := lit_kept odds hl hg (by first | exact hR | exact RdOk.lt (a := a) (len := len) (cap := cap) (z := z) (by assumption)) | (have hl := lit_new odds hg (by first | exact hR | exact RdOk.lt (a := a) (len := len) (cap := cap) (z := z) (by assumption)) rfl; try dsimp only [World.drew] at hl) | have hl := lit_newd odds hg (by first | exact hR | exact RdOk.lt (a := a) (len := len) (cap := cap) (z := z) (by assumption)) rfl | skip); have hgw : w.grownBy wn (some R) := (by repeat (first | assumption | exact grownBy_drew0 | exact World.grownBy.refl _ _ | refine grownBy_drew1 ?_ | refine grownBy_alloc ?_ _ | refine grownBy_trans ?_ hg)); (try have hv := hl j hj); have hc2 : ¬ (9223372036854775807 < s.size + (litOf odds j).size + t.size) := (by omega); have hc3 : ¬ (9223372036854775807 < (s ++ litOf odds j).size + t.size) := (by rw [ByteArray.size_append]; omega))
    | (go_simp; go_at_call 33; refine (rd_term _ R a len cap z (by repeat (first | assumption | refine RdOk.alloc ?_ _ | refine RdOk.drew ?_)) 3 (by omega)).mono ?_; rintro e wn ⟨s, rfl, hss, hok, hg⟩; (first | have hl := lit_kept odds hl hg (by first | exact hR | exact RdOk.lt (a := a) (len := len) (cap := cap) (z := z) (by assumption)) | (have hl := lit_new odds hg (by first | exact hR | exact RdOk.lt (a := a) (len := len) (cap := cap) (z := z) (by assumption)) rfl; try dsimp only [World.drew] at hl) | have hl := lit_newd odds hg (by first | exact hR | exact RdOk.lt (a := a) (len := len) (cap := cap) (z := z) (by assumption)) rfl | skip); have hgw : w.grownBy wn (some R) := (by repeat (first | assumption | exact grownBy_drew0 | exact World.grownBy.refl _ _ | refine grownBy_drew1 ?_ | refine grownBy_alloc ?_ _ | refine grownBy_trans ?_ hg)); (try have hv := hl j hj))
    | (go_simp; go_at_call 30; refine (rd_below _ R a len cap z (by repeat (first | assumption | refine RdOk.alloc ?_ _ | refine RdOk.drew ?_)) _).mono ?_; rintro e wn ⟨x, rfl, ⟨hx0, _, hx1, _⟩, hok, hg⟩; have hx2 : x < 7 := hx1 (by omega); clear hx1; obtain ⟨j, rfl⟩ := Int.eq_ofNat_of_zero_le hx0; have hj : j < 7 := (by omega); have ho := odds_size j; (first | have hl := lit_kept odds hl hg (by first | exact hR | exact RdOk.lt (a := a) (len := len) (cap := cap) (z := z) (by assumption)) | (have hl := lit_new odds hg (by first | exact hR | exact RdOk.lt (a := a) (len := len) (cap := cap) (z := z) (by assumption)) rfl; try dsimp only [World.drew] at hl) | have hl := lit_newd odds hg (by first | exact hR | exact RdOk.lt (a := a) (len := len) (cap := cap) (z := z) (by assumption)) rfl | skip); have hgw : w.grownBy wn (some R) := (by repeat (first | assumption | exact grownBy_drew0 | exact World.grownBy.refl _ _ | refine grownBy_drew1 ?_ | refine grownBy_alloc ?_ _ | refine grownBy_trans ?_ hg)); have he : (#[.string ⟨#[]⟩, .string ⟨#[92]⟩, .string ⟨#[10]⟩, .string ⟨#[0]⟩, .string ⟨#[255]⟩, .string ⟨#[120]⟩, .string ⟨#[32]⟩] : Array Value)[j]? = some (.string (litOf odds j)) := lit_el odds j hj; have he2 : ∀ hh, ([.string ⟨#[]⟩, .string ⟨#[92]⟩, .string ⟨#[10]⟩, .string ⟨#[0]⟩, .string ⟨#[255]⟩, .string ⟨#[120]⟩, .string ⟨#[32]⟩] : List Value)[j]'hh = .string (litOf odds j) := (fun hh => lit_at odds j hh); (try have hv := hl j hj); have hc1 : ¬ (9223372036854775807 < s.size + (litOf odds j).size) := (by omega)))
  all_goals
    go_wp2
    go_ret
    exact ⟨_, rfl, by rw [ByteArray.size_append, ByteArray.size_append]; omega, (by repeat (first | assumption | refine RdOk.alloc ?_ _ | refine RdOk.drew ?_)), (by repeat (first | assumption | exact grownBy_drew0 | exact World.grownBy.refl _ _ | refine grownBy_drew1 ?_ | refine grownBy_alloc ?_ _ | refine grownBy_trans ?_ hg))⟩
def hurts : List ByteArray := [⟨#[97]⟩, ⟨#[66]⟩, ⟨#[92]⟩, ⟨#[10]⟩, ⟨#[49]⟩, ⟨#[32]⟩]
theorem hurts_size (j : Nat) : (litOf hurts j).size ≤ 1 := litOf_size _ _ (by decide) j
def harms : List ByteArray := [⟨#[97]⟩, ⟨#[10]⟩, ⟨#[35]⟩]
theorem harms_size (j : Nat) : (litOf harms j).size ≤ 1 := litOf_size _ _ (by decide) j
set_option maxHeartbeats 1000000 in
theorem rd_hurt (w : World) (R : Nat) (a : Option Addr) (len cap : Nat) (z : List Int) (h : RdOk w R a len cap z) (s : ByteArray) (hs : s.size ≤ 1000) :
    Calls Try.prog 44 #[.pointer (some ⟨R, 0, none⟩), .string s] w fun e w' => ∃ t : ByteArray, e = .returned (.string t) ∧ t.size ≤ s.size + 1 ∧ RdOk w' R a len cap z ∧ w.grownBy w' (some R) := by
  go_enter Try.func44, Try.ntmps44
  go_wp2_with fail
  refine (rd_below _ _ _ _ _ _ h _).mono ?_
  rintro e w1 ⟨m, rfl, ⟨hm0, _, hm1, _⟩, hok1, hg1⟩
  have hm2 : m < 6 := hm1 (by omega)
  clear hm1
  have hR := hok1.lt
  by_cases c1 : m = 1
  · subst c1
    go_wp2_with fail
    refine (rd_below _ _ _ _ _ _ hok1 _).mono ?_
    rintro e w2 ⟨x, rfl, ⟨hx0, hx3, hx1, _⟩, hok2, hg2⟩
    have hx2 : x ≤ s.size := by
      by_cases h1 : (s.size : Int) + 1 ≤ 1
      · have := hx3 h1; omega
      · have := hx1 (by omega); omega
    clear hx1 hx3
    obtain ⟨j, rfl⟩ := Int.eq_ofNat_of_zero_le hx0
    go_wp2_with fail
    go_ret
    exact ⟨_, rfl, by rw [ByteArray.size_extract]; omega, hok2, grownBy_trans hg1 hg2⟩
  · by_cases c2 : m = 2
    · subst c2
      by_cases h0 : 0 < s.size
      · go_wp2_with fail
        refine (rd_below _ _ _ _ _ _ hok1 _).mono ?_
        rintro e w2 ⟨i, rfl, ⟨hi0, hi3, hi1, _⟩, hok2, hg2⟩
        have hi2 : i < s.size := by
          by_cases h1 : (s.size : Int) ≤ 1
          · have := hi3 h1; omega
          · have := hi1 (by omega); omega
        clear hi1 hi3
        obtain ⟨i, rfl⟩ := Int.eq_ofNat_of_zero_le hi0
        have hi4 : i < s.size := by omega
        have hi5 : i + 1 ≤ s.size := by omega
        have hi6 : i ≤ s.size := by omega
        have hi7 : (i : Int) + 1 ≤ (s.size : Int) := by omega
        have hi8 : (0 : Int) ≤ (i : Int) + 1 := by omega
        have hiw : IntKind.i64.wrap ((i : Int) + 1) = (i : Int) + 1 := by rw [IntKind.wrap_i64]; omega
        obtain ⟨A, hA⟩ : ∃ A, s.extract 0 i = A := ⟨_, rfl⟩
        obtain ⟨B, hB⟩ : ∃ B, s.extract (i + 1) s.size = B := ⟨_, rfl⟩
        have hAs : A.size = i := by rw [← hA, ByteArray.size_extract]; omega
        have hBs : B.size = s.size - (i + 1) := by rw [← hB, ByteArray.size_extract]
                                                   omega
        have hA1 : A.size ≤ 1000 := by omega
        have hB1 : B.size ≤ 1000 := by omega
        have HA := Lib.hid hAs; have HB := Lib.hid hBs; clear hAs hBs
        clear hR
        have hR := hok2.lt
        go_wp2_with fail
        go_region_law ((go_simp; go_at_call 30; refine (rd_below _ R a len cap z (by repeat (first | assumption | refine RdOk.alloc ?_ _ | refine RdOk.drew ?_)) _).mono ?_; rintro e wn ⟨x, rfl, ⟨hx0, _, hx1, _⟩, hok, hg⟩; have hx2 : x < 6 := hx1 (by omega); clear hx1; obtain ⟨j, rfl⟩ := Int.eq_ofNat_of_zero_le hx0; have hj : j < 6 := (by omega); have ho := hurts_size j; (first | have hl := lit_kept hurts hl hg (by first | exact hR | exact RdOk.lt (a := a) (len := len) (cap := cap) (z := z) (by assumption)) | (have hl := lit_new hurts hg (by first | exact hR | exact RdOk.lt (a := a) (len := len) (cap := cap) (z := z) (by assumption)) rfl; try dsimp only [World.drew] at hl) | have hl := lit_newd hurts hg (by first | exact hR | exact RdOk.lt (a := a) (len := len) (cap := cap) (z := z) (by assumption)) rfl | skip); have hgw : w2.grownBy wn (some R) := (by repeat (first | assumption | exact grownBy_drew0 | exact World.grownBy.refl _ _ | refine grownBy_drew1 ?_ | refine grownBy_alloc ?_ _ | refine grownBy_trans ?_ hg)); have he : (#[.string ⟨#[97]⟩, .string ⟨#[66]⟩, .string ⟨#[92]⟩, .string ⟨#[10]⟩, .string ⟨#[49]⟩, .string ⟨#[32]⟩] : Array Value)[j]? = some (.string (litOf hurts j)) := lit_el hurts j hj; have he2 : ∀ hh, ([.string ⟨#[97]⟩, .string ⟨#[66]⟩, .string ⟨#[92]⟩, .string ⟨#[10]⟩, .string ⟨#[49]⟩, .string ⟨#[32]⟩] : List Value)[j]'hh = .string (litOf hurts j) := (fun hh => lit_at hurts j hh); (try have hv := hl j hj); have hc1 : ¬ (9223372036854775807 < A.size + (litOf hurts j).size) := (by omega); have hc2 : ¬ (9223372036854775807 < A.size + (litOf hurts j).size + B.size) := (by omega); have hc3 : ¬ (9223372036854775807 < (A ++ litOf hurts j).size + B.size) := (by rw [ByteArray.size_append]; omega)))
        all_goals
          go_wp2
          go_ret
          exact ⟨_, rfl, by rw [ByteArray.size_append, ByteArray.size_append, HA.out, HB.out]; omega, (by repeat (first | assumption | refine RdOk.alloc ?_ _ | refine RdOk.drew ?_)), grownBy_trans hg1 (grownBy_trans hg2 (by repeat (first | assumption | exact grownBy_drew0 | exact World.grownBy.refl _ _ | refine grownBy_drew1 ?_ | refine grownBy_alloc ?_ _ | refine grownBy_trans ?_ hg)))⟩
      · go_wp2_with fail
        go_ret
        exact ⟨_, rfl, by omega, hok1, hg1⟩
    · by_cases c3 : m = 3
      · subst c3
        go_wp2_with fail
        refine (rd_below _ _ _ _ _ _ (hok1.alloc _) _).mono ?_
        rintro e w2 ⟨x, rfl, ⟨hx0, _, hx1, _⟩, hok2, hg2⟩
        have hx2 : x < 3 := hx1 (by omega)
        clear hx1
        obtain ⟨j, rfl⟩ := Int.eq_ofNat_of_zero_le hx0
        have hv := lit_new harms hg2 hok1.lt rfl j (by show j < 3; omega)
        have ho := harms_size j
        go_wp2_with fail
        go_ret
        exact ⟨_, rfl, by rw [ByteArray.size_append]; omega, hok2, grownBy_trans (grownBy_alloc hg1 _) hg2⟩
      · go_wp2_with fail
        go_ret
        exact ⟨_, rfl, by omega, hok1, hg1⟩
def tails : List ByteArray := [⟨#[92]⟩, ⟨#[92, 120]⟩, ⟨#[92, 120, 52]⟩, ⟨#[92, 113]⟩, ⟨#[32]⟩, ⟨#[92, 120, 52, 49]⟩]
theorem tails_size (j : Nat) : (litOf tails j).size ≤ 4 := litOf_size _ _ (by decide) j
theorem drawEscaped (a : Option Addr) (len cap : Nat) (z : List Int) (w : World) (hr : IsRow .u8 w a len cap z) (hl : len ≤ 1048576) :
    Calls Try.prog 21 #[.slice a len cap] w fun e w' => ∃ s : ByteArray, e = .returned (.string s) ∧ s.size ≤ 20 ∧ Below w.heap.size w w' := by
  go_enter Try.func21, Try.ntmps21
  go_wp2_with fail
  refine (l1Open_any _ _ _ _ _ hr hl).mono ?_
  rintro e w1 ⟨rfl, hok, hb⟩
  go_wp2_with fail
  refine (rd_odd _ _ _ _ _ _ hok).mono ?_
  rintro e w2 ⟨s, rfl, hs, hok2, hg2⟩
  go_wp2_with fail
  go_ret
  exact ⟨_, rfl, hs, below_rd hb hg2⟩
theorem drawUnescaped (a : Option Addr) (len cap : Nat) (z : List Int) (w : World) (hr : IsRow .u8 w a len cap z) (hl : len ≤ 1048576) :
    Calls Try.prog 24 #[.slice a len cap] w fun e w' => ∃ s : ByteArray, e = .returned (.string s) ∧ s.size ≤ 100 ∧ Below w.heap.size w w' := by
  go_enter Try.func24, Try.ntmps24
  go_wp2_with fail
  refine (l1Open_any _ _ _ _ _ hr hl).mono ?_
  rintro e w1 ⟨rfl, hok, hb⟩
  go_wp2_with fail
  refine (rd_odd _ _ _ _ _ _ hok).mono ?_
  rintro e w2 ⟨s, rfl, hs, hok2, hg2⟩
  have hb2 := below_rd hb hg2
  go_wp2_with fail
  refine (spec_escaped _ _ (by omega)).mono ?_
  rintro e w3 ⟨rfl, hb3⟩
  have hes : (escS s).size ≤ 80 := by have := escS_size s; omega
  have hok3 := hok2.below hb3
  have hB3 := hb2.trans (hb3.mono hb2.size)
  clear hb hb2 hb3 hg2 hok hok2
  generalize escS s = E at *
  go_wp2_with fail
  refine (rd_once _ _ _ _ _ _ hok3 _ (by omega) (by omega)).mono ?_
  rintro e w4 ⟨m, rfl, hok4, hg4⟩
  have hB4 := below_rd hB3 hg4
  cases m
  · go_wp2_with fail
    refine (rd_hurt _ _ _ _ _ _ hok4 _ (by omega)).mono ?_
    rintro e w5 ⟨t, rfl, ht, hok5, hg5⟩
    go_wp2_with fail
    go_ret
    exact ⟨_, rfl, by omega, below_rd hB4 hg5⟩
  · go_wp2_with fail
    refine (rd_below _ _ _ _ _ _ (hok4.alloc _) _).mono ?_
    rintro e w5 ⟨x, rfl, ⟨hx0, _, hx1, _⟩, hok5, hg5⟩
    have hx2 : x < 6 := hx1 (by omega)
    clear hx1
    obtain ⟨j, rfl⟩ := Int.eq_ofNat_of_zero_le hx0
    have hv := lit_new tails hg5 hok4.lt rfl j (by show j < 6; omega)
    have ho := tails_size j
    go_wp2_with fail
    go_ret
    exact ⟨_, rfl, by rw [ByteArray.size_append]; omega, below_rd hB4 (grownBy_trans (World.grownBy_alloc w4 _ _) hg5)⟩
end Go.Proofs.Ytgjngnignjbdlaa

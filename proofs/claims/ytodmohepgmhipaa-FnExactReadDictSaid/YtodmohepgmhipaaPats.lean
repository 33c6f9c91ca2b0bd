/-
  Slices of patterns: how they lie; the law's own helpers on them; DictOk, in the program and in its model.
-/
import Derived.Test.YtodmohepgmhipaaL2Pat
import Derived.Outline
namespace Go.Proofs.Ytodmohepgmhipaa
open Go.RowKit
set_option linter.unusedVariables false
set_option maxRecDepth 100000
structure Pt where
  t : ByteArray
  k : Int
  f : Bool
instance : Inhabited Pt := ⟨⟨⟨#[]⟩, 0, false⟩⟩
def ptAt (L : List Pt) (i : Nat) : Pt := L.getD i ⟨⟨#[]⟩, 0, false⟩
def PatsAt (w : World) (b off : Nat) (L : List Pt) : Prop :=
  ∀ i, i < L.length → w.cell? ⟨b, off + i * 3, none⟩ = some (.string (ptAt L i).t) ∧ w.cell? ⟨b, off + i * 3 + 1, none⟩ = some (.int .i64 (ptAt L i).k) ∧ w.cell? ⟨b, off + i * 3 + 2, none⟩ = some (.bool (ptAt L i).f)
def Pats (w : World) (a : Option Addr) (L : List Pt) : Prop := L = [] ∨ ∃ b off, a = some ⟨b, off, none⟩ ∧ PatsAt w b off L
theorem Pats.at {w : World} {a : Option Addr} {L : List Pt} (h : Pats w a L) (i : Nat) (hi : i < L.length) : ∃ b off, a = some ⟨b, off, none⟩ ∧ PatsAt w b off L := by
  rcases h with rfl | h
  · simp at hi
  · exact h
theorem PatsAt.kept {w w1 : World} {b off : Nat} {L : List Pt} (h : PatsAt w b off L) (hb : Below w.heap.size w w1) : PatsAt w1 b off L := by
  intro i hi
  obtain ⟨h0, h1, h2⟩ := h i hi
  have hlt : b < w.heap.size := block_lt_of_cell h0
  exact ⟨(hb.cell (p := ⟨b, _, none⟩) hlt).trans h0, (hb.cell (p := ⟨b, _, none⟩) hlt).trans h1, (hb.cell (p := ⟨b, _, none⟩) hlt).trans h2⟩
theorem Pats.kept {w w1 : World} {a : Option Addr} {L : List Pt} (h : Pats w a L) (hb : Below w.heap.size w w1) : Pats w1 a L := by
  rcases h with rfl | ⟨b, off, rfl, h⟩
  · exact .inl rfl
  · exact .inr ⟨b, off, rfl, h.kept hb⟩
/-- all patterns right, and not too many -/
def dictOkL (L : List Pt) : Bool := decide (L.length ≤ 8) && L.all (fun p => patOk p.t p.k)
def okTo (L : List Pt) (k : Nat) : Prop := ∀ i, i < k → patOk (ptAt L i).t (ptAt L i).k = true
theorem okTo_all (L : List Pt) : okTo L L.length ↔ L.all (fun p => patOk p.t p.k) = true := by
  rw [List.all_eq_true]
  constructor
  · intro h p hp
    obtain ⟨i, hi, rfl⟩ := List.getElem_of_mem hp
    have := h i hi
    simpa [ptAt, List.getD_eq_getElem?_getD, List.getElem?_eq_getElem hi] using this
  · intro h i hi
    have := h L[i] (List.getElem_mem hi)
    simpa [ptAt, List.getD_eq_getElem?_getD, List.getElem?_eq_getElem hi] using this

set_option maxHeartbeats 1000000 in
theorem spec_dictOk (L : List Pt) (a : Option Addr) (cap : Nat) (w : World) (h : Pats w a L) (hlen : L.length ≤ 9223372036854775807) (hts : ∀ i, i < L.length → (ptAt L i).t.size ≤ 9223372036854775807) :
    Calls Try.prog 61 #[.slice a L.length cap] w fun e w' => e = .returned (.bool (dictOkL L)) ∧ Below w.heap.size w w' := by
  go_enter Try.func61, Try.ntmps61
  go_wp2
  go_loopw [3] (fun i wr => ∃ k : Nat, k ≤ L.length ∧ i = .int .i64 k ∧ okTo L k ∧ Below w.heap.size w wr)
    (fun i _ => L.length - (intOf i).toNat)
  case atStart => exact ⟨0, by omega, rfl, fun i hi => by omega, Below.refl _ _⟩
  case round =>
    obtain ⟨k, hk, rfl, hok, hb⟩ := hrel
    by_cases hlt : k < L.length
    · obtain ⟨b, off, rfl, hp⟩ := (h.kept hb).at k hlt
      obtain ⟨h0, h1, h2⟩ := hp k hlt
      have hsz := hts k hlt
      have HO := Lib.hid hok
      cases hq : patOk (ptAt L k).t (ptAt L k).k
      · have HN := Lib.hid (show dictOkL L = false by
          unfold dictOkL
          have : L.all (fun p => patOk p.t p.k) = false := by
            cases hz : L.all (fun p => patOk p.t p.k)
            · rfl
            · have := (okTo_all L).2 hz k hlt; rw [hq] at this; cases this
          rw [this, Bool.and_false])
        clear hok h hp hts
        generalize ptAt L k = p at *
        go_wp2_with (go_at_call 90; refine (spec_patternOk _ _ _ _ (by omega)).mono ?_; rintro e w1 ⟨rfl, hb1⟩)
        go_ret
        exact ⟨by rw [HN.out]; rfl, hb.trans (hb1.mono hb.size)⟩
      · have hok2 : okTo L (k + 1) := fun i hi => by
          by_cases e : i = k
          · subst e; exact hq
          · exact hok i (by omega)
        have HO2 := Lib.hid hok2
        clear hok hok2 h hp hts
        generalize ptAt L k = p at *
        go_wp2_with (go_at_call 90; refine (spec_patternOk _ _ _ _ (by omega)).mono ?_; rintro e w1 ⟨rfl, hb1⟩)
        go_roundw
        case rel => exact ⟨k + 1, by omega, by go_num, HO2.out, hb.trans (hb1.mono hb.size)⟩
        case measure => simp [intOf]; omega
    · obtain rfl : k = L.length := by omega
      have HN := Lib.hid (show dictOkL L = decide (L.length ≤ 8) by
        unfold dictOkL; rw [(okTo_all L).1 hok, Bool.and_true])
      have HD := Lib.hid (show decide ((L.length : Int) ≤ 8) = decide (L.length ≤ 8) from decide_eq_decide.2 (by omega))
      clear hok
      go_wp2
      go_ret
      exact ⟨by rw [HN.out, ← HD.out]; rfl, hb⟩

set_option maxHeartbeats 1000000 in
theorem impl_dictOk (L : List Pt) (a : Option Addr) (cap : Nat) (w : World) (h : Pats w a L) (hlen : L.length ≤ 9223372036854775807) (hts : ∀ i, i < L.length → (ptAt L i).t.size ≤ 9223372036854775807) :
    Calls Try.prog 64 #[.slice a L.length cap] w fun e w' => e = .returned (.bool (dictOkL L)) ∧ Below w.heap.size w w' := by
  by_cases h8 : L.length ≤ 8
  · go_enter Try.func64, Try.ntmps64
    go_wp2
    go_loopw [10] (fun i wr => ∃ k : Nat, k ≤ L.length ∧ i = .int .i64 k ∧ okTo L k ∧ Below w.heap.size w wr)
      (fun i _ => L.length - (intOf i).toNat)
    case atStart => exact ⟨0, by omega, rfl, fun i hi => by omega, Below.refl _ _⟩
    case round =>
      obtain ⟨k, hk, rfl, hok, hb⟩ := hrel
      by_cases hlt : k < L.length
      · obtain ⟨b, off, rfl, hp⟩ := (h.kept hb).at k hlt
        obtain ⟨h0, h1, h2⟩ := hp k hlt
        have hsz := hts k hlt
        have HO := Lib.hid hok
        cases hq : patOk (ptAt L k).t (ptAt L k).k
        · have HN := Lib.hid (show dictOkL L = false by
            unfold dictOkL
            have : L.all (fun p => patOk p.t p.k) = false := by
              cases hz : L.all (fun p => patOk p.t p.k)
              · rfl
              · have := (okTo_all L).2 hz k hlt; rw [hq] at this; cases this
            rw [this, Bool.and_false])
          clear hok h hp hts
          generalize ptAt L k = p at *
          go_wp2_with (go_at_call 105; refine (impl_patternOk _ _ _ _ (by omega)).mono ?_; rintro e w1 ⟨rfl, hb1⟩)
          go_ret
          exact ⟨by rw [HN.out]; rfl, (hb.alloc hb.size _).trans (hb1.mono (by have := hb.size; simp; omega))⟩
        · have hok2 : okTo L (k + 1) := fun i hi => by
            by_cases e : i = k
            · subst e; exact hq
            · exact hok i (by omega)
          have HO2 := Lib.hid hok2
          clear hok hok2 h hp hts
          generalize ptAt L k = p at *
          go_wp2_with (go_at_call 105; refine (impl_patternOk _ _ _ _ (by omega)).mono ?_; rintro e w1 ⟨rfl, hb1⟩)
          go_roundw
          case rel => exact ⟨k + 1, by omega, by go_num, HO2.out, (hb.alloc hb.size _).trans (hb1.mono (by have := hb.size; simp; omega))⟩
          case measure => simp [intOf]; omega
      · obtain rfl : k = L.length := by omega
        have HN := Lib.hid (show dictOkL L = true by
          unfold dictOkL; rw [(okTo_all L).1 hok, Bool.and_true]; simpa using h8)
        clear hok
        go_wp2
        go_ret
        exact ⟨by rw [HN.out]; rfl, hb⟩
  · have HN := Lib.hid (show dictOkL L = false by
      unfold dictOkL
      have : decide (L.length ≤ 8) = false := by simp; omega
      rw [this, Bool.false_and])
    go_enter Try.func64, Try.ntmps64
    go_wp2
    go_ret
    exact ⟨by rw [HN.out]; rfl, Below.refl _ _⟩
/-- what is left of n behind all of L; -1: it does not suffice -/
def SzPost (n : Int) (L : List Pt) (r : Int) : Prop := (r = -1) ∨ (0 ≤ r ∧ r ≤ n ∧ (L.length : Int) ≤ n ∧ ∀ i, i < L.length → ((ptAt L i).t.size : Int) ≤ n)
set_option maxHeartbeats 1000000 in
theorem laws_szPatternS (L : List Pt) (a : Option Addr) (cap : Nat) (n : Int) (w : World) (h : Pats w a L) (hlen : L.length ≤ 9223372036854775807) (hts : ∀ i, i < L.length → (ptAt L i).t.size ≤ 9223372036854775807) (h0 : 0 ≤ n) (h1 : n ≤ 1048576) :
    Calls Try.prog 19 #[.slice a L.length cap, .int .i64 n] w fun e w' => ∃ r : Int, e = .returned (.int .i64 r) ∧ SzPost n L r ∧ Below w.heap.size w w' := by
  by_cases hl : (L.length : Int) ≤ n
  · go_enter Try.func19, Try.ntmps19
    go_wp2
    go_loopw [1, 5] (fun v i wr => ∃ (k : Nat) (m : Int), k ≤ L.length ∧ i = .int .i64 k ∧ v = .int .i64 m ∧ (0 ≤ m ∧ m ≤ n) ∧ (∀ j, j < k → ((ptAt L j).t.size : Int) ≤ n) ∧ Below w.heap.size w wr)
      (fun _ i _ => L.length - (intOf i).toNat)
    case atStart => exact ⟨0, _, by omega, rfl, rfl, by omega, fun i hi => by omega, Below.refl _ _⟩
    case round =>
      obtain ⟨k, m, hk, rfl, rfl, ⟨hm0, hm1⟩, hall, hb⟩ := hrel
      by_cases hlt : k < L.length
      · obtain ⟨b, off, rfl, hp⟩ := (h.kept hb).at k hlt
        obtain ⟨c0, c1, c2⟩ := hp k hlt
        have hsz := hts k hlt
        by_cases hle : ((ptAt L k).t.size : Int) ≤ m
        · have H := Lib.hid (szI_yes hle)
          have hall2 : ∀ j, j < k + 1 → ((ptAt L j).t.size : Int) ≤ n := fun j hj => by
            by_cases e : j = k
            · subst e; omega
            · exact hall j (by omega)
          have HA := Lib.hid hall2
          clear hall hall2 h hp hts
          generalize ptAt L k = p at *
          go_wp2_with (go_at_call 60; refine (laws_szPattern _ _ _ _ _ (by omega) (by omega) (by omega)).mono ?_; rintro e w1 ⟨rfl, hb1⟩; rw [H.out])
          go_roundw
          case rel => exact ⟨k + 1, m - p.t.size, by omega, by go_num, rfl, by omega, HA.out, hb.trans (hb1.mono hb.size)⟩
          case measure => simp [intOf]; omega
        · have H := Lib.hid (szI_no hle)
          clear hall h hp hts
          generalize ptAt L k = p at *
          go_wp2_with (go_at_call 60; refine (laws_szPattern _ _ _ _ _ (by omega) (by omega) (by omega)).mono ?_; rintro e w1 ⟨rfl, hb1⟩; rw [H.out])
          go_ret
          exact ⟨-1, rfl, .inl rfl, hb.trans (hb1.mono hb.size)⟩
      · obtain rfl : k = L.length := by omega
        have HA := Lib.hid hall
        clear hall hts
        go_wp2
        go_ret
        exact ⟨m, rfl, .inr ⟨hm0, hm1, hl, HA.out⟩, hb⟩
  · clear hts
    go_enter Try.func19, Try.ntmps19
    go_wp2
    go_ret
    exact ⟨-1, rfl, .inl rfl, Below.refl _ _⟩
end Go.Proofs.Ytodmohepgmhipaa

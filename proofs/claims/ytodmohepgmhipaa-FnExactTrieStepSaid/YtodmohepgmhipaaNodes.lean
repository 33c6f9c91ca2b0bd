/-
  Slices of nodes (structs with slices of numbers in them): how they lie; what the laws' own helpers say of them.
-/
import Derived.Test.YtodmohepgmhipaaIntLaw
import Derived.Test.YtodmohepgmhipaaRowLaw
namespace Go.Proofs.Ytodmohepgmhipaa
open Go.RowKit
set_option linter.unusedVariables false
set_option maxRecDepth 100000
structure Nd where
  b : Int
  p : Int
  f : Int
  K : List Int
  O : List Int
def nd0 : Nd := ⟨0, 0, 0, [], []⟩
def ndAt (L : List Nd) (i : Nat) : Nd := L.getD i nd0
def NdAt (w : World) (b o : Nat) (x : Nd) : Prop :=
  w.cell? ⟨b, o, none⟩ = some (.int .i64 x.b) ∧ w.cell? ⟨b, o + 1, none⟩ = some (.int .i64 x.p) ∧ w.cell? ⟨b, o + 2, none⟩ = some (.int .i64 x.f) ∧
  (∃ a cap, w.cell? ⟨b, o + 3, none⟩ = some (.slice a x.K.length cap) ∧ Ints w a x.K) ∧ ∃ a cap, w.cell? ⟨b, o + 4, none⟩ = some (.slice a x.O.length cap) ∧ Ints w a x.O
def NdsAt (w : World) (b off : Nat) (L : List Nd) : Prop := ∀ i, i < L.length → NdAt w b (off + i * 5) (ndAt L i)
def Nds (w : World) (a : Option Addr) (L : List Nd) : Prop := L = [] ∨ ∃ b off, a = some ⟨b, off, none⟩ ∧ NdsAt w b off L
theorem NdAt.kept {w w1 : World} {b o : Nat} {x : Nd} (h : NdAt w b o x) (hb : Below w.heap.size w w1) : NdAt w1 b o x := by
  obtain ⟨h0, h1, h2, ⟨a3, c3, h3, i3⟩, ⟨a4, c4, h4, i4⟩⟩ := h
  have hlt : b < w.heap.size := block_lt_of_cell h0
  exact ⟨(hb.cell (p := ⟨b, _, none⟩) hlt).trans h0, (hb.cell (p := ⟨b, _, none⟩) hlt).trans h1, (hb.cell (p := ⟨b, _, none⟩) hlt).trans h2,
    ⟨a3, c3, (hb.cell (p := ⟨b, _, none⟩) hlt).trans h3, i3.kept hb⟩, ⟨a4, c4, (hb.cell (p := ⟨b, _, none⟩) hlt).trans h4, i4.kept hb⟩⟩
theorem Nds.at {w : World} {a : Option Addr} {L : List Nd} (h : Nds w a L) (i : Nat) (hi : i < L.length) : ∃ b off, a = some ⟨b, off, none⟩ ∧ NdsAt w b off L := by
  rcases h with rfl | h
  · simp at hi
  · exact h
theorem Nds.kept {w w1 : World} {a : Option Addr} {L : List Nd} (h : Nds w a L) (hb : Below w.heap.size w w1) : Nds w1 a L := by
  rcases h with rfl | ⟨b, off, rfl, h⟩
  · exact .inl rfl
  · exact .inr ⟨b, off, rfl, fun i hi => (h i hi).kept hb⟩
/-- all the lists together, up to node i -/
def ndSum (L : List Nd) : Nat → Nat
  | 0 => 0
  | i + 1 => ndSum L i + (ndAt L i).K.length + (ndAt L i).O.length
theorem ndSum_le (L : List Nd) {i j : Nat} (h : i ≤ j) : ndSum L i ≤ ndSum L j := by
  induction j with
  | zero => obtain rfl : i = 0 := by omega
            exact Nat.le_refl _
  | succ j ih =>
    by_cases e : i = j + 1
    · subst e; exact Nat.le_refl _
    · have := ih (by omega); simp only [ndSum]; omega
theorem ndSum_at (L : List Nd) (i n : Nat) (h : i < n) : (ndAt L i).K.length ≤ ndSum L n ∧ (ndAt L i).O.length ≤ ndSum L n := by
  have := ndSum_le L (show i + 1 ≤ n from h)
  simp only [ndSum] at this
  omega
set_option maxHeartbeats 1000000 in
theorem laws_szNode (x y z : Int) (k o : Option Addr) (nk ck no co : Nat) (n : Int) (w : World) (hk : nk ≤ 9223372036854775807) (ho : no ≤ 9223372036854775807) (h0 : 0 ≤ n) (h1 : n ≤ 1048576) :
    Calls Try.prog 51 #[.agg #[.int .i64 x, .int .i64 y, .int .i64 z, .slice k nk ck, .slice o no co], .int .i64 n] w fun e w' => ∃ r : Int, e = .returned (.int .i64 r) ∧ ((r = -1 ∧ ¬ ((nk : Int) + no ≤ n)) ∨ (r = n - nk - no ∧ (nk : Int) + no ≤ n)) ∧ Below w.heap.size w w' := by
  by_cases hA : (nk : Int) ≤ n
  · by_cases hB : (no : Int) ≤ n - nk
    · have HA := Lib.hid (szI_yes hA)
      have HB := Lib.hid (szI_yes hB)
      go_enter Try.func51, Try.ntmps51
      go_wp2_with (go_at_call 82; refine (laws_szInt64S _ _ _ _ _ (by omega) (by omega) (by omega)).mono ?_; rintro e w1 ⟨rfl, rfl⟩; first | rw [HA.out] | rw [HB.out])
      go_ret
      exact ⟨_, rfl, .inr ⟨rfl, by omega⟩, (by repeat (first | exact Below.refl _ _ | assumption | (refine Below.drew ?_) | (refine below_drewN ?_ _) | (refine Below.alloc ?_ (by first | omega | (simp; done) | (simp; omega)) _) | (refine Below.setCell ?_ (by first | omega | (simp; done) | (simp; omega)) _)))⟩
    · have HA := Lib.hid (szI_yes hA)
      have HB := Lib.hid (szI_no hB)
      go_enter Try.func51, Try.ntmps51
      go_wp2_with (go_at_call 82; refine (laws_szInt64S _ _ _ _ _ (by omega) (by omega) (by omega)).mono ?_; rintro e w1 ⟨rfl, rfl⟩; first | rw [HA.out] | rw [HB.out])
      go_ret
      exact ⟨_, rfl, .inl ⟨rfl, by omega⟩, (by repeat (first | exact Below.refl _ _ | assumption | (refine Below.drew ?_) | (refine below_drewN ?_ _) | (refine Below.alloc ?_ (by first | omega | (simp; done) | (simp; omega)) _) | (refine Below.setCell ?_ (by first | omega | (simp; done) | (simp; omega)) _)))⟩
  · have HA := Lib.hid (szI_no hA)
    go_enter Try.func51, Try.ntmps51
    go_wp2_with (go_at_call 82; refine (laws_szInt64S _ _ _ _ _ (by omega) (by omega) (by omega)).mono ?_; rintro e w1 ⟨rfl, rfl⟩; first | rw [HA.out] | rw [HB.out])
    go_ret
    exact ⟨_, rfl, .inl ⟨rfl, by omega⟩, (by repeat (first | exact Below.refl _ _ | assumption | (refine Below.drew ?_) | (refine below_drewN ?_ _) | (refine Below.alloc ?_ (by first | omega | (simp; done) | (simp; omega)) _) | (refine Below.setCell ?_ (by first | omega | (simp; done) | (simp; omega)) _)))⟩
/-- what szNodeS gives: less than none, or all lists are so short -/
def SzNds (n : Int) (L : List Nd) (r : Int) : Prop := r = -1 ∨ (0 ≤ r ∧ (L.length : Int) + ndSum L L.length ≤ n)
set_option maxHeartbeats 1000000 in
theorem laws_szNodeS (L : List Nd) (a : Option Addr) (cap : Nat) (n : Int) (w : World) (h : Nds w a L) (hlen : L.length ≤ 9223372036854775807) (hts : ∀ i, i < L.length → (ndAt L i).K.length ≤ 9223372036854775807 ∧ (ndAt L i).O.length ≤ 9223372036854775807) (h0 : 0 ≤ n) (h1 : n ≤ 1048576) :
    Calls Try.prog 14 #[.slice a L.length cap, .int .i64 n] w fun e w' => ∃ r : Int, e = .returned (.int .i64 r) ∧ SzNds n L r ∧ Below w.heap.size w w' := by
  by_cases hl : (L.length : Int) ≤ n
  · go_enter Try.func14, Try.ntmps14
    go_wp2
    go_loopw [1, 5] (fun v i wr => ∃ (k : Nat) (m : Int), k ≤ L.length ∧ i = .int .i64 k ∧ v = .int .i64 m ∧ 0 ≤ m ∧ m = n - L.length - ndSum L k ∧ Below w.heap.size w wr)
      (fun _ i _ => L.length - (intOf i).toNat)
    case atStart => exact ⟨0, _, by omega, rfl, rfl, by omega, by simp [ndSum], Below.refl _ _⟩
    case round =>
      obtain ⟨k, m, hk, rfl, rfl, hm0, hm1, hb⟩ := hrel
      by_cases hlt : k < L.length
      · obtain ⟨b, off, rfl, hp⟩ := (h.kept hb).at k hlt
        obtain ⟨c0, c1, c2, ⟨a3, z3, c3, i3⟩, ⟨a4, z4, c4, i4⟩⟩ := hp k hlt
        obtain ⟨hs3, hs4⟩ := hts k hlt
        have HM := Lib.hid (show m - ((ndAt L k).K.length : Int) - ((ndAt L k).O.length : Int) = n - L.length - ndSum L (k + 1) by simp only [ndSum]; omega)
        have hmn : m ≤ n := by omega
        clear hm1 i3 i4 h hp hts
        generalize ndAt L k = p at *
        generalize hx3 : p.K.length = x3 at *
        generalize hx4 : p.O.length = x4 at *
        clear hx3 hx4
        generalize p.b = pb at *
        generalize p.p = pp at *
        generalize p.f = pf at *
        go_wp2_with fail
        refine (laws_szNode _ _ _ _ _ _ _ _ _ _ _ hs3 hs4 hm0 (by omega)).mono ?_
        rintro e w1 ⟨r, rfl, hr, hb1⟩
        rcases hr with ⟨rfl, hr⟩ | ⟨rfl, hr⟩
        · go_wp2_with fail
          go_ret
          exact ⟨-1, rfl, .inl rfl, hb.trans (hb1.mono hb.size)⟩
        · have hr2 : 0 ≤ m - x3 - x4 := by omega
          go_wp2_with fail
          go_roundw
          case rel => exact ⟨k + 1, m - x3 - x4, by omega, by go_num, rfl, hr2, HM.out, hb.trans (hb1.mono hb.size)⟩
          case measure => simp [intOf]; omega
      · obtain rfl : k = L.length := by omega
        have HA := Lib.hid hm1
        clear hts hm1
        go_wp2
        go_ret
        exact ⟨m, rfl, .inr ⟨hm0, by have := HA.out; omega⟩, hb⟩
  · clear hts
    go_enter Try.func14, Try.ntmps14
    go_wp2
    go_ret
    exact ⟨-1, rfl, .inl rfl, Below.refl _ _⟩
end Go.Proofs.Ytodmohepgmhipaa

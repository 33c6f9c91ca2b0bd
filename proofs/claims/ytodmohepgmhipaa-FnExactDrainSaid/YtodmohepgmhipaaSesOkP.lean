/-
  What a right session is, as plain Bools.
-/
import Derived.Test.YtodmohepgmhipaaColsMade
import Derived.Test.YtodmohepgmhipaaL3OkS
namespace Go.Proofs.Ytodmohepgmhipaa
open Go.RowKit
set_option linter.unusedVariables false
set_option maxRecDepth 100000
theorem inB_out {n lo hi : Int} (h : inB n lo hi = true) : lo ≤ n ∧ n ≤ hi := by simpa [inB] using h
/-- the numbers of the rows fit -/
def SesF (s : Ses) : Prop := ∀ i, i < s.C.length → ∀ j, j < (rowAt s.C i).length → -9223372036854775808 ≤ intAt (rowAt s.C i) j ∧ intAt (rowAt s.C i) j ≤ 9223372036854775807
def roomB (n : Nat) (r : Int) : Bool := inB r (if n ≤ 1 then 1 else (n : Int)) 100
def recB (s : Ses) (p e d : Int) : Bool := inB p 0 ((s.D.length : Int) - 1) && (inB e s.b s.a && inB d 0 (ptAt s.D p.toNat).k)
def ordB (p0 e0 p e : Int) : Bool := decide (e0 < e ∨ (e0 = e ∧ p0 < p))
def queAt (s : Ses) (i : Nat) : Bool := recB s (intAt s.Q (i * 3)) (intAt s.Q (i * 3 + 1)) (intAt s.Q (i * 3 + 2)) && (i == 0 || ordB (intAt s.Q ((i - 1) * 3)) (intAt s.Q ((i - 1) * 3 + 1)) (intAt s.Q (i * 3)) (intAt s.Q (i * 3 + 1)))
def queB (s : Ses) : Nat → Bool
  | 0 => true
  | i + 1 => queB s i && queAt s i
def colAtB (D : List Pt) (C : List (List Int)) (i : Nat) : Bool := colOkB (patOk (ptAt D i).t (ptAt D i).k) (ptAt D i).t.size (rowAt C i)
def colsB (D : List Pt) (C : List (List Int)) : Nat → Bool
  | 0 => true
  | i + 1 => colsB D C i && colAtB D C i
def sesB (s : Ses) : Bool := dictOkL s.D && (roomB s.D.length s.r && (inB s.b 0 1000000 && (inB s.a s.b 1000000 && (decide (s.C.length = s.D.length) && (decide ((s.Q.length / 3 : Nat) ≤ s.r) && (colsB s.D s.C s.D.length && queB s (s.Q.length / 3)))))))
theorem colsB_at {D : List Pt} {C : List (List Int)} {n : Nat} (h : colsB D C n = true) : ∀ i, i < n → colAtB D C i = true := by
  induction n with
  | zero => intro i hi; omega
  | succ n ih =>
    simp only [colsB, Bool.and_eq_true] at h
    intro i hi
    by_cases e : i = n
    · subst e; exact h.2
    · exact ih h.1 i (by omega)
theorem colsB_no {D : List Pt} {C : List (List Int)} {k n : Nat} (h : colAtB D C k = false) (hk : k < n) : colsB D C n = false := by
  cases e : colsB D C n
  · rfl
  · have := colsB_at e k hk; rw [h] at this; cases this
theorem queB_at {s : Ses} {n : Nat} (h : queB s n = true) : ∀ i, i < n → queAt s i = true := by
  induction n with
  | zero => intro i hi; omega
  | succ n ih =>
    simp only [queB, Bool.and_eq_true] at h
    intro i hi
    by_cases e : i = n
    · subst e; exact h.2
    · exact ih h.1 i (by omega)
theorem queB_no {s : Ses} {k n : Nat} (h : queAt s k = false) (hk : k < n) : queB s n = false := by
  cases e : queB s n
  · rfl
  · have := queB_at e k hk; rw [h] at this; cases this
theorem queB_succ {s : Ses} {k : Nat} (h : queB s k = true) (h2 : queAt s k = true) : queB s (k + 1) = true := by simp [queB, h, h2]
theorem colsB_succ {D : List Pt} {C : List (List Int)} {k : Nat} (h : colsB D C k = true) (h2 : colAtB D C k = true) : colsB D C (k + 1) = true := by simp [colsB, h, h2]
theorem dictOk_len {L : List Pt} (h : dictOkL L = true) : L.length ≤ 8 := by unfold dictOkL at h; simp at h; exact h.1
theorem dictOk_at {L : List Pt} (h : dictOkL L = true) (i : Nat) (hi : i < L.length) : patOk (ptAt L i).t (ptAt L i).k = true := by
  unfold dictOkL at h; simp only [Bool.and_eq_true] at h; exact (okTo_all L).2 h.2 i hi
theorem spec_l11Room (n cap : Nat) (a : Option Addr) (r : Int) (w : World) (hn : n ≤ 1048576) : Calls Try.prog 111 #[.slice a n cap, .int .i64 r] w fun e w' => e = .returned (.bool (roomB n r)) ∧ w = w' := by
  by_cases h : n ≤ 1
  · have H := Lib.hid (show roomB n r = inB r 1 100 by unfold roomB; rw [if_pos h])
    have hm : max (1 : Int) (n : Int) = 1 := by omega
    clear h
    go_enter Try.func111, Try.ntmps111
    go_wp2_with (go_at_call 53; refine (spec_l1In _ _ _ _).mono ?_; rintro r w1 ⟨rfl, rfl⟩)
    go_ret
    exact ⟨by rw [H.out]; rfl, rfl⟩
  · have H := Lib.hid (show roomB n r = inB r n 100 by unfold roomB; rw [if_neg h])
    have hm : max (1 : Int) (n : Int) = n := by omega
    have h' : ¬ (n : Int) ≤ 1 := by omega
    clear h
    go_enter Try.func111, Try.ntmps111
    go_wp2_with (go_at_call 53; refine (spec_l1In _ _ _ _).mono ?_; rintro r w1 ⟨rfl, rfl⟩)
    go_ret
    exact ⟨by rw [H.out]; rfl, rfl⟩
theorem impl_roomOk (n cap : Nat) (a : Option Addr) (r : Int) (w : World) (hn : n ≤ 1048576) : Calls Try.prog 115 #[.slice a n cap, .int .i64 r] w fun e w' => e = .returned (.bool (roomB n r)) ∧ w = w' := by
  by_cases h : n ≤ 1
  · have hm : max (1 : Int) (n : Int) = 1 := by omega
    by_cases h1 : 1 ≤ r
    · have H := Lib.hid (show roomB n r = decide (r ≤ 100) by unfold roomB; rw [if_pos h]; simp [inB, h1])
      clear h
      go_enter Try.func115, Try.ntmps115
      go_wp2
      go_ret
      exact ⟨by rw [H.out]; rfl, rfl⟩
    · have H := Lib.hid (show roomB n r = false by unfold roomB; rw [if_pos h]; simp [inB, h1])
      clear h
      go_enter Try.func115, Try.ntmps115
      go_wp2
      go_ret
      exact ⟨by rw [H.out]; rfl, rfl⟩
  · have hm : max (1 : Int) (n : Int) = n := by omega
    have h' : ¬ (n : Int) ≤ 1 := by omega
    by_cases h1 : (n : Int) ≤ r
    · have H := Lib.hid (show roomB n r = decide (r ≤ 100) by unfold roomB; rw [if_neg h]; simp [inB, h1])
      clear h
      go_enter Try.func115, Try.ntmps115
      go_wp2
      go_ret
      exact ⟨by rw [H.out]; rfl, rfl⟩
    · have H := Lib.hid (show roomB n r = false by unfold roomB; rw [if_neg h]; simp [inB, h1])
      clear h
      go_enter Try.func115, Try.ntmps115
      go_wp2
      go_ret
      exact ⟨by rw [H.out]; rfl, rfl⟩
end Go.Proofs.Ytodmohepgmhipaa

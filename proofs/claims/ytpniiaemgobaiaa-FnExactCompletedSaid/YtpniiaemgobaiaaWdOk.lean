/-
  Chapter 15: are words right? In the program (by slices.ContainsFunc) and in its model.
-/
import Derived.Test.YtpniiaemgobaiaaStrLaw
import Derived.Test.YtpniiaemgobaiaaL3Ok
namespace Go.Proofs.Ytpniiaemgobaiaa
open Go.RowKit
set_option linter.unusedVariables false
set_option maxRecDepth 100000
def wordsOkB (t : Nat → ByteArray) (n : Nat) : Bool := decide ((∀ i, i < n → (t i).size ≤ 20) ∧ n ≤ 30)
theorem wordsOkB_iff {t : Nat → ByteArray} {n : Nat} : wordsOkB t n = true ↔ (∀ i, i < n → (t i).size ≤ 20) ∧ n ≤ 30 := decide_eq_true_iff
set_option maxHeartbeats 1000000 in
theorem spec_l15Words (t : Nat → ByteArray) (n : Nat) (a : Option Addr) (cap : Nat) (w : World) (h : Vals w a (strL t n)) (hlen : n ≤ 1048577) (hts : ∀ i, i < n → (t i).size ≤ 1048577) :
    Calls Try.prog 65 #[.slice a n cap] w fun e w' => e = .returned (.bool (wordsOkB t n)) ∧ Below w.heap.size w w' := by
  have HN := Lib.hid (strL_length t n)
  go_enter Try.func65, Try.ntmps65
  go_wp2
  go_loopw [3] (fun i wr => ∃ k : Nat, k ≤ n ∧ i = .int .i64 k ∧ (∀ j, j < k → (t j).size ≤ 20) ∧ Below w.heap.size w wr)
    (fun i _ => n - (intOf i).toNat)
  case atStart => exact ⟨0, by omega, rfl, fun i hi => by omega, Below.refl _ _⟩
  case round =>
    obtain ⟨k, hk, rfl, hall, hb⟩ := hrel
    by_cases hlt : k < n
    · obtain ⟨b, off, rfl, hp⟩ := (h.kept hb).at k (by rw [HN.out]; omega)
      have c0 := hp k (by rw [HN.out]; omega)
      rw [strL_at t n k hlt] at c0
      have hsz := hts k hlt
      by_cases hle : (t k).size ≤ 20
      · have hall2 : ∀ j, j < k + 1 → (t j).size ≤ 20 := fun j hj => by
          by_cases e : j = k
          · subst e; omega
          · exact hall j (by omega)
        have HA := Lib.hid hall2
        clear hall hall2 h hp hts
        generalize t k = p at *
        go_wp2_with fail
        go_roundw
        case rel => exact ⟨k + 1, by omega, by go_num, HA.out, hb⟩
        case measure => simp [intOf]; omega
      · have HF : Hid (wordsOkB t n = false) := Lib.hid (decide_eq_false fun h2 => hle (h2.1 k hlt))
        clear hall h hp hts
        generalize t k = p at *
        go_wp2_with fail
        go_ret
        exact ⟨by rw [HF.out]; first | rfl | exact congrArg (fun b => Ending.returned (.bool b)) g1, hb⟩
    · obtain rfl : k = n := by omega
      have HA := Lib.hid hall
      clear hall hts
      by_cases h30 : k ≤ 30
      · have g1 : decide ((k : Int) ≤ 30) = true := decide_eq_true (by omega)
        have HF : Hid (wordsOkB t k = true) := Lib.hid (wordsOkB_iff.2 ⟨HA.out, h30⟩)
        go_wp2
        go_ret
        exact ⟨by rw [HF.out]; first | rfl | exact congrArg (fun b => Ending.returned (.bool b)) g1, hb⟩
      · have g1 : decide ((k : Int) ≤ 30) = false := decide_eq_false (by omega)
        have HF : Hid (wordsOkB t k = false) := Lib.hid (decide_eq_false fun h2 => h30 h2.2)
        go_wp2
        go_ret
        exact ⟨by rw [HF.out]; first | rfl | exact congrArg (fun b => Ending.returned (.bool b)) g1, hb⟩
theorem impl_longWord (s : ByteArray) (w : World) (hs : s.size ≤ 1048577) :
    Calls Try.prog 87 #[.string s] w fun e w' => e = .returned (.bool (decide ((20 : Int) < (s.size : Int)))) ∧ w = w' := by
  go_enter Try.func87, Try.ntmps87
  go_wp2
  go_ret
  exact ⟨rfl, rfl⟩
set_option maxHeartbeats 2000000 in
theorem sl_longWord (t : Nat → ByteArray) (n : Nat) (a : Option Addr) (cap : Nat) (w : World) (h : Vals w a (strL t n)) (hlen : n ≤ 1048577) (hts : ∀ i, i < n → (t i).size ≤ 1048577) :
    Calls Try.prog 96 #[.slice a n cap, .func (.func 87) #[] #[]] w fun e w' => ∃ r : Int, e = .returned (.int .i64 r) ∧ ((r = -1 ∧ ∀ i, i < n → (t i).size ≤ 20) ∨ (0 ≤ r ∧ ¬ ∀ i, i < n → (t i).size ≤ 20)) ∧ Below w.heap.size w w' := by
  have HN := Lib.hid (strL_length t n)
  go_enter Try.func96, Try.ntmps96
  go_wp2
  go_loopw [8] (fun i wr => ∃ k : Nat, k ≤ n ∧ i = .int .i64 k ∧ (∀ j, j < k → (t j).size ≤ 20) ∧ Below w.heap.size w wr)
    (fun i _ => n - (intOf i).toNat)
  case atStart => exact ⟨0, by omega, rfl, fun i hi => by omega, Below.refl _ _⟩
  case round =>
    obtain ⟨k, hk, rfl, hall, hb⟩ := hrel
    by_cases hlt : k < n
    · obtain ⟨b, off, rfl, hp⟩ := (h.kept hb).at k (by rw [HN.out]; omega)
      have c0 := hp k (by rw [HN.out]; omega)
      rw [strL_at t n k hlt] at c0
      have hsz := hts k hlt
      by_cases hle : (t k).size ≤ 20
      · have hall2 : ∀ j, j < k + 1 → (t j).size ≤ 20 := fun j hj => by
          by_cases e : j = k
          · subst e; omega
          · exact hall j (by omega)
        have HA := Lib.hid hall2
        have HD := Lib.hid (show decide ((20 : Int) < ((t k).size : Int)) = false from decide_eq_false (by omega))
        clear hall hall2 h hp hts
        generalize t k = p at *
        go_wp2_with (go_at_call 87; refine (impl_longWord p _ hsz).mono ?_; rintro e w1 ⟨rfl, rfl⟩; rw [HD.out])
        go_roundw
        case rel => exact ⟨k + 1, by omega, by go_num, HA.out, hb⟩
        case measure => simp [intOf]; omega
      · have HF : Hid (¬ ∀ i, i < n → (t i).size ≤ 20) := Lib.hid (fun h2 => hle (h2 k hlt))
        have HD := Lib.hid (show decide ((20 : Int) < ((t k).size : Int)) = true from decide_eq_true (by omega))
        clear hall h hp hts
        generalize t k = p at c0 hsz HD
        clear hle
        go_wp2_with (go_at_call 87; refine (impl_longWord p _ hsz).mono ?_; rintro e w1 ⟨rfl, rfl⟩; rw [HD.out])
        go_ret
        exact ⟨k, rfl, .inr ⟨by omega, HF.out⟩, hb⟩
    · obtain rfl : k = n := by omega
      have HA := Lib.hid hall
      clear hall hts
      go_wp2
      go_ret
      exact ⟨-1, rfl, .inl ⟨rfl, HA.out⟩, hb⟩
set_option maxHeartbeats 1000000 in
theorem sl_anyLong (t : Nat → ByteArray) (n : Nat) (a : Option Addr) (cap : Nat) (w : World) (h : Vals w a (strL t n)) (hlen : n ≤ 1048577) (hts : ∀ i, i < n → (t i).size ≤ 1048577) :
    Calls Try.prog 86 #[.slice a n cap, .func (.func 87) #[] #[]] w fun e w' => ∃ c : Bool, e = .returned (.bool c) ∧ (c = false ↔ ∀ i, i < n → (t i).size ≤ 20) ∧ Below w.heap.size w w' := by
  go_enter Try.func86, Try.ntmps86
  go_wp2_with (go_at_call 96; refine (sl_longWord t n a cap _ h hlen hts).mono ?_; rintro e w1 ⟨r, rfl, hr, hb1⟩)
  go_ret
  rcases hr with ⟨rfl, hr⟩ | ⟨h0, hr⟩
  · exact ⟨false, rfl, ⟨fun _ => hr, fun _ => rfl⟩, hb1⟩
  · refine ⟨true, ?_, ⟨fun h => (by cases h), fun h => absurd h hr⟩, hb1⟩
    show Ending.returned (Value.bool (decide ((0 : Int) ≤ r))) = _
    rw [decide_eq_true h0]
set_option maxHeartbeats 1000000 in
theorem impl_wordsOk (t : Nat → ByteArray) (n : Nat) (a : Option Addr) (cap : Nat) (w : World) (h : Vals w a (strL t n)) (hlen : n ≤ 1048577) (hts : ∀ i, i < n → (t i).size ≤ 1048577) :
    Calls Try.prog 69 #[.slice a n cap] w fun e w' => e = .returned (.bool (wordsOkB t n)) ∧ Below w.heap.size w w' := by
  by_cases h30 : n ≤ 30
  · go_enter Try.func69, Try.ntmps69
    go_wp2_with (go_at_call 86; refine (sl_anyLong t n a cap _ h hlen hts).mono ?_; rintro e w1 ⟨c, rfl, hc, hb1⟩; have HC := Lib.hid hc; clear hc)
    go_ret
    refine ⟨?_, hb1⟩
    show Ending.returned (Value.bool (!c)) = _
    cases c
    · rw [wordsOkB_iff.2 ⟨HC.out.1 rfl, h30⟩]; rfl
    · rw [show wordsOkB t n = false from decide_eq_false fun h2 => Bool.noConfusion (HC.out.2 h2.1)]; rfl
  · have HF := Lib.hid (show wordsOkB t n = false from decide_eq_false fun h2 => h30 h2.2)
    clear hts
    go_enter Try.func69, Try.ntmps69
    go_wp2
    go_ret
    exact ⟨by rw [HF.out]; rfl, Below.refl _ _⟩
def nearArgB (s : ByteArray) (k : Int) : Bool := decide (s.size ≤ 20) && inB k 0 20
theorem impl_nearOk (s : ByteArray) (k : Int) (w : World) (hs : s.size ≤ 1048576) :
    Calls Try.prog 70 #[.string s, .int .i64 k] w fun e w' => e = .returned (.bool (nearArgB s k)) ∧ w = w' := by
  by_cases h1 : s.size ≤ 20
  · by_cases h2 : 0 ≤ k
    · by_cases h3 : k ≤ 20
      · have H := Lib.hid (show nearArgB s k = true by unfold nearArgB; rw [decide_eq_true h1, inB_yes ⟨h2, h3⟩]; rfl)
        go_enter Try.func70, Try.ntmps70
        go_wp2
        go_ret
        exact ⟨by rw [H.out]; rfl, rfl⟩
      · have H := Lib.hid (show nearArgB s k = false by unfold nearArgB; rw [inB_no (n := k) (lo := 0) (hi := 20) (by omega)]; simp)
        go_enter Try.func70, Try.ntmps70
        go_wp2
        go_ret
        exact ⟨by rw [H.out]; rfl, rfl⟩
    · have H := Lib.hid (show nearArgB s k = false by unfold nearArgB; rw [inB_no (n := k) (lo := 0) (hi := 20) (by omega)]; simp)
      go_enter Try.func70, Try.ntmps70
      go_wp2
      go_ret
      exact ⟨by rw [H.out]; rfl, rfl⟩
  · have H := Lib.hid (show nearArgB s k = false by unfold nearArgB; rw [decide_eq_false h1]; rfl)
    go_enter Try.func70, Try.ntmps70
    go_wp2
    go_ret
    exact ⟨by rw [H.out]; rfl, rfl⟩
theorem nearIn {n lo hi : Int} : inB n lo hi = true ↔ lo ≤ n ∧ n ≤ hi := by simp [inB]
end Go.Proofs.Ytpniiaemgobaiaa

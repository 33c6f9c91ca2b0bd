/-
  Chapter 19: may so many be asked for; how far a word is, through the functions that hold the text.
-/
import Derived.Test.YtpniiaemgobaiaaFarC
import Derived.Test.YtpniiaemgobaiaaWdOk
import Derived.Test.YtpniiaemgobaiaaL3Dist
import Derived.Test.YtpniiaemgobaiaaL19St
import Derived.Test.YtpniiaemgobaiaaL16G
import Derived.Test.YtpniiaemgobaiaaClone
namespace Go.Proofs.Ytpniiaemgobaiaa
open Go.RowKit
set_option linter.unusedVariables false
set_option maxRecDepth 100000
theorem far_info : (Try.prog.info? 95).map (fun i => (i.zero, i.size, i.bytes)) = some (some (.agg #[.int .i64 0, .string ⟨#[]⟩]), 2, 24) := by kernel_rfl
def askB (t : Nat → ByteArray) (n : Nat) (s : ByteArray) (k most : Int) : Bool := wordsOkB t n && nearArgB s k && decide (0 ≤ most)
theorem impl_askOk (t : Nat → ByteArray) (n : Nat) (a : Option Addr) (cap : Nat) (s : ByteArray) (k most : Int) (w : World) (h : Vals w a (strL t n)) (hlen : n ≤ 1048577) (hts : ∀ i, i < n → (t i).size ≤ 1048577) (hs : s.size ≤ 1048576) :
    Calls Try.prog 46 #[.slice a n cap, .string s, .int .i64 k, .int .i64 most] w fun e w' => e = .returned (.bool (askB t n s k most)) ∧ Below w.heap.size w w' := by
  have HV := Lib.hid h; have HTS := Lib.hid hts
  clear h hts
  unfold askB
  cases h1 : wordsOkB t n
  · have H1 := Lib.hid h1
    clear h1
    go_enter Try.func46, Try.ntmps46
    go_wp2_with (go_at_call 69; refine (impl_wordsOk t n a cap _ HV.out hlen HTS.out).mono ?_; rintro e w1 ⟨rfl, hb1⟩; rw [H1.out])
    go_ret
    exact ⟨rfl, hb1⟩
  · cases h2 : nearArgB s k
    · have H1 := Lib.hid h1; have H2 := Lib.hid h2
      clear h1 h2
      go_enter Try.func46, Try.ntmps46
      go_wp2_with (first | (go_at_call 69; refine (impl_wordsOk t n a cap _ HV.out hlen HTS.out).mono ?_; rintro e w1 ⟨rfl, hb1⟩; rw [H1.out]) | (go_at_call 70; refine (impl_nearOk _ _ _ hs).mono ?_; rintro r w2 ⟨rfl, rfl⟩; rw [H2.out]))
      go_ret
      exact ⟨rfl, hb1⟩
    · have H1 := Lib.hid h1; have H2 := Lib.hid h2
      clear h1 h2
      go_enter Try.func46, Try.ntmps46
      go_wp2_with (first | (go_at_call 69; refine (impl_wordsOk t n a cap _ HV.out hlen HTS.out).mono ?_; rintro e w1 ⟨rfl, hb1⟩; rw [H1.out]) | (go_at_call 70; refine (impl_nearOk _ _ _ hs).mono ?_; rintro r w2 ⟨rfl, rfl⟩; rw [H2.out]))
      go_ret
      exact ⟨by simp, hb1⟩
theorem impl_farS (s y : ByteArray) (B : Nat) (w : World) (hc : w.cell? ⟨B, 0, none⟩ = some (.string s)) (hs : s.size ≤ 1048576) (hy : y.size ≤ 1048576) :
    Calls Try.prog 48 #[.string y, .pointer (some ⟨B, 0, none⟩)] w fun e w' => e = .returned (.int .i64 (distI s y false)) ∧ Below w.heap.size w w' := by
  go_enter Try.func48, Try.ntmps48
  go_wp2_with (go_at_call 49; refine (impl_distance s y false _ hs hy).mono ?_; rintro e w1 ⟨rfl, hb1⟩)
  go_ret
  exact ⟨rfl, hb1⟩
theorem impl_farC (s y : ByteArray) (B : Nat) (w : World) (hc : w.cell? ⟨B, 0, none⟩ = some (.string s)) (hs : s.size ≤ 1048576) (hy : y.size ≤ 1048576) :
    Calls Try.prog 51 #[.string y, .pointer (some ⟨B, 0, none⟩)] w fun e w' => e = .returned (.int .i64 (startDI s y)) ∧ Below w.heap.size w w' := by
  go_enter Try.func51, Try.ntmps51
  go_wp2_with (go_at_call 52; refine (impl_startDist s y _ hs hy).mono ?_; rintro e w1 ⟨rfl, hb1⟩)
  go_ret
  exact ⟨rfl, hb1⟩
theorem fws_one (L : List Fw) (d : Int) (y : ByteArray) : fws (L ++ [⟨d, bl y⟩]) = fws L ++ [Value.int .i64 d, Value.string y] := by
  rw [fws_append]; simp [fws, txt_bl]
end Go.Proofs.Ytpniiaemgobaiaa

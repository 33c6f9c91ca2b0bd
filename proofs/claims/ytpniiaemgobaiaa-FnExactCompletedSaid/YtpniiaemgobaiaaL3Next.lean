/-
  Chapter 3: contracts of the next column, in the program and in its model.
-/
import Derived.Test.YtpniiaemgobaiaaL3Ok
import Derived.Test.YtpniiaemgobaiaaL1Mask
namespace Go.Proofs.Ytpniiaemgobaiaa
open Go.RowKit
set_option linter.unusedVariables false
set_option maxRecDepth 100000
theorem min3_eq (x y z : Int) : (if z < (if y < x then y else x) then z else (if y < x then y else x)) = min3 x y z := rfl
/-- which bytes of a text are some byte -/
def eqP (s : ByteArray) (b : Int) (i : Nat) : Bool := ((byteAt s i).toNat : Int) == b
theorem eqP_at (s : ByteArray) (b : Int) (k : Nat) (h : k < s.size) : eqP s b k = ((s[k].toNat : Int) == b) := by
  unfold eqP; rw [byteAt_eq s k h]
theorem nextAt_succ (eq : Nat → Bool) (C : Nat → Int) (head : Int) (k : Nat) : nextAt eq C head (k + 1) = min3 (if eq k then C k else C k + 1) (C (k + 1) + 1) (nextAt eq C head k + 1) := rfl
set_option maxHeartbeats 2000000 in
theorem impl_nextColumn (s : ByteArray) (L : List Int) (a : Option Addr) (n cap : Nat) (head b M : Int) (w : World) (hs : s.size ≤ 1048576) (hns : n = s.size + 1) (hn : L.length = n) (h : Ints w a L) (hB : Bnd (intAt L) s.size M) (hM : M ≤ 1048577) (h0 : 0 ≤ head) (h1 : head ≤ M + 1) :
    Calls Try.prog 94 #[.string s, .slice a n cap, .int .i64 head, .int .u8 b] w fun e w' => ∃ a' cap', e = .returned (.slice a' n cap') ∧ OwnN w' w.heap.size a' n cap' (tab (nextAt (eqP s b) (intAt L) head) n) ∧ Below w.heap.size w w' := by
  obtain ⟨i0, hi, ht0, ht1, ht2⟩ := info_parts int_info
  have hM0 : 0 ≤ M := by have := hB 0 (Nat.zero_le _); omega
  have hN := nextAt_bnd (eq := eqP s b) hB h0 h1
  obtain ⟨F, hF⟩ : ∃ F, F = nextAt (eqP s b) (intAt L) head := ⟨_, rfl⟩
  have hF0 : F 0 = head := by rw [hF]; rfl
  have hFs : ∀ k, F (k + 1) = min3 (if eqP s b k then intAt L k else intAt L k + 1) (intAt L (k + 1) + 1) (F k + 1) := by intro k; rw [hF]; rfl
  rw [← hF] at hN ⊢
  have HF0 := Lib.hid hF0; have HFs := Lib.hid hFs; have HN := Lib.hid hN; have HB := Lib.hid hB
  have HL := Lib.hid hn
  clear hF hF0 hFs hN hB hn
  have hn3 : n ≤ 1048577 := by omega
  have hn1 : 0 < n := by omega
  have HNN := Lib.hid hns; clear hns
  go_enter Try.func94, Try.ntmps94
  go_wp2_with (at_make; refine wpList_make_full _ rfl _ _ 78 rfl w.heap.size 2 i0 (.int .i64 0) 1 Try.underlying78 hi ht0 ht1 _ _ _ _ n rfl rfl rfl rfl (by rw [ht2]; omega) (by unfold maxLen; omega) (Nat.le_refl _) ?_; intro w1 hown hg; have hc := (OwnN.made hown).cell 0 hn1; have hf := (OwnN.made hown).frozen 0)
  have hB1 : Below w.heap.size w w1 := (Below.refl _ _).grown hg (Nat.le_refl _) (fun k hk => by cases hk)
  have hO := OwnN.made hown
  clear hown hg
  have hO2 := Lib.hid (hO.set 0 head)
  have hU2 : UpTo F 1 ((List.replicate n (0 : Int)).set 0 head) := by
    have := (UpTo.zero F (List.replicate n 0)).set (by simp; omega)
    rw [HF0.out] at this; exact this
  have HU2 := Lib.hid hU2
  have hB2 := hB1.setCell (p := ⟨w.heap.size, 0, none⟩) (Nat.le_refl _) (.int .i64 head)
  clear hO hU2
  clear hc hf
  generalize (w1.setCell ⟨w.heap.size, 0, none⟩ (.int .i64 head)) = w2 at *
  go_loopw [20] (fun i wr => ∃ (k : Nat) (N : List Int), k ≤ s.size ∧ i = .int .i64 k ∧ OwnN wr w.heap.size (some ⟨w.heap.size, 0, none⟩) n n N ∧ UpTo F (k + 1) N ∧ Below w.heap.size w wr)
    (fun i _ => s.size - (intOf i).toNat)
  case atStart => exact ⟨0, _, by omega, rfl, hO2.out, HU2.out, hB2⟩
  case round =>
    obtain ⟨k, N, hk, rfl, hown, hup, hb⟩ := hrel
    have hkn : k + 1 ≤ n := by have := HNN.out; omega
    by_cases hlt : k < s.size
    · have hkn2 : k + 1 < n := by have := HNN.out; omega
      obtain ⟨b0, off, rfl, hp⟩ := (h.kept hb).at k (by rw [HL.out, HNN.out]; omega)
      have c0 := hp k (by rw [HL.out, HNN.out]; omega)
      have c1 := hp (k + 1) (by rw [HL.out, HNN.out]; omega)
      have hb0 := block_lt_of_cell c0
      have d0 := hown.cell k (by omega)
      rw [hup k (by omega)] at d0
      have d1 := hown.cell (k + 1) hkn2
      have hf := hown.frozen (k + 1)
      have hb1 := HB.out k (by omega)
      have hb2 := HB.out (k + 1) (by omega)
      have hb3 := HN.out k (by omega)
      obtain ⟨hx0, hx1⟩ := hb1; obtain ⟨hy0, hy1⟩ := hb2; obtain ⟨hz0, hz1⟩ := hb3
      have hc := s[k].toNat_lt
      have he := eqP_at s b k hlt
      have HS := Lib.hid (HFs.out k)
      have hown2 := Lib.hid (hown.set (k + 1) (F (k + 1)))
      have hup2 := Lib.hid (hup.set (by rw [hown.len]; exact hkn2))
      clear hown hup h hp hO2 HU2
      have kw : IntKind.i64.wrap ((k : Int) + 1) = (k : Int) + 1 := by rw [IntKind.wrap_i64]; omega
      have k0 : (0 : Int) ≤ (k : Int) + 1 := by omega
      have k1 : (k : Int) + 1 < (n : Int) := by omega
      have kt : ((k : Int) + 1).toNat = k + 1 := by omega
      have kl : (k : Int) < (n : Int) := by omega
      generalize intAt L k = x at *
      generalize intAt L (k + 1) = y at *
      generalize F k = q at *
      cases hq : eqP s b k
      · have ht : ((s[k].toNat : Int) == b) = false := by rw [← he]; exact hq
        have ht2 : ((s[k].toNat : Int) != b) = true := by simpa using ht
        have HQ := Lib.hid hq
        clear he hq
        go_wp2_with fail
        go_region
        clear kw kt
        go_wp2
        go_roundw
        case rel =>
          have e : F (k + 1) = (if q + 1 < if y < x then y + 1 else x + 1 then q + 1 else if y < x then y + 1 else x + 1) := by
            rw [HS.out, HQ.out]; unfold min3; simp
          refine ⟨k + 1, N.set (k + 1) (F (k + 1)), by omega, by go_num, ?_, hup2.out, (hb.setCell (Nat.le_refl _) _).drew⟩
          rw [← e]; exact hown2.out
        case measure => simp [intOf]; omega
      · have ht : ((s[k].toNat : Int) == b) = true := by rw [← he]; exact hq
        have ht2 : ((s[k].toNat : Int) != b) = false := by simpa using ht
        have HQ := Lib.hid hq
        clear he hq
        go_wp2_with fail
        go_region
        clear kw kt
        go_wp2
        go_roundw
        case rel =>
          have e : F (k + 1) = (if q + 1 < if y + 1 < x then y + 1 else x then q + 1 else if y + 1 < x then y + 1 else x) := by
            rw [HS.out, HQ.out]; unfold min3; simp
          refine ⟨k + 1, N.set (k + 1) (F (k + 1)), by omega, by go_num, ?_, hup2.out, (hb.setCell (Nat.le_refl _) _).drew⟩
          rw [← e]; exact hown2.out
        case measure => simp [intOf]; omega
    · obtain rfl : k = s.size := by omega
      have HM := Lib.hid (UpTo.tab (n := n) (by have := HNN.out; rw [this]; exact hup) hown.len)
      go_wp2
      go_ret
      exact ⟨_, _, rfl, by rw [← HM.out]; exact hown, hb⟩
end Go.Proofs.Ytpniiaemgobaiaa

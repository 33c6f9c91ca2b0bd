/-
  Chapter 5: RowsDist, in the program: the column that rows keep, behind the interface.
-/
import Derived.Test.YtglldmfhjipacaaL4Col
import Derived.Test.YtglldmfhjipacaaL5Ok
namespace Go.Proofs.Ytglldmfhjipacaa
open Go.RowKit
set_option linter.unusedVariables false
set_option maxRecDepth 100000
/-- the first of the places from j on, below n, whose number has the bit; n: none has -/
def leastI (C : Nat → Int) (p n : Nat) : Nat → Nat
  | 0 => n
  | m + 1 => if bitI (C (n - (m + 1))) p = 1 then n - (m + 1) else leastI C p n m
theorem leastI_yes {C : Nat → Int} {p n j : Nat} (hj : j < n) (h : bitI (C j) p = 1) : leastI C p n (n - j) = j := by
  obtain ⟨m, hm⟩ : ∃ m, n - j = m + 1 := ⟨n - j - 1, by omega⟩
  have : n - (m + 1) = j := by omega
  rw [hm, leastI, this, if_pos h]
theorem leastI_no {C : Nat → Int} {p n j : Nat} (hj : j < n) (h : bitI (C j) p ≠ 1) : leastI C p n (n - j) = leastI C p n (n - (j + 1)) := by
  obtain ⟨m, hm⟩ : ∃ m, n - j = m + 1 := ⟨n - j - 1, by omega⟩
  have h1 : n - (m + 1) = j := by omega
  have h2 : n - (j + 1) = m := by omega
  rw [hm, leastI, h1, if_neg h, h2]
theorem leastI_le (C : Nat → Int) (p n : Nat) : ∀ m, leastI C p n m ≤ n := by
  intro m
  induction m with
  | zero => exact Nat.le_refl _
  | succ m ih => simp only [leastI]; split <;> omega
def lcF (C : Nat → Int) (n : Nat) : Nat → Int
  | 0 => 0
  | i + 1 => leastI C i n n
set_option maxHeartbeats 2000000 in
theorem impl_leastAt (L : List Int) (a : Option Addr) (n cap : Nat) (p : Nat) (pl : Int) (w : World) (hpl : pl = (p : Int)) (hp : p ≤ 62) (hn : L.length = n) (h : Ints w a L) (hlen : n ≤ 1048577) (hb : ∀ i, i < n → 0 ≤ intAt L i ∧ intAt L i ≤ 1048576) :
    Calls Try.prog 129 #[.agg #[.slice a n cap], .int .i64 pl] w fun e w' => e = .returned (.int .i64 (leastI (intAt L) p n n)) ∧ Below w.heap.size w w' := by
  have HN := Lib.hid hn; have HB := Lib.hid hb; have HP := Lib.hid hpl
  clear hn hb hpl
  go_enter Try.func129, Try.ntmps129
  go_wp2
  have hI := h.kept ((Below.refl w.heap.size w).alloc (Nat.le_refl _) (.cells #[.slice a n cap] 63))
  go_loopw [10] (fun i wr => ∃ j : Nat, j ≤ n ∧ i = .int .i64 j ∧ leastI (intAt L) p n n = leastI (intAt L) p n (n - j) ∧ w.alloc (.cells #[.slice a n cap] 63) = wr)
    (fun i _ => n - (intOf i).toNat)
  case atStart => exact ⟨0, by omega, rfl, rfl, rfl⟩
  case round =>
    obtain ⟨j, hj, rfl, hl, rfl⟩ := hrel
    have HL := Lib.hid hl; clear hl h
    by_cases hlt : j < n
    · obtain ⟨b, off, rfl, hpp⟩ := hI.at j (by rw [HN.out]; exact hlt)
      have c0 := hpp j (by rw [HN.out]; exact hlt)
      obtain ⟨hx0, hx1⟩ := HB.out j hlt
      have HY := fun h => Lib.hid (leastI_yes (C := intAt L) (p := p) hlt h)
      have HNo := fun h => Lib.hid (leastI_no (C := intAt L) (p := p) hlt h)
      have hx2 : intAt L j ≤ 4611686018427387903 := by omega
      clear hpp hI
      obtain ⟨x, hx⟩ : ∃ x, intAt L j = x := ⟨_, rfl⟩
      rw [hx] at c0 HY HNo hx0 hx1 hx2
      clear hx
      by_cases hbit : bitI x p = 1
      · have b1 : (bitI x p == 1) = true := by simp [hbit]
        have HY2 := HY hbit
        clear hbit HY HNo
        go_wp2_with (go_at_call 128; refine (impl_bitAt' _ p _ _ HP.out hx0 hx2 hp).mono ?_; rintro e w9 ⟨rfl, rfl⟩)
        go_ret
        exact ⟨by rw [HL.out, HY2.out]; rfl, (by repeat (first | exact Below.refl _ _ | assumption | (refine Below.drew ?_) | (refine below_drewN ?_ _) | (refine Below.alloc ?_ (by first | omega | (simp; done) | (simp; omega)) _) | (refine Below.setCell ?_ (by first | omega | (simp; done) | (simp; omega)) _)))⟩
      · have b1 : (bitI x p == 1) = false := by simp [hbit]
        have HN2 := HNo hbit
        clear hbit HY HNo
        go_wp2_with (go_at_call 128; refine (impl_bitAt' _ p _ _ HP.out hx0 hx2 hp).mono ?_; rintro e w9 ⟨rfl, rfl⟩)
        go_roundw
        case rel => exact ⟨j + 1, by omega, by go_num, by rw [HL.out, HN2.out], by first | rfl | trivial⟩
        case measure => simp [intOf]; omega
    · obtain rfl : j = n := by omega
      have hz : leastI (intAt L) p j (j - j) = j := by rw [Nat.sub_self]; rfl
      have HZ := Lib.hid hz; clear hz
      go_wp2
      go_ret
      exact ⟨by rw [HL.out, HZ.out]; rfl, (by repeat (first | exact Below.refl _ _ | assumption | (refine Below.drew ?_) | (refine below_drewN ?_ _) | (refine Below.alloc ?_ (by first | omega | (simp; done) | (simp; omega)) _) | (refine Below.setCell ?_ (by first | omega | (simp; done) | (simp; omega)) _)))⟩
theorem ta_rows_my (v : Value) (w : World) : (Instr.typeAssert (.iface 63 v) 108 146 true).run Try.prog w = .ok (.tuple #[.agg #[.int .i64 0, .int .i64 0, .int .i64 0], .bool false]) w := by kernel_rfl
theorem ta_rows (v : Value) (w : World) : (Instr.typeAssert (.iface 63 v) 108 63 true).run Try.prog w = .ok (.tuple #[v, .bool true]) w := by kernel_rfl
set_option maxHeartbeats 2000000 in
theorem impl_columnOf_rows (s : ByteArray) (k : Int) (f : Bool) (L : List Int) (a : Option Addr) (m cap : Nat) (w : World) (hs : s.size ≤ 20) (hm : L.length = m) (h : Ints w a L) (hlen : m ≤ 1048577) (hb : ∀ i, i < m → 0 ≤ intAt L i ∧ intAt L i ≤ 1048576) :
    Calls Try.prog 122 #[.agg #[.string s, .int .i64 k, .bool f], .iface 63 (.agg #[.slice a m cap])] w fun e w' => ∃ a' cap', e = .returned (.slice a' (s.size + 1) cap') ∧ OwnN w' w.heap.size a' (s.size + 1) cap' (tab (lcF (intAt L) m) (s.size + 1)) ∧ Below w.heap.size w w' := by
  obtain ⟨i0, hi, ht0, ht1, ht2⟩ := info_parts int_info
  obtain ⟨n, hn⟩ : ∃ n, n = s.size + 1 := ⟨_, rfl⟩
  rw [← hn]
  have hn2 : (s.size : Int) + 1 = (n : Int) := by omega
  have hn3 : n ≤ 21 := by omega
  have HN := Lib.hid hn2; clear hn2 hn
  have HM := Lib.hid hm; have HBB := Lib.hid hb; clear hm hb
  go_enter Try.func122, Try.ntmps122
  go_wp2_with (at_make; refine wpList_make_full _ rfl _ _ 61 rfl (w.heap.size + 1) 2 i0 (.int .i64 0) 1 Try.underlying61 hi ht0 ht1 _ _ _ _ n rfl rfl HN.out HN.out (by rw [ht2]; omega) (by unfold maxLen; omega) (by simp) ?_; intro w1 hown hg)
  have hB1 : Below w.heap.size w w1 := ((by repeat (first | exact Below.refl _ _ | assumption | (refine Below.drew ?_) | (refine below_drewN ?_ _) | (refine Below.alloc ?_ (by first | omega | (simp; done) | (simp; omega)) _) | (refine Below.setCell ?_ (by first | omega | (simp; done) | (simp; omega)) _))) : Below w.heap.size w _).grown hg (by simp) (fun k hk => by cases hk)
  have hO := OwnN.made hown
  have hsz : (w.alloc (.cells #[.string s, .int .i64 k, .bool f] 48)).heap.size = w.heap.size + 1 := by simp
  rw [hsz] at hO
  have hU1 : UpTo (lcF (intAt L) m) 1 (List.replicate n 0) := by
    intro i hi
    obtain rfl : i = 0 := by omega
    simp only [intAt, List.getD_eq_getElem?_getD, List.getElem?_replicate]
    split <;> rfl
  have hs1 : 1 ≤ n := by have := HN.out; omega
  clear hown hg
  go_loopw [6] (fun i wr => ∃ (j : Nat) (M : List Int), 1 ≤ j ∧ j ≤ n ∧ i = .int .i64 j ∧ OwnN wr (w.heap.size + 1) (some ⟨w.heap.size + 1, 0, none⟩) n n M ∧ UpTo (lcF (intAt L) m) j M ∧ Below w.heap.size w wr)
    (fun i _ => n - (intOf i).toNat)
  case atStart => exact ⟨1, _, by omega, by omega, rfl, hO, hU1, hB1⟩
  case round =>
    obtain ⟨j, M, hj0, hj, rfl, hown, hup, hb⟩ := hrel
    by_cases hlt : j < n
    · have he : lcF (intAt L) m j = leastI (intAt L) (j - 1) m m := by
        obtain ⟨q, rfl⟩ : ∃ q, j = q + 1 := ⟨j - 1, by omega⟩
        rfl
      have hta := ta_rows (.agg #[.slice a m cap])
      have htm := ta_rows_my (.agg #[.slice a m cap])
      have hsz1 : w.heap.size + 1 < wr.heap.size := hown.base.2
      have hup2 := Lib.hid (hup.set (by rw [hown.len]; exact hlt))
      have j0 : (1 : Int) ≤ (j : Int) := by omega
      have j3 : (j : Int) < (n : Int) := by omega
      have ju : (j : Int) - 1 = ((j - 1 : Nat) : Int) := by omega
      have JU := Lib.hid ju; clear ju
      have hj62 : j - 1 ≤ 62 := by omega
      have HE := Lib.hid he; have HO := Lib.hid hown
      have hI := h.kept hb
      clear he hown hup hO hU1
      go_wp2_with fail
      refine (impl_leastAt L a m cap (j - 1) _ _ JU.out hj62 HM.out (hI.kept ((Below.refl wr.heap.size wr).alloc (Nat.le_refl _) (.cells #[.slice a m cap] 63))) hlen HBB.out).mono ?_
      rintro e w2 ⟨rfl, hb2⟩
      rw [← HE.out]
      have hA := (Below.refl wr.heap.size wr).alloc (Nat.le_refl _) (.cells #[.slice a m cap] 63)
      have hO2 := (HO.out.kept hA).kept hb2
      have hB2 := below_step (hb.alloc hb.size (.cells #[.slice a m cap] 63)) hb2
      have hc := hO2.cell j hlt
      have hf := hO2.frozen j
      have hown2 := Lib.hid (hO2.set j (lcF (intAt L) m j))
      clear hO2 hb2 hA
      go_wp2_with fail
      go_roundw
      case rel => exact ⟨j + 1, M.set j (lcF (intAt L) m j), by omega, by omega, by go_num, hown2.out, hup2.out, hB2.setCell (p := ⟨w.heap.size + 1, j, none⟩) (Nat.le_succ _) _⟩
      case measure => simp [intOf]; omega
    · obtain rfl : j = n := by omega
      have HMM := Lib.hid (hup.tab hown.len)
      clear hup
      go_wp2
      go_ret
      exact ⟨_, _, rfl, by rw [← HMM.out]; exact hown.mono (by omega), hb⟩
end Go.Proofs.Ytglldmfhjipacaa

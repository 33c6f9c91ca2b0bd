/-
  Chapter 6: CutDist: the column that is cut off, whole, in the program and in its model.
-/
import Derived.Test.YtglldmfhjipacaaL6OkL
namespace Go.Proofs.Ytglldmfhjipacaa
open Go.RowKit
set_option linter.unusedVariables false
set_option maxRecDepth 100000
/-- the numbers that are kept, and the one number of all that is cut off -/
def wholeF (L : List Int) (n : Nat) (y : Int) (i : Nat) : Int := if i < n then intAt L i else y
theorem wholeF_lt {L : List Int} {n : Nat} {y : Int} {i : Nat} (h : i < n) : wholeF L n y i = intAt L i := by simp [wholeF, h]
theorem wholeF_ge {L : List Int} {n : Nat} {y : Int} {i : Nat} (h : n ≤ i) : wholeF L n y i = y := by simp [wholeF, Nat.not_lt.2 h]
theorem tab_whole {L : List Int} {n : Nat} (y : Int) (hn : L.length = n) : tab (wholeF L n y) n = L :=
  (tab_of hn fun i hi => (wholeF_lt hi).symm).symm
set_option maxHeartbeats 2000000 in
theorem impl_numberAt (L : List Int) (x : Int) (a : Option Addr) (n cap : Nat) (i : Nat) (il : Int) (y : Int) (w : World) (hil : il = (i : Int)) (hi1 : i ≤ 1048577) (hn : L.length = n) (h : Ints w a L) (hlen : n ≤ 1048577) :
    Calls Try.prog 130 #[.agg #[.slice a n cap, .int .i64 x], .int .i64 il, .int .i64 y] w fun e w' => e = .returned (.int .i64 (wholeF L n y i)) ∧ Below w.heap.size w w' := by
  subst hil
  by_cases hlt : i < n
  · obtain ⟨b, off, rfl, hp⟩ := h.at i (by rw [hn]; exact hlt)
    have c0 := hp i (by rw [hn]; exact hlt)
    have hbl := block_lt_of_cell c0
    simp only at hbl
    have HF := Lib.hid (wholeF_lt (L := L) (y := y) hlt)
    have ht : (i : Int) < (n : Int) := by omega
    clear hp h hn
    go_enter Try.func130, Try.ntmps130
    go_wp2
    go_ret
    exact ⟨by rw [HF.out]; rfl, (by repeat (first | exact Below.refl _ _ | assumption | (refine Below.drew ?_) | (refine below_drewN ?_ _) | (refine Below.alloc ?_ (by first | omega | (simp; done) | (simp; omega)) _) | (refine Below.setCell ?_ (by first | omega | (simp; done) | (simp; omega)) _)))⟩
  · have HF := Lib.hid (wholeF_ge (L := L) (n := n) (y := y) (i := i) (by omega))
    have ht : ¬ (i : Int) < (n : Int) := by omega
    clear h hn
    go_enter Try.func130, Try.ntmps130
    go_wp2
    go_ret
    exact ⟨by rw [HF.out]; rfl, (by repeat (first | exact Below.refl _ _ | assumption | (refine Below.drew ?_) | (refine below_drewN ?_ _) | (refine Below.alloc ?_ (by first | omega | (simp; done) | (simp; omega)) _) | (refine Below.setCell ?_ (by first | omega | (simp; done) | (simp; omega)) _)))⟩
theorem ta_cut_my (v : Value) (w : World) : (Instr.typeAssert (.iface 79 v) 108 146 true).run Try.prog w = .ok (.tuple #[.agg #[.int .i64 0, .int .i64 0, .int .i64 0], .bool false]) w := by kernel_rfl
theorem ta_cut_rows (v : Value) (w : World) : (Instr.typeAssert (.iface 79 v) 108 63 true).run Try.prog w = .ok (.tuple #[.agg #[.slice none 0 0], .bool false]) w := by kernel_rfl
theorem ta_cut (v : Value) (w : World) : (Instr.typeAssert (.iface 79 v) 108 79 true).run Try.prog w = .ok (.tuple #[v, .bool true]) w := by kernel_rfl
set_option maxHeartbeats 2000000 in
theorem impl_columnOf_cut (s : ByteArray) (k : Int) (f : Bool) (L : List Int) (x : Int) (a : Option Addr) (m cap : Nat) (w : World) (hs : s.size ≤ 20) (hk0 : 0 ≤ k) (hk1 : k ≤ 4) (hm : L.length = m) (h : Ints w a L) (hlen : m ≤ 1048577) (hz : wholeF L m (k + 1) 0 = 0) :
    Calls Try.prog 122 #[.agg #[.string s, .int .i64 k, .bool f], .iface 79 (.agg #[.slice a m cap, .int .i64 x])] w fun e w' => ∃ a' cap', e = .returned (.slice a' (s.size + 1) cap') ∧ OwnN w' w.heap.size a' (s.size + 1) cap' (tab (wholeF L m (k + 1)) (s.size + 1)) ∧ Below w.heap.size w w' := by
  obtain ⟨i0, hi, ht0, ht1, ht2⟩ := info_parts int_info
  obtain ⟨n, hn⟩ : ∃ n, n = s.size + 1 := ⟨_, rfl⟩
  rw [← hn]
  have hn2 : (s.size : Int) + 1 = (n : Int) := by omega
  have hn3 : n ≤ 21 := by omega
  have HN := Lib.hid hn2; clear hn2 hn
  have HM := Lib.hid hm; clear hm
  go_enter Try.func122, Try.ntmps122
  go_wp2_with (at_make; refine wpList_make_full _ rfl _ _ 61 rfl (w.heap.size + 1) 2 i0 (.int .i64 0) 1 Try.underlying61 hi ht0 ht1 _ _ _ _ n rfl rfl HN.out HN.out (by rw [ht2]; omega) (by unfold maxLen; omega) (by simp) ?_; intro w1 hown hg)
  have hB1 : Below w.heap.size w w1 := ((by repeat (first | exact Below.refl _ _ | assumption | (refine Below.drew ?_) | (refine below_drewN ?_ _) | (refine Below.alloc ?_ (by first | omega | (simp; done) | (simp; omega)) _) | (refine Below.setCell ?_ (by first | omega | (simp; done) | (simp; omega)) _))) : Below w.heap.size w _).grown hg (by simp) (fun k hk => by cases hk)
  have hO := OwnN.made hown
  have hsz : (w.alloc (.cells #[.string s, .int .i64 k, .bool f] 48)).heap.size = w.heap.size + 1 := by simp
  have mk1 : w1.cell? ⟨w.heap.size, 1, none⟩ = some (.int .i64 k) := by
    have hB1' : Below (w.heap.size + 1) (w.alloc (.cells #[.string s, .int .i64 k, .bool f] 48)) w1 := (Below.refl _ _).grown hg (by simp) (fun k hk => by cases hk)
    rw [hB1'.cell (p := ⟨w.heap.size, 1, none⟩) (Nat.lt_succ_self _)]; go_simp
  rw [hsz] at hO
  have hU1 : UpTo (wholeF L m (k + 1)) 1 (List.replicate n 0) := by
    intro i hi
    obtain rfl : i = 0 := by omega
    rw [hz]
    simp only [intAt, List.getD_eq_getElem?_getD, List.getElem?_replicate]
    split <;> rfl
  have hs1 : 1 ≤ n := by have := HN.out; omega
  have hsz1 : w.heap.size + 1 < w1.heap.size := hO.base.2
  clear hown hg hz
  go_loopw [6] (fun i wr => ∃ (j : Nat) (M : List Int), 1 ≤ j ∧ j ≤ n ∧ i = .int .i64 j ∧ OwnN wr (w.heap.size + 1) (some ⟨w.heap.size + 1, 0, none⟩) n n M ∧ UpTo (wholeF L m (k + 1)) j M ∧ Below w.heap.size w wr ∧ wr.cell? ⟨w.heap.size, 1, none⟩ = some (.int .i64 k))
    (fun i _ => n - (intOf i).toNat)
  case atStart => exact ⟨1, _, by omega, by omega, rfl, hO, hU1, hB1, mk1⟩
  case round =>
    obtain ⟨j, M, hj0, hj, rfl, hown, hup, hb, hck⟩ := hrel
    by_cases hlt : j < n
    · have hta := ta_cut (.agg #[.slice a m cap, .int .i64 x])
      have htm := ta_cut_my (.agg #[.slice a m cap, .int .i64 x])
      have htr := ta_cut_rows (.agg #[.slice a m cap, .int .i64 x])
      have hsz1 : w.heap.size + 1 < wr.heap.size := hown.base.2
      have hsz0 : w.heap.size < wr.heap.size := by omega
      have hup2 := Lib.hid (hup.set (by rw [hown.len]; exact hlt))
      have j0 : (1 : Int) ≤ (j : Int) := by omega
      have j3 : (j : Int) < (n : Int) := by omega
      have HO := Lib.hid hown
      have hI := h.kept hb
      clear hown hup hO hU1
      go_wp2_with fail
      refine (impl_numberAt L x a m cap j _ _ _ rfl (by omega) HM.out (hI.kept ((Below.refl wr.heap.size wr).alloc (Nat.le_refl _) (.cells #[.slice a m cap, .int .i64 x] 79))) hlen).mono ?_
      rintro e w2 ⟨rfl, hb2⟩
      have hA := (Below.refl wr.heap.size wr).alloc (Nat.le_refl _) (.cells #[.slice a m cap, .int .i64 x] 79)
      have hO2 := (HO.out.kept hA).kept hb2
      have hB2 := below_step (hb.alloc hb.size (.cells #[.slice a m cap, .int .i64 x] 79)) hb2
      have hB9 := below_step hA hb2
      have hck2 := (hB9.cell (p := ⟨w.heap.size, 1, none⟩) (by show w.heap.size < _; omega)).trans hck
      have hc := hO2.cell j hlt
      have hf := hO2.frozen j
      have hown2 := Lib.hid (hO2.set j (wholeF L m (k + 1) j))
      have hck3 : (w2.setCell ⟨w.heap.size + 1, j, none⟩ (.int .i64 (wholeF L m (k + 1) j))).cell? ⟨w.heap.size, 1, none⟩ = some (.int .i64 k) := by go_simp
      clear hO2 hb2 hA hB9
      go_wp2_with fail
      go_roundw
      case rel => exact ⟨j + 1, M.set j (wholeF L m (k + 1) j), by omega, by omega, by go_num, hown2.out, hup2.out, hB2.setCell (p := ⟨w.heap.size + 1, j, none⟩) (Nat.le_succ _) _, hck3⟩
      case measure => simp [intOf]; omega
    · obtain rfl : j = n := by omega
      have HMM := Lib.hid (hup.tab hown.len)
      clear hup
      go_wp2
      go_ret
      exact ⟨_, _, rfl, by rw [← HMM.out]; exact hown.mono (by omega), hb⟩
end Go.Proofs.Ytglldmfhjipacaa

/-
  Chapter 4: the column of the bits: columnOf and its model.
-/
import Derived.Test.YtglldmfhjipacaaRowLaw
import Derived.Test.YtglldmfhjipacaaBits
import Derived.Test.YtglldmfhjipacaaOwnMore
import Derived.Test.YtglldmfhjipacaaL3OkS
import Derived.Deep.RegionLaw
namespace Go.Proofs.Ytglldmfhjipacaa
open Go.RowKit
set_option linter.unusedVariables false
set_option maxRecDepth 100000
/-- the bit of a number that is not below 0 -/
def bitI (x : Int) (i : Nat) : Int := (x / 2 ^ i) % 2
theorem bitI_01 (x : Int) (i : Nat) : 0 ≤ bitI x i ∧ bitI x i ≤ 1 := by unfold bitI; omega
def colF (u d : Int) : Nat → Int
  | 0 => 0
  | i + 1 => colF u d i + bitI u i - bitI d i
theorem colF_bnd (u d : Int) (i : Nat) : -(i : Int) ≤ colF u d i ∧ colF u d i ≤ i := by
  induction i with
  | zero => simp [colF]
  | succ i ih =>
    have h1 := bitI_01 u i; have h2 := bitI_01 d i
    simp only [colF]; omega
theorem and_one (x : Int) (h0 : 0 ≤ x) (h1 : x < 2 ^ 62) : bits .and .i64 x 1 = x % 2 :=
  bits_mask .i64 62 (by decide) wraps_i64 1 (by decide) x h0 h1
set_option maxHeartbeats 1000000 in
theorem impl_bitAt (x : Int) (i : Nat) (w : World) (h0 : 0 ≤ x) (h1 : x ≤ 4611686018427387903) (hi : i ≤ 62) :
    Calls Try.prog 128 #[.int .i64 x, .int .i64 i] w fun e w' => e = .returned (.int .i64 (bitI x i)) ∧ w = w' := by
  have hd0 : 0 ≤ x / 2 ^ i := Int.ediv_nonneg h0 (Int.pow_nonneg (by decide))
  have hd1 : x / 2 ^ i ≤ x := Int.ediv_le_self _ h0
  have H := Lib.hid (and_one (x / 2 ^ i) hd0 (by omega))
  go_enter Try.func128, Try.ntmps128
  go_wp2
  go_ret
  exact ⟨by rw [H.out]; rfl, rfl⟩
theorem impl_bitAt' (x : Int) (i : Nat) (p : Int) (w : World) (hp : p = (i : Int)) (h0 : 0 ≤ x) (h1 : x ≤ 4611686018427387903) (hi : i ≤ 62) :
    Calls Try.prog 128 #[.int .i64 x, .int .i64 p] w fun e w' => e = .returned (.int .i64 (bitI x i)) ∧ w = w' := by
  subst hp; exact impl_bitAt x i w h0 h1 hi
theorem ta_myers (u d t : Int) (w : World) : (Instr.typeAssert (.iface 146 (.agg #[.int .i64 u, .int .i64 d, .int .i64 t])) 108 146 true).run Try.prog w = .ok (.tuple #[.agg #[.int .i64 u, .int .i64 d, .int .i64 t], .bool true]) w := by kernel_rfl
set_option maxHeartbeats 2000000 in
theorem impl_columnOf_myers (s : ByteArray) (k : Int) (f : Bool) (u d t : Int) (w : World) (hs : s.size ≤ 20) (hu : 0 ≤ u ∧ u ≤ 1048576) (hd : 0 ≤ d ∧ d ≤ 1048576) :
    Calls Try.prog 122 #[.agg #[.string s, .int .i64 k, .bool f], .iface 146 (.agg #[.int .i64 u, .int .i64 d, .int .i64 t])] w fun e w' => ∃ a' cap', e = .returned (.slice a' (s.size + 1) cap') ∧ OwnN w' w.heap.size a' (s.size + 1) cap' (tab (colF u d) (s.size + 1)) ∧ Below w.heap.size w w' := by
  obtain ⟨i0, hi, ht0, ht1, ht2⟩ := info_parts int_info
  obtain ⟨n, hn⟩ : ∃ n, n = s.size + 1 := ⟨_, rfl⟩
  rw [← hn]
  have hn2 : (s.size : Int) + 1 = (n : Int) := by omega
  have hn3 : n ≤ 21 := by omega
  have HN := Lib.hid hn2; clear hn2 hn
  go_enter Try.func122, Try.ntmps122
  go_wp2_with (at_make; refine wpList_make_full _ rfl _ _ 61 rfl (w.heap.size + 1) 2 i0 (.int .i64 0) 1 Try.underlying61 hi ht0 ht1 _ _ _ _ n rfl rfl HN.out HN.out (by rw [ht2]; omega) (by unfold maxLen; omega) (by simp) ?_; intro w1 hown hg)
  have hB1 : Below w.heap.size w w1 := ((by repeat (first | exact Below.refl _ _ | assumption | (refine Below.drew ?_) | (refine below_drewN ?_ _) | (refine Below.alloc ?_ (by first | omega | (simp; done) | (simp; omega)) _) | (refine Below.setCell ?_ (by first | omega | (simp; done) | (simp; omega)) _))) : Below w.heap.size w _).grown hg (by simp) (fun k hk => by cases hk)
  have hO := OwnN.made hown
  have hsz : (w.alloc (.cells #[.string s, .int .i64 k, .bool f] 48)).heap.size = w.heap.size + 1 := by simp
  rw [hsz] at hO
  have hU1 : UpTo (colF u d) 1 (List.replicate n 0) := by
    intro i hi
    obtain rfl : i = 0 := by omega
    simp only [intAt, List.getD_eq_getElem?_getD, List.getElem?_replicate]
    split <;> rfl
  have hs1 : 1 ≤ n := by have := HN.out; omega
  clear hown hg
  go_loopw [6] (fun i wr => ∃ (j : Nat) (M : List Int), 1 ≤ j ∧ j ≤ n ∧ i = .int .i64 j ∧ OwnN wr (w.heap.size + 1) (some ⟨w.heap.size + 1, 0, none⟩) n n M ∧ UpTo (colF u d) j M ∧ Below w.heap.size w wr)
    (fun i _ => n - (intOf i).toNat)
  case atStart => exact ⟨1, _, by omega, by omega, rfl, hO, hU1, hB1⟩
  case round =>
    obtain ⟨j, M, hj0, hj, rfl, hown, hup, hb⟩ := hrel
    by_cases hlt : j < n
    · have hc := hown.cell j hlt
      have hf := hown.frozen j
      have hp := hown.cell (j - 1) (by omega)
      rw [hup (j - 1) (by omega)] at hp
      have hx := colF_bnd u d (j - 1)
      have hbu := bitI_01 u (j - 1)
      have hbd := bitI_01 d (j - 1)
      have he : colF u d j = colF u d (j - 1) + bitI u (j - 1) - bitI d (j - 1) := by
        obtain ⟨q, rfl⟩ : ∃ q, j = q + 1 := ⟨j - 1, by omega⟩
        rfl
      have hta := ta_myers u d t
      have hbase := hown.base
      have hsz1 : w.heap.size + 1 < wr.heap.size := hbase.2
      have hown2 := Lib.hid ((hown.set j (colF u d j)).kept ((Below.refl _ (wr.setCell ⟨w.heap.size + 1, j, none⟩ (.int .i64 (colF u d j)))).alloc (Nat.le_refl _) (.cells #[.int .i64 u, .int .i64 d, .int .i64 t] 146)))
      have hb2 := ((hb.setCell (p := ⟨w.heap.size + 1, j, none⟩) (Nat.le_succ _) (.int .i64 (colF u d j))).alloc (by have := hb.size; simp [World.setCell]; omega) (.cells #[.int .i64 u, .int .i64 d, .int .i64 t] 146)).drew
      have hup2 := Lib.hid (hup.set (by rw [hown.len]; exact hlt))
      have j0 : (1 : Int) ≤ (j : Int) := by omega
      have j1 : (j : Int) - 1 < (n : Int) := by omega
      have j2 : j - 1 < n := by omega
      have j3 : (j : Int) < (n : Int) := by omega
      have j4 : (0 : Int) ≤ (j : Int) := by omega
      have j5 : ((j : Int) - 1).toNat = j - 1 := by omega
      have jw : IntKind.i64.wrap ((j : Int) - 1) = (j : Int) - 1 := by rw [IntKind.wrap_i64]; omega
      have e1 : IntKind.i64.wrap (colF u d (j - 1) + bitI u (j - 1)) = colF u d (j - 1) + bitI u (j - 1) := by rw [IntKind.wrap_i64]; omega
      have e2 : IntKind.i64.wrap (colF u d (j - 1) + bitI u (j - 1) - bitI d (j - 1)) = colF u d (j - 1) + bitI u (j - 1) - bitI d (j - 1) := by rw [IntKind.wrap_i64]; omega
      have JW := Lib.hid jw; have E1 := Lib.hid e1; have E2 := Lib.hid e2; have HE := Lib.hid he
      clear jw e1 e2 he hown hup hO hU1
      have hj62 : j - 1 ≤ 62 := by omega
      have ju : (j : Int) - 1 = ((j - 1 : Nat) : Int) := by omega
      have JU := Lib.hid ju; clear ju
      have jw := JW.out; have e1 := E1.out; have e2 := E2.out
      obtain ⟨hu0, hu1⟩ := hu
      obtain ⟨hd0, hd1⟩ := hd
      have hu2 : u ≤ 4611686018427387903 := by omega
      have hd2 : d ≤ 4611686018427387903 := by omega
      go_wp2_with fail
      go_region_law ((go_simp; go_at_call 128; (with_reducible refine (impl_bitAt' _ (j - 1) _ _ JU.out ?_ ?_ hj62).mono ?_); (first | exact hu0 | exact hd0); (first | exact hu2 | exact hd2); rintro e w9 ⟨rfl, rfl⟩))
      all_goals
        clear jw e1 e2
        go_wp2
        go_roundw
        case rel =>
          refine ⟨j + 1, M.set j (colF u d j), by omega, by omega, by go_num, ?_, hup2.out, ?_⟩
          · rw [← HE.out]; exact hown2.out
          · rw [← HE.out]; exact hb2
        case measure => simp [intOf]; omega
    · obtain rfl : j = n := by omega
      have HM := Lib.hid (hup.tab hown.len)
      clear hup
      go_wp2
      go_ret
      exact ⟨_, _, rfl, by rw [← HM.out]; exact hown.mono (by omega), hb⟩
end Go.Proofs.Ytglldmfhjipacaa

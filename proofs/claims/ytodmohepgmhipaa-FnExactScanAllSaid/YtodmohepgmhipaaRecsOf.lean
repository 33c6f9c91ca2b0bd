/-
  Chapter 9: recsOf: ends as records of one pattern.
-/
import Derived.Test.YtodmohepgmhipaaStructs
import Derived.Maps.AppendAt
namespace Go.Proofs.Ytodmohepgmhipaa
open Go.RowKit
set_option linter.unusedVariables false
set_option maxRecDepth 100000
theorem recInfo : (Try.prog.info? 106).map (fun i => (i.zero, i.size, i.bytes)) = some (some (.agg #[.int .i64 0, .int .i64 0, .int .i64 0]), 3, 24) := by kernel_rfl
/-- the records of the first i of some ends: pattern, place, number in turn -/
def recL (P : Int) (L : List Int) : Nat → List Int
  | 0 => []
  | i + 1 => recL P L i ++ [P, intAt L (i * 2), intAt L (i * 2 + 1)]
theorem recL_length (P : Int) (L : List Int) (i : Nat) : (recL P L i).length = i * 3 := by
  induction i with
  | zero => rfl
  | succ i ih => simp only [recL, List.length_append, ih, List.length_cons, List.length_nil]; omega
set_option maxHeartbeats 2000000 in
theorem impl_recsOf (P : Int) (L : List Int) (a : Option Addr) (n cap : Nat) (w : World) (hn : L.length = n * 2) (h : Ints w a L) (hlen : n ≤ 1048576) :
    Calls Try.prog 65 #[.int .i64 P, .slice a n cap] w fun e w' => ∃ a' cap', e = .returned (.slice a' n cap') ∧ OwnM 106 3 w' w.heap.size a' n cap' (recL P L n) ∧ Below w.heap.size w w' := by
  obtain ⟨i0, hi, ht0, ht1, ht2⟩ := info_parts recInfo
  have HN := Lib.hid hn; clear hn
  go_enter Try.func65, Try.ntmps65
  go_wp2
  go_loopw [5, 10] (fun o i wr => ∃ (k : Nat) (a' : Option Addr) (cap' : Nat), k ≤ n ∧ i = .int .i64 k ∧ o = .slice a' k cap' ∧ OwnM 106 3 wr w.heap.size a' k cap' (recL P L k) ∧ Below w.heap.size w wr)
    (fun _ i _ => n - (intOf i).toNat)
  case atStart => exact ⟨0, none, 0, by omega, rfl, rfl, OwnM.nil _ _, Below.refl _ _⟩
  case round =>
    obtain ⟨k, a', cap', hk, rfl, rfl, hO, hb⟩ := hrel
    by_cases hlt : k < n
    · obtain ⟨b, off, rfl, hp⟩ := (h.kept hb).at (k * 2) (by rw [HN.out]; omega)
      have c1 := hp (k * 2) (by rw [HN.out]; omega)
      have c2 := hp (k * 2 + 1) (by rw [HN.out]; omega)
      rw [← Nat.add_assoc] at c2
      have HR := Lib.hid (show recL P L (k + 1) = recL P L k ++ [P, intAt L (k * 2), intAt L (k * 2 + 1)] from rfl)
      have HRL := Lib.hid (recL_length P L (k + 1))
      generalize intAt L (k * 2) = x at *
      generalize intAt L (k * 2 + 1) = y at *
      have hlb := block_lt_of_cell c1
      simp only at hlb
      have HC : ∀ j u, [Value.int .i64 P, .int .i64 x, .int .i64 y][j]? = some u → ((wr.alloc (.cells #[.int .i64 x, .int .i64 y] 135)).alloc (.cells #[.int .i64 P, .int .i64 x, .int .i64 y] 106)).cell? ((⟨wr.heap.size + 1, 0, none⟩ : Addr).add j) = some u := by
        have := cells_new (wr.alloc (.cells #[.int .i64 x, .int .i64 y] 135)) #[.int .i64 P, .int .i64 x, .int .i64 y] 106
        simpa using this
      have hBK : Below wr.heap.size wr ((wr.alloc (.cells #[.int .i64 x, .int .i64 y] 135)).alloc (.cells #[.int .i64 P, .int .i64 x, .int .i64 y] 106)) := ((Below.refl _ _).alloc (Nat.le_refl _) _).alloc (by simp) _
      have HK := Lib.hid (hO.kept hBK)
      have HB := Lib.hid (hb.trans (hBK.mono hb.size))
      have HS := Lib.hid hb.size
      have HCC := Lib.hid HC
      clear hO hp h hBK HC
      go_wp2_with (at_builtin; refine wpList_append_own _ rfl _ _ 37 rfl w.heap.size 106 i0 (.agg #[.int .i64 0, .int .i64 0, .int .i64 0]) 3 24 Try.underlying37 hi ht0 ht1 ht2 rfl (by decide) _ _ _ rfl HK.out.2 ⟨wr.heap.size + 1, 0, none⟩ 1 1 [.int .i64 P, .int .i64 x, .int .i64 y] rfl rfl HCC.out (by simp [Value.oneCell']) (by unfold maxLen; omega) (by omega) (by have := HS.out; simp; omega) ?_; intro v' w3 hown' hg _; obtain ⟨a2, cap2, rfl, hO'⟩ := OwnM.shape HRL.out (by rw [HR.out, List.map_append]; exact hown'); have HO2 := Lib.hid hO'; have HB2 := Lib.hid (HK.out.turn (by have := HS.out; simp; omega) hg); clear hown' hg hO')
      go_roundw
      case rel => exact ⟨k + 1, a2, cap2, by omega, by go_num, rfl, HO2.out, HB.out.trans HB2.out⟩
      case measure => simp [intOf]; omega
    · obtain rfl : k = n := by omega
      go_wp2
      go_ret
      exact ⟨_, _, rfl, hO, hb⟩
end Go.Proofs.Ytodmohepgmhipaa

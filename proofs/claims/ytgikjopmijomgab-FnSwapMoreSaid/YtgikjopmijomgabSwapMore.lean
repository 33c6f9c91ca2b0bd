/-
  FnSwapMore: the walk (by wip/tools/mk_swapmore.py).
-/
import Derived.Test.YtgikjopmijomgabSwapLeast
import Derived.Test.YtgikjopmijomgabL18Es
import Derived.Test.YtgikjopmijomgabMoreEnds
import Derived.Test.YtgikjopmijomgabSameEnds
import Derived.Test.YtgikjopmijomgabSwapDraw
import Derived.Test.YtgikjopmijomgabSwapEndsF
namespace Go.Proofs.Ytgikjopmijomgab
open Go.RowKit
set_option linter.unusedVariables false
set_option maxRecDepth 100000
set_option maxHeartbeats 4000000 in
theorem law_FnSwapMore (a : Option Addr) (len cap : Nat) (z : List Int) (w : World) (hr : IsRow .u8 w a len cap z) :
    Calls Try.prog 6 #[.slice a len cap] w fun e w' => e = .returned (.bool true) ∧ Below w.heap.size w w' := by
  by_cases hl : len ≤ 1048576
  · have hbig : decide (1048576 < (len : Int)) = false := by simp; omega
    go_enter Try.func6, Try.ntmps6
    go_wp2_with (go_at_call 9; refine (laws_big _ _ _ _ (by omega)).mono ?_; rintro e w' ⟨rfl, rfl⟩)
    refine (drawSwapEnds _ _ _ _ _ hr hl).mono ?_
    rintro e w1 ⟨s, k, f, t, rfl, hs, hk, ht, hb1⟩
    go_wp2_with fail
    have hr1 := heap_alloc_new w1 (.cells #[.string s, .int .i64 k, .bool f] 36)
    have HB := hb1.alloc hb1.size (.cells #[.string s, .int .i64 k, .bool f] 36)
    have hBl : w1.heap.size < (w1.alloc (.cells #[.string s, .int .i64 k, .bool f] 36)).heap.size := by simp
    generalize (w1.alloc (.cells #[.string s, .int .i64 k, .bool f] 36)) = V at *
    have hwB := hb1.size
    generalize w1.heap.size = B at *
    have hln := swEndsL_len s k f t
    have hs1 : s.size ≤ 1048576 := by omega
    have ht1 : t.size ≤ 1048576 := by omega
    clear hb1
    refine (impl_swapEnds s k f t _ hs1 ht1).mono ?_
    rintro e w3 ⟨a3, n3, cap3, rfl, hL, hb3⟩
    have RB0 := (hb3.block B hBl).trans hr1
    have HB := HB.trans (hb3.mono HB.size)
    have hBl : B < w3.heap.size := by have := hb3.size; omega
    have hn : n3 ≤ 201 := by have := hL.len; omega
    have hln2 : n3 ≤ 1048577 := by omega
    have HLN := Lib.hid hL.len
    have n0 : w3.cell? ⟨B, 0, none⟩ = some (.string s) := by rw [cell_of_row _ _ 0 _ _ _ RB0]; rfl
    have n1 : w3.cell? ⟨B, 1, none⟩ = some (.int .i64 k) := by rw [cell_of_row _ _ 1 _ _ _ RB0]; rfl
    have n2 : w3.cell? ⟨B, 2, none⟩ = some (.bool f) := by rw [cell_of_row _ _ 2 _ _ _ RB0]; rfl
    obtain ⟨k1, hk1e⟩ : ∃ k1, IntKind.i64.wrap (k + 1) = k1 := ⟨_, rfl⟩
    have hbne : ¬ B = w3.heap.size := by omega
    have HRB0 := Lib.hid RB0
    have HL0 := Lib.hid hL; have HB0 := Lib.hid HB
    clear hb3 hr1 RB0 hL HB
    go_wp2_with fail
    obtain ⟨U, hU⟩ : ∃ U, w3.alloc (.cells #[.string s, .int .i64 k1, .bool f] 36) = U := ⟨_, rfl⟩
    have us : U.heap.size = w3.heap.size + 1 := by rw [← hU]; simp
    have hb5 : Below w3.heap.size w3 U := by rw [← hU]; exact (Below.refl _ w3).alloc (Nat.le_refl _) _
    have RB := Lib.hid (show U.heap[B]? = some (.cells #[.string s, .int .i64 k, .bool f] 36 (0, 0)) by rw [← hU]; exact (Below.heap_alloc w3 _ B hBl).trans HRB0.out)
    have RC : Hid (U.heap[w3.heap.size]? = some (.cells #[.string s, .int .i64 k1, .bool f] 36 (0, 0))) := by
      show _ = _
      rw [← hU]; exact heap_alloc_new _ _
    have HL := Lib.hid (HL0.out.kept hb5)
    have HB := HB0.out.trans (hb5.mono HB0.out.size)
    rw [hU]
    have hBU : B < U.heap.size := by omega
    have hCU : w3.heap.size < U.heap.size := by omega
    obtain ⟨C, hC⟩ : ∃ C, w3.heap.size = C := ⟨_, rfl⟩
    rw [hC] at RC hCU ⊢
    have K1 := Lib.hid hk1e
    clear hU hb5 HRB0 HL0 HB0 n0 n1 n2 hbne us hC hBl hk1e
    have n0 : U.cell? ⟨B, 0, none⟩ = some (.string s) := by rw [cell_of_row _ _ 0 _ _ _ RB.out]; rfl
    have n1 : U.cell? ⟨B, 1, none⟩ = some (.int .i64 k) := by rw [cell_of_row _ _ 1 _ _ _ RB.out]; rfl
    have n2 : U.cell? ⟨B, 2, none⟩ = some (.bool f) := by rw [cell_of_row _ _ 2 _ _ _ RB.out]; rfl
    have c0 : U.cell? ⟨C, 0, none⟩ = some (.string s) := by rw [cell_of_row _ _ 0 _ _ _ RC.out]; rfl
    have c1 : U.cell? ⟨C, 1, none⟩ = some (.int .i64 k1) := by rw [cell_of_row _ _ 1 _ _ _ RC.out]; rfl
    have c2 : U.cell? ⟨C, 2, none⟩ = some (.bool f) := by rw [cell_of_row _ _ 2 _ _ _ RC.out]; rfl
    go_wp2_with fail
    refine (spec_swapEnds s k f t _ hs1 ht1).mono ?_
    rintro e w4 ⟨a4, n4, cap4, rfl, hZ, hb4⟩
    have RB := Lib.hid ((hb4.block B (by omega)).trans RB.out)
    have RC := Lib.hid ((hb4.block C (by omega)).trans RC.out)
    have HL := Lib.hid (HL.out.kept hb4)
    have HB := HB.trans (hb4.mono HB.size)
    have hszw4 := hb4.size
    have hn4 : n4 = n3 := by have h1 := hZ.len; have h2 := HLN.out; omega
    subst hn4
    clear n0 n1 n2 c0 c1 c2
    have hBU : B < w4.heap.size := by omega
    have hCU : C < w4.heap.size := by omega
    have n0 : w4.cell? ⟨B, 0, none⟩ = some (.string s) := by rw [cell_of_row _ _ 0 _ _ _ RB.out]; rfl
    have n1 : w4.cell? ⟨B, 1, none⟩ = some (.int .i64 k) := by rw [cell_of_row _ _ 1 _ _ _ RB.out]; rfl
    have n2 : w4.cell? ⟨B, 2, none⟩ = some (.bool f) := by rw [cell_of_row _ _ 2 _ _ _ RB.out]; rfl
    have c0 : w4.cell? ⟨C, 0, none⟩ = some (.string s) := by rw [cell_of_row _ _ 0 _ _ _ RC.out]; rfl
    have c1 : w4.cell? ⟨C, 1, none⟩ = some (.int .i64 k1) := by rw [cell_of_row _ _ 1 _ _ _ RC.out]; rfl
    have c2 : w4.cell? ⟨C, 2, none⟩ = some (.bool f) := by rw [cell_of_row _ _ 2 _ _ _ RC.out]; rfl
    clear hb4
    go_wp2_with fail
    refine (laws_sameEnds _ _ _ _ _ _ _ HL.out.len HL.out.ints hZ.ints hln2).mono ?_
    rintro e w5 ⟨rfl, hb5⟩
    have RB := Lib.hid ((hb5.block B (by omega)).trans RB.out)
    have RC := Lib.hid ((hb5.block C (by omega)).trans RC.out)
    have HL := Lib.hid (HL.out.kept hb5)
    have HB := HB.trans (hb5.mono HB.size)
    have hszw5 := hb5.size
    clear n0 n1 n2 c0 c1 c2
    have hBU : B < w5.heap.size := by omega
    have hCU : C < w5.heap.size := by omega
    have n0 : w5.cell? ⟨B, 0, none⟩ = some (.string s) := by rw [cell_of_row _ _ 0 _ _ _ RB.out]; rfl
    have n1 : w5.cell? ⟨B, 1, none⟩ = some (.int .i64 k) := by rw [cell_of_row _ _ 1 _ _ _ RB.out]; rfl
    have n2 : w5.cell? ⟨B, 2, none⟩ = some (.bool f) := by rw [cell_of_row _ _ 2 _ _ _ RB.out]; rfl
    have c0 : w5.cell? ⟨C, 0, none⟩ = some (.string s) := by rw [cell_of_row _ _ 0 _ _ _ RC.out]; rfl
    have c1 : w5.cell? ⟨C, 1, none⟩ = some (.int .i64 k1) := by rw [cell_of_row _ _ 1 _ _ _ RC.out]; rfl
    have c2 : w5.cell? ⟨C, 2, none⟩ = some (.bool f) := by rw [cell_of_row _ _ 2 _ _ _ RC.out]; rfl
    clear hb5 hZ
    cases hp : patOk s k
    · have HP := Lib.hid hp; clear hp
      go_wp2_with fail
      refine (spec_patternOk s k f _ (by omega)).mono ?_
      rintro e w6 ⟨rfl, hb6⟩; rw [HP.out]
      have RB := Lib.hid ((hb6.block B (by omega)).trans RB.out)
      have RC := Lib.hid ((hb6.block C (by omega)).trans RC.out)
      have HL := Lib.hid (HL.out.kept hb6)
      have HB := HB.trans (hb6.mono HB.size)
      have hszw6 := hb6.size
      clear n0 n1 n2 c0 c1 c2
      have hBU : B < w6.heap.size := by omega
      have hCU : C < w6.heap.size := by omega
      have n0 : w6.cell? ⟨B, 0, none⟩ = some (.string s) := by rw [cell_of_row _ _ 0 _ _ _ RB.out]; rfl
      have n1 : w6.cell? ⟨B, 1, none⟩ = some (.int .i64 k) := by rw [cell_of_row _ _ 1 _ _ _ RB.out]; rfl
      have n2 : w6.cell? ⟨B, 2, none⟩ = some (.bool f) := by rw [cell_of_row _ _ 2 _ _ _ RB.out]; rfl
      have c0 : w6.cell? ⟨C, 0, none⟩ = some (.string s) := by rw [cell_of_row _ _ 0 _ _ _ RC.out]; rfl
      have c1 : w6.cell? ⟨C, 1, none⟩ = some (.int .i64 k1) := by rw [cell_of_row _ _ 1 _ _ _ RC.out]; rfl
      have c2 : w6.cell? ⟨C, 2, none⟩ = some (.bool f) := by rw [cell_of_row _ _ 2 _ _ _ RC.out]; rfl
      clear hb6
      go_wp2_with fail
      refine (spec_swapEnds s k f t _ hs1 ht1).mono ?_
      rintro e w8 ⟨a8, n8, cap8, rfl, hZ, hb8⟩
      have RB := Lib.hid ((hb8.block B (by omega)).trans RB.out)
      have RC := Lib.hid ((hb8.block C (by omega)).trans RC.out)
      have HL := Lib.hid (HL.out.kept hb8)
      have HB := HB.trans (hb8.mono HB.size)
      have hszw8 := hb8.size
      have hn8 : n8 = n4 := by have h1 := hZ.len; have h2 := HLN.out; omega
      subst hn8
      clear hb8 n0 n1 n2 c0 c1 c2
      go_wp2_with fail
      refine (laws_sameEnds _ _ _ _ _ _ _ HL.out.len HL.out.ints hZ.ints hln2).mono ?_
      rintro e w9 ⟨rfl, hb9⟩
      have RB := Lib.hid ((hb9.block B (by omega)).trans RB.out)
      have RC := Lib.hid ((hb9.block C (by omega)).trans RC.out)
      have HL := Lib.hid (HL.out.kept hb9)
      have HB := HB.trans (hb9.mono HB.size)
      have hszw9 := hb9.size
      clear hb9
      go_wp2_with fail
      go_ret
      exact ⟨rfl, HB⟩
    · obtain ⟨hp0, hp1, hk0, hk1⟩ := (patOk_iff s k).1 hp
      have hk1e : k1 = k + 1 := by rw [← K1.out, IntKind.wrap_i64]; omega
      subst hk1e
      have HP := Lib.hid hp
      cases hp2 : patOk s (k + 1)
      · have HP2 := Lib.hid hp2; clear hp2 hp
        go_wp2_with fail
        refine (spec_patternOk s k f _ (by omega)).mono ?_
        rintro e w6 ⟨rfl, hb6⟩; rw [HP.out]
        have RB := Lib.hid ((hb6.block B (by omega)).trans RB.out)
        have RC := Lib.hid ((hb6.block C (by omega)).trans RC.out)
        have HL := Lib.hid (HL.out.kept hb6)
        have HB := HB.trans (hb6.mono HB.size)
        have hszw6 := hb6.size
        clear n0 n1 n2 c0 c1 c2
        have hBU : B < w6.heap.size := by omega
        have hCU : C < w6.heap.size := by omega
        have n0 : w6.cell? ⟨B, 0, none⟩ = some (.string s) := by rw [cell_of_row _ _ 0 _ _ _ RB.out]; rfl
        have n1 : w6.cell? ⟨B, 1, none⟩ = some (.int .i64 k) := by rw [cell_of_row _ _ 1 _ _ _ RB.out]; rfl
        have n2 : w6.cell? ⟨B, 2, none⟩ = some (.bool f) := by rw [cell_of_row _ _ 2 _ _ _ RB.out]; rfl
        have c0 : w6.cell? ⟨C, 0, none⟩ = some (.string s) := by rw [cell_of_row _ _ 0 _ _ _ RC.out]; rfl
        have c1 : w6.cell? ⟨C, 1, none⟩ = some (.int .i64 (k + 1)) := by rw [cell_of_row _ _ 1 _ _ _ RC.out]; rfl
        have c2 : w6.cell? ⟨C, 2, none⟩ = some (.bool f) := by rw [cell_of_row _ _ 2 _ _ _ RC.out]; rfl
        clear hb6
        go_wp2_with fail
        refine (spec_patternOk s (k + 1) f _ (by omega)).mono ?_
        rintro e w7 ⟨rfl, hb7⟩; rw [HP2.out]
        have RB := Lib.hid ((hb7.block B (by omega)).trans RB.out)
        have RC := Lib.hid ((hb7.block C (by omega)).trans RC.out)
        have HL := Lib.hid (HL.out.kept hb7)
        have HB := HB.trans (hb7.mono HB.size)
        have hszw7 := hb7.size
        clear n0 n1 n2 c0 c1 c2
        have hBU : B < w7.heap.size := by omega
        have hCU : C < w7.heap.size := by omega
        have n0 : w7.cell? ⟨B, 0, none⟩ = some (.string s) := by rw [cell_of_row _ _ 0 _ _ _ RB.out]; rfl
        have n1 : w7.cell? ⟨B, 1, none⟩ = some (.int .i64 k) := by rw [cell_of_row _ _ 1 _ _ _ RB.out]; rfl
        have n2 : w7.cell? ⟨B, 2, none⟩ = some (.bool f) := by rw [cell_of_row _ _ 2 _ _ _ RB.out]; rfl
        have c0 : w7.cell? ⟨C, 0, none⟩ = some (.string s) := by rw [cell_of_row _ _ 0 _ _ _ RC.out]; rfl
        have c1 : w7.cell? ⟨C, 1, none⟩ = some (.int .i64 (k + 1)) := by rw [cell_of_row _ _ 1 _ _ _ RC.out]; rfl
        have c2 : w7.cell? ⟨C, 2, none⟩ = some (.bool f) := by rw [cell_of_row _ _ 2 _ _ _ RC.out]; rfl
        clear hb7
        go_wp2_with fail
        refine (spec_swapEnds s k f t _ hs1 ht1).mono ?_
        rintro e w8 ⟨a8, n8, cap8, rfl, hZ, hb8⟩
        have RB := Lib.hid ((hb8.block B (by omega)).trans RB.out)
        have RC := Lib.hid ((hb8.block C (by omega)).trans RC.out)
        have HL := Lib.hid (HL.out.kept hb8)
        have HB := HB.trans (hb8.mono HB.size)
        have hszw8 := hb8.size
        have hn8 : n8 = n4 := by have h1 := hZ.len; have h2 := HLN.out; omega
        subst hn8
        clear hb8 n0 n1 n2 c0 c1 c2
        go_wp2_with fail
        refine (laws_sameEnds _ _ _ _ _ _ _ HL.out.len HL.out.ints hZ.ints hln2).mono ?_
        rintro e w9 ⟨rfl, hb9⟩
        have RB := Lib.hid ((hb9.block B (by omega)).trans RB.out)
        have RC := Lib.hid ((hb9.block C (by omega)).trans RC.out)
        have HL := Lib.hid (HL.out.kept hb9)
        have HB := HB.trans (hb9.mono HB.size)
        have hszw9 := hb9.size
        clear hb9
        go_wp2_with fail
        go_ret
        exact ⟨rfl, HB⟩
      · have HP2 := Lib.hid hp2
        have eL := swEnds_all (f := f) (r := t) hp (by omega)
        have eM := swEnds_all (f := f) (r := t) hp2 (by omega)
        obtain ⟨HA, HC⟩ := more_ends (swD s t f) k (t.size + 1)
        obtain ⟨E, hE⟩ : ∃ E, endF (swD s t f) k (t.size + 1) = E := ⟨_, rfl⟩
        obtain ⟨M, hM0⟩ : ∃ M, endF (swD s t f) (k + 1) (t.size + 1) = M := ⟨_, rfl⟩
        have lE := endF_length (swD s t f) k (t.size + 1)
        have lM := endF_length (swD s t f) (k + 1) (t.size + 1)
        have bM := endN_le (swD s t f) (k + 1) (t.size + 1)
        rw [hE] at eL HC lE
        rw [hM0] at eM HA HC lM
        have hL := HL.out
        rw [eL] at hL
        generalize endN (swD s t f) k (t.size + 1) = nE at *
        generalize endN (swD s t f) (k + 1) (t.size + 1) = nM at *
        have hnE : n4 = nE := by have := hL.len; omega
        subst hnE
        have HA := Lib.hid HA
        have HC := fun i => Lib.hid (HC i)
        have LE := Lib.hid lE; have LM := Lib.hid lM; have EM := Lib.hid eM
        have HL := Lib.hid hL
        clear eL eM lE lM hE hM0 hL hp hp2 HLN hln
        go_wp2_with fail
        refine (spec_patternOk s k f _ (by omega)).mono ?_
        rintro e w6 ⟨rfl, hb6⟩; rw [HP.out]
        have RB := Lib.hid ((hb6.block B (by omega)).trans RB.out)
        have RC := Lib.hid ((hb6.block C (by omega)).trans RC.out)
        have HL := Lib.hid (HL.out.kept hb6)
        have HB := HB.trans (hb6.mono HB.size)
        have hszw6 := hb6.size
        clear n0 n1 n2 c0 c1 c2
        have hBU : B < w6.heap.size := by omega
        have hCU : C < w6.heap.size := by omega
        have n0 : w6.cell? ⟨B, 0, none⟩ = some (.string s) := by rw [cell_of_row _ _ 0 _ _ _ RB.out]; rfl
        have n1 : w6.cell? ⟨B, 1, none⟩ = some (.int .i64 k) := by rw [cell_of_row _ _ 1 _ _ _ RB.out]; rfl
        have n2 : w6.cell? ⟨B, 2, none⟩ = some (.bool f) := by rw [cell_of_row _ _ 2 _ _ _ RB.out]; rfl
        have c0 : w6.cell? ⟨C, 0, none⟩ = some (.string s) := by rw [cell_of_row _ _ 0 _ _ _ RC.out]; rfl
        have c1 : w6.cell? ⟨C, 1, none⟩ = some (.int .i64 (k + 1)) := by rw [cell_of_row _ _ 1 _ _ _ RC.out]; rfl
        have c2 : w6.cell? ⟨C, 2, none⟩ = some (.bool f) := by rw [cell_of_row _ _ 2 _ _ _ RC.out]; rfl
        clear hb6
        go_wp2_with fail
        refine (spec_patternOk s (k + 1) f _ (by omega)).mono ?_
        rintro e w7 ⟨rfl, hb7⟩; rw [HP2.out]
        have RB := Lib.hid ((hb7.block B (by omega)).trans RB.out)
        have RC := Lib.hid ((hb7.block C (by omega)).trans RC.out)
        have HL := Lib.hid (HL.out.kept hb7)
        have HB := HB.trans (hb7.mono HB.size)
        have hszw7 := hb7.size
        clear n0 n1 n2 c0 c1 c2
        have hBU : B < w7.heap.size := by omega
        have hCU : C < w7.heap.size := by omega
        have n0 : w7.cell? ⟨B, 0, none⟩ = some (.string s) := by rw [cell_of_row _ _ 0 _ _ _ RB.out]; rfl
        have n1 : w7.cell? ⟨B, 1, none⟩ = some (.int .i64 k) := by rw [cell_of_row _ _ 1 _ _ _ RB.out]; rfl
        have n2 : w7.cell? ⟨B, 2, none⟩ = some (.bool f) := by rw [cell_of_row _ _ 2 _ _ _ RB.out]; rfl
        have c0 : w7.cell? ⟨C, 0, none⟩ = some (.string s) := by rw [cell_of_row _ _ 0 _ _ _ RC.out]; rfl
        have c1 : w7.cell? ⟨C, 1, none⟩ = some (.int .i64 (k + 1)) := by rw [cell_of_row _ _ 1 _ _ _ RC.out]; rfl
        have c2 : w7.cell? ⟨C, 2, none⟩ = some (.bool f) := by rw [cell_of_row _ _ 2 _ _ _ RC.out]; rfl
        clear hb7
        go_wp2_with fail
        refine (impl_swapEnds s (k + 1) f t _ hs1 ht1).mono ?_
        rintro e w8 ⟨a7, n7, cap7, rfl, hM, hb8⟩
        have RB := Lib.hid ((hb8.block B (by omega)).trans RB.out)
        have RC := Lib.hid ((hb8.block C (by omega)).trans RC.out)
        have HL := Lib.hid (HL.out.kept hb8)
        have HB := HB.trans (hb8.mono HB.size)
        have hszw8 := hb8.size
        rw [EM.out] at hM
        have hn7 : n7 = nM := by have h1 := hM.len; have h2 := LM.out; omega
        subst hn7
        have HM := Lib.hid hM
        clear n0 n1 n2 c0 c1 c2 hb8 hM
        have hBU : B < w8.heap.size := by omega
        have n1 : w8.cell? ⟨B, 1, none⟩ = some (.int .i64 k) := by rw [cell_of_row _ _ 1 _ _ _ RB.out]; rfl
        go_wp2
        go_loopw [8, 9] (fun c i wr => ∃ j : Nat, j ≤ n7 ∧ i = .int .i64 j ∧ c = .int .i64 (cntE M k j) ∧ Below w8.heap.size w8 wr)
          (fun _ i _ => n7 - (intOf i).toNat)
        case atStart => exact ⟨0, by omega, rfl, rfl, Below.refl _ _⟩
        case round =>
          obtain ⟨j, hj, rfl, rfl, hb⟩ := hrel
          by_cases hlt : j < n7
          · obtain ⟨b1, off1, rfl, hq1⟩ := (HM.out.ints.kept hb).at (j * 2) (by rw [LM.out]; omega)
            have c1 := hq1 (j * 2) (by rw [LM.out]; omega)
            have d1 := hq1 (j * 2 + 1) (by rw [LM.out]; omega)
            rw [← Nat.add_assoc] at d1
            have hnb := (hb.cell (p := ⟨B, 1, none⟩) (by show B < _; omega)).trans n1
            have HCj := (HC j).out hlt
            have hcs : cntE M k (j + 1) = if intAt M (j * 2 + 1) ≤ k then cntE M k j + 1 else cntE M k j := rfl
            clear hq1
            obtain ⟨x, hx⟩ : ∃ x, intAt M (j * 2) = x := ⟨_, rfl⟩
            obtain ⟨y, hy⟩ : ∃ y, intAt M (j * 2 + 1) = y := ⟨_, rfl⟩
            rw [hx] at c1 HCj
            rw [hy] at d1 HCj hcs
            clear hx hy
            have jl : (j : Int) < (n7 : Int) := by omega
            have j0 : (0 : Int) ≤ (j : Int) := by omega
            by_cases hle : y ≤ k
            · rw [if_pos hle] at hcs
              obtain ⟨g1, g2, g3⟩ := HCj hle
              have HS := Lib.hid hcs
              obtain ⟨b2, off2, rfl, hq2⟩ := (HL.out.ints.kept hb).at (cntE M k j * 2) (by rw [LE.out]; omega)
              have c2 := hq2 (cntE M k j * 2) (by rw [LE.out]; omega)
              have d2 := hq2 (cntE M k j * 2 + 1) (by rw [LE.out]; omega)
              rw [← Nat.add_assoc] at d2
              rw [g2] at c2
              rw [g3] at d2
              have hat : ((cntE M k j : Nat) : Int) < (n4 : Int) := by omega
              have hne : (((cntE M k j : Nat) : Int) == (n4 : Int)) = false := by simp; omega
              have hgt : decide (k < y) = false := by simpa using hle
              clear hcs HCj g2 g3 hq2
              generalize cntE M k j = ct at *
              have ct0 : (0 : Int) ≤ (ct : Int) := by omega
              have ctw : IntKind.i64.wrap ((ct : Int) + 1) = (ct : Int) + 1 := by rw [IntKind.wrap_i64]; omega
              go_wp2_with fail
              go_quiet (fail)
              have hY := below_drewN (Below.refl wr.heap.size wr) nq
              have hYs : (wr.drewN nq).heap.size = wr.heap.size := by simp
              have bl1 := block_lt_of_cell c1; have bl2 := block_lt_of_cell c2
              have c1y := (hY.cell bl1).trans c1
              have d1y := (hY.cell (block_lt_of_cell d1)).trans d1
              have c2y := (hY.cell bl2).trans c2
              have d2y := (hY.cell (block_lt_of_cell d2)).trans d2
              have hbY := below_drewN hb nq
              generalize wr.drewN nq = Y at *
              clear c1 d1 c2 d2 hY hYs bl1 bl2 hb hnb
              go_wp2_with fail
              go_quiet (fail)
              go_wp2
              go_roundw
              case rel => exact ⟨j + 1, by omega, by go_num, by rw [HS.out]; go_num, below_drewN hbY _⟩
              case measure => simp [intOf]; omega
            · rw [if_neg hle] at hcs
              have HS := Lib.hid hcs
              have hgt : decide (k < y) = true := by simpa using hle
              clear hcs HCj
              generalize cntE M k j = ct at *
              go_wp2_with fail
              go_quiet (fail)
              go_wp2
              go_roundw
              case rel => exact ⟨j + 1, by omega, by go_num, by rw [HS.out], below_drewN hb _⟩
              case measure => simp [intOf]; omega
          · obtain rfl : j = n7 := by omega
            rw [HA.out]
            have e9 : ((n4 : Int) == (n4 : Int)) = true := by simp
            have HBF := HB.trans (hb.mono HB.size)
            go_wp2
            go_ret
            exact ⟨rfl, HBF⟩
  · have hbig : decide (1048576 < (len : Int)) = true := by simp; omega
    go_enter Try.func6, Try.ntmps6
    go_wp2_with (go_at_call 9; go_in)
    go_ret
    exact ⟨rfl, Below.refl _ _⟩
end Go.Proofs.Ytgikjopmijomgab

/-
  Chapter 15, the program: BkOf.
-/
import Derived.Test.YtpniiaemgobaiabBkGrow
import Derived.Test.YtpniiaemgobaiabBkS
import Derived.Test.YtpniiaemgobaiabWdOk
import Derived.Test.YtpniiaemgobaiabClone
namespace Go.Proofs.Ytpniiaemgobaiab
open Go.RowKit
set_option linter.unusedVariables false
set_option maxRecDepth 100000
theorem bks_take_succ (L : List BkN) (m : Nat) (h : m < L.length) : bks (L.take (m + 1)) = bks (L.take m) ++ [.string (bkAt L m).t, .int .i64 (bkAt L m).d, .int .i64 (bkAt L m).u] := by
  rw [List.take_succ_eq_append_getElem h, bks_append, bks_one]
  have e : L[m] = bkAt L m := by simp [bkAt, List.getD_eq_getElem?_getD, h]
  rw [e]; rfl
theorem bkTo_root (t : Nat → ByteArray) (m : Nat) : 0 < (bkTo t m).length → (bkAt (bkTo t m) 0).u = 0 := by
  induction m with
  | zero => intro h; simp [bkTo] at h
  | succ m ih =>
    intro _
    rw [bkTo]
    unfold addB
    split
    · rfl
    · rename_i hne
      have h0 : 0 < (bkTo t m).length := by
        cases h : bkTo t m with
        | nil => exact absurd h hne
        | cons x l => simp
      split
      · exact ih h0
      · rw [bkAt_old h0]; exact ih h0
set_option maxHeartbeats 8000000 in
theorem impl_bkOf (t : Nat → ByteArray) (n : Nat) (a : Option Addr) (cap : Nat) (w : World) (h : Vals w a (strL t n)) (hlen : n ≤ 1048577) (hts : ∀ i, i < n → (t i).size ≤ 1048576) :
    Calls Try.prog 11 #[.slice a n cap] w fun e w' => ∃ a' cap', e = .returned (.tuple #[.slice a' (bkV t n).length cap', .bool (wordsOkB t n)]) ∧ OwnV 33 3 w' w.heap.size a' (bkV t n).length cap' (bks (bkV t n)) ∧ Below w.heap.size w w' := by
  obtain ⟨i0, hi, ht0, ht1, ht2⟩ := info_parts bk_info
  have HT := Lib.hid (show ∀ i, i < n → (t i).size ≤ 1048577 from fun i hi => by have := hts i hi; omega)
  have HTS := Lib.hid hts
  have HV := Lib.hid h
  clear hts h
  cases h1 : wordsOkB t n
  · have HE := Lib.hid (show bkV t n = [] by unfold bkV; rw [if_neg (by rw [h1]; exact Bool.false_ne_true)])
    rw [HE.out]
    have H1 := Lib.hid h1
    clear h1
    go_enter Try.func11, Try.ntmps11
    go_wp2_with (go_at_call 42; refine (impl_wordsOk t n a cap _ HV.out hlen HT.out).mono ?_; rintro e w1 ⟨rfl, hb1⟩; rw [H1.out])
    go_ret2
    exact ⟨none, 0, rfl, OwnV.nil _ _, hb1⟩
  · have HE := Lib.hid (show bkV t n = bkTo t n from if_pos h1)
    rw [HE.out]
    obtain ⟨hw1, hw2⟩ := wordsOkB_iff.1 h1
    have H1 := Lib.hid h1
    have HU := Lib.hid (bkTo_up t n)
    have HR := Lib.hid (bkTo_root t n)
    have HSZ := Lib.hid (bkTo_sz (n := n) HTS.out n (Nat.le_refl _))
    have hll : (bkTo t n).length ≤ 30 := by have := bkTo_len t n; omega
    clear h1 hw1
    go_enter Try.func11, Try.ntmps11
    go_wp2_with (first
      | (go_at_call 42; refine (impl_wordsOk t n a cap _ HV.out hlen HT.out).mono ?_; rintro e w1 ⟨rfl, hb1⟩; rw [H1.out]; have HB1 := Lib.hid hb1; clear hb1)
      | (go_at_call 43; refine (impl_growTree t n a cap _ (HV.out.kept HB1.out) (by omega) HTS.out).mono ?_; rintro e w2 ⟨a2, c2, A, T, ka, kc, rfl, hM, hN, hb2⟩; have HM := Lib.hid hM; have HN := Lib.hid hN; have HB2 := Lib.hid (HB1.out.trans (hb2.mono HB1.out.size)); clear hM hN hb2))
    generalize hLL : bkTo t n = L at *
    have HLL := Lib.hid hLL
    clear hLL
    have hz2 := HB2.out.size
    go_loopw [4, 14] (fun v i wr => ∃ (m c' : Nat) (a' : Option Addr), m ≤ L.length ∧ i = .int .i64 (m : Int) ∧ v = .slice a' m c' ∧ OwnV 33 3 wr w2.heap.size a' m c' (bks (L.take m)) ∧ Below w2.heap.size w2 wr)
      (fun _ i _ => L.length - (intOf i).toNat)
    case atStart => exact ⟨0, 0, none, by omega, rfl, rfl, OwnV.nil _ _, Below.refl _ _⟩
    case round =>
      obtain ⟨m, c', a', hm, rfl, rfl, hO, hb⟩ := hrel
      by_cases hlt : m < L.length
      · obtain ⟨g, rfl, hgB, hgl⟩ := HN.out.head m hlt
        have d0 := (HN.out.kept hb).cell m (by omega)
        rw [bptrs_at _ _ _ hlt] at d0
        unfold ptrB at d0
        have hM := HM.out.kept hb
        have hblk := hM.blk m hlt
        have hml := hM.lt hlt
        have HTK := Lib.hid (bks_take_succ L m hlt)
        have hs := bkAt_szG HSZ.out m hlt
        have c1 : wr.cell? ⟨A m, 1, none⟩ = some (.string (bkAt L m).t) := by rw [cell_of_row _ _ 1 _ _ _ hblk]; rfl
        have c2' : wr.cell? ⟨A m, 2, none⟩ = some (.int .i64 (bkAt L m).d) := by rw [cell_of_row _ _ 2 _ _ _ hblk]; rfl
        have c3 : wr.cell? ⟨A m, 3, none⟩ = some (upV L A m) := by rw [cell_of_row _ _ 3 _ _ _ hblk]; rfl
        have c2a : ∀ o, (wr.alloc o).cell? ⟨A m, 2, none⟩ = some (.int .i64 (bkAt L m).d) := fun o => by rw [cell_of_row _ _ 2 _ _ _ ((Below.heap_alloc wr o _ hml).trans hblk)]; rfl
        have c3a : ∀ o, (wr.alloc o).cell? ⟨A m, 3, none⟩ = some (upV L A m) := fun o => by rw [cell_of_row _ _ 3 _ _ _ ((Below.heap_alloc wr o _ hml).trans hblk)]; rfl
        have c1a : ∀ o, (wr.alloc o).cell? ⟨A m, 1, none⟩ = some (.string (bkAt L m).t) := fun o => by rw [cell_of_row _ _ 1 _ _ _ ((Below.heap_alloc wr o _ hml).trans hblk)]; rfl
        have HO := Lib.hid hO
        have HB := Lib.hid hb
        clear hM hO hb
        generalize hy : (bkAt L m).t = y at *
        generalize hd : (bkAt L m).d = d at *
        go_wp2_with fail
        go_region_law ((go_simp; (go_at_call 44; refine (str_clone y _ hs).mono ?_; rintro e w4 ⟨rfl, hb4⟩; have hb4' := below_undrew hb4; have hml4 : A m < w4.heap.size := (by have := hb4'.size; first | omega | (simp at this; omega)); have q2 : w4.cell? ⟨A m, 2, none⟩ = some (.int .i64 d) := (by first | exact (hb4'.cell (p := ⟨A m, 2, none⟩) hml).trans c2' | exact (hb4'.cell (p := ⟨A m, 2, none⟩) (by simp; omega)).trans (c2a _)); have q3 : w4.cell? ⟨A m, 3, none⟩ = some (upV L A m) := (by first | exact (hb4'.cell (p := ⟨A m, 3, none⟩) hml).trans c3 | exact (hb4'.cell (p := ⟨A m, 3, none⟩) (by simp; omega)).trans (c3a _)); have q2a : ∀ o, (w4.alloc o).cell? ⟨A m, 2, none⟩ = some (.int .i64 d) := (fun o => ((Below.refl w4.heap.size w4).alloc (Nat.le_refl _) o |>.cell (p := ⟨A m, 2, none⟩) hml4).trans q2)); (try (have hbk : w4.heap[wr.heap.size]? = some (.cells #[.string ⟨#[]⟩, .int .i64 0, .int .i64 0] 33 (0, 0)) := (hb4'.block wr.heap.size (by simp)).trans (heap_alloc_new wr _); have r0 : w4.cell? ⟨wr.heap.size, 0, none⟩ = some (.string ⟨#[]⟩) := (by rw [cell_of_row _ _ 0 _ _ _ hbk]; rfl); have r1 : w4.cell? ⟨wr.heap.size, 1, none⟩ = some (.int .i64 0) := (by rw [cell_of_row _ _ 1 _ _ _ hbk]; rfl); have r2 : w4.cell? ⟨wr.heap.size, 2, none⟩ = some (.int .i64 0) := (by rw [cell_of_row _ _ 2 _ _ _ hbk]; rfl); have s0 := frozen_of_row _ _ 0 _ _ hbk; have s1 := frozen_of_row _ _ 1 _ _ hbk; have s2 := frozen_of_row _ _ 2 _ _ hbk))))
        all_goals
          first
            | (obtain ⟨W, hW⟩ : ∃ W, w4.alloc (.cells #[.string y, .int .i64 d, .int .i64 0] 33) = W := ⟨_, rfl⟩
               rw [hW]
               have e1 : Below wr.heap.size wr W := by rw [← hW]; exact hb4'.alloc hb4'.size _
               have e2 : W.heap[w4.heap.size]? = some (.cells #[.string y, .int .i64 d, .int .i64 0] 33 (0, 0)) := by rw [← hW]; exact heap_alloc_new w4 _
               have e3 : wr.heap.size ≤ w4.heap.size := hb4'.size
               obtain ⟨X, hX⟩ : ∃ X, w4.heap.size = X := ⟨_, rfl⟩
               rw [hX]
               rw [hX] at e2 e3
               have E1 := Lib.hid e1; have E2 := Lib.hid e2; have E3 := Lib.hid e3
               clear hW hX e1 e2 e3)
            | (obtain ⟨W, hW⟩ : ∃ W, ((w4.setCell ⟨wr.heap.size, 0, none⟩ (.string y)).setCell ⟨wr.heap.size, 1, none⟩ (.int .i64 d)).setCell ⟨wr.heap.size, 2, none⟩ (.int .i64 0) = W := ⟨_, rfl⟩
               rw [hW]
               have e1 : Below wr.heap.size wr W := by rw [← hW]; exact (((((Below.refl wr.heap.size wr).alloc (Nat.le_refl _) _).trans (hb4'.mono (by simp))).setCell (Nat.le_refl _) _).setCell (Nat.le_refl _) _).setCell (Nat.le_refl _) _
               have e2 : W.heap[wr.heap.size]? = some (.cells #[.string y, .int .i64 d, .int .i64 0] 33 (0, 0)) := by rw [← hW, heap_setCell_same _ _ _ _ _ _ (heap_setCell_same _ _ _ _ _ _ (heap_setCell_same _ _ _ _ _ _ hbk))]; rfl
               have e3 : wr.heap.size ≤ wr.heap.size := Nat.le_refl _
               obtain ⟨X, hX⟩ : ∃ X, wr.heap.size = X := ⟨_, rfl⟩
               rw [hX]
               rw [hX] at e2
               have e3 : wr.heap.size ≤ X := Nat.le_of_eq hX
               have E1 := Lib.hid e1; have E2 := Lib.hid e2; have E3 := Lib.hid e3
               clear hW hX e1 e2 e3 hbk r0 r1 r2 s0 s1 s2)
          clear q2 q3 q2a hml4 hb4 hb4' c2a c3a c1a d0
          have HMW := Lib.hid (HM.out.kept (HB.out.trans (E1.out.mono HB.out.size)))
          have HOW := Lib.hid (HO.out.kept E1.out)
          have HBW := Lib.hid (HB.out.trans (E1.out.mono HB.out.size))
          have x3 : W.cell? ⟨A m, 3, none⟩ = some (upV L A m) := by rw [cell_of_row _ _ 3 _ _ _ (HMW.out.blk m hlt)]; rfl
          have x0 : W.cell? ⟨X, 0, none⟩ = some (.string y) := by rw [cell_of_row _ _ 0 _ _ _ E2.out]; rfl
          have x1 : W.cell? ⟨X, 1, none⟩ = some (.int .i64 d) := by rw [cell_of_row _ _ 1 _ _ _ E2.out]; rfl
          have x2 : W.cell? ⟨X, 2, none⟩ = some (.int .i64 0) := by rw [cell_of_row _ _ 2 _ _ _ E2.out]; rfl
          have y2 : W.frozen? ⟨X, 2, none⟩ = false := frozen_of_row _ _ 2 _ _ E2.out
          by_cases hm0 : m = 0
          · have HUU := Lib.hid (show (bkAt L m).u = 0 by rw [hm0]; exact HR.out (by omega))
            have HL5 := Lib.hid (show (bks (L.take m) ++ [Value.string y, .int .i64 d, .int .i64 0]).length = (m + 1) * 3 by rw [List.length_append, bks_length, List.length_take, Nat.min_eq_left hm]; simp; omega)
            have hup : upV L A m = .pointer none := by rw [hm0]; rfl
            rw [hup] at x3
            clear hm0 hup
            go_wp2_with (at_builtin; refine wpList_append_own _ rfl _ _ 26 rfl w2.heap.size 33 i0 (.agg #[.string ⟨#[]⟩, .int .i64 0, .int .i64 0]) 3 32 Try.underlying26 hi ht0 ht1 ht2 rfl (by decide) _ _ _ rfl (HOW.out.2.alloc _) ⟨W.heap.size, 0, none⟩ 1 1 [Value.string y, .int .i64 d, .int .i64 0] rfl rfl (fun j u h => cells_new W _ _ j u h) (by simp [Value.oneCell']) (by unfold maxLen; omega) (by omega) (Nat.le_trans HBW.out.size (by simp)) ?_; intro v5 w5 hown5 hg5 _; obtain ⟨a5, c5, rfl, hO5⟩ := OwnV.shape HL5.out (show w5.ownsRow w2.heap.size 33 3 v5 (m + 1) (bks (L.take m) ++ [Value.string y, .int .i64 d, .int .i64 0]) by exact hown5); have HB5 := Lib.hid (((HBW.out.alloc HBW.out.size _)).grown hg5 (Nat.le_trans HBW.out.size (by simp)) (fun j hj => (HOW.out.2.lt j hj).1)); have HO5 := Lib.hid hO5; clear hown5 hg5 hO5)
            go_roundw
            case rel => exact ⟨m + 1, c5, a5, by omega, by go_num, rfl, by rw [HTK.out, HUU.out]; exact HO5.out, HB5.out⟩
            case measure => simp [intOf]; omega
          · obtain ⟨u, hu⟩ : ∃ u : Nat, (bkAt L m).u = (u : Int) := ⟨(bkAt L m).u.toNat, by have := HU.out m (by omega) hlt; omega⟩
            have hum : u < m := by have := HU.out m (by omega) hlt; omega
            have HUU := Lib.hid hu
            have HL5 := Lib.hid (show (bks (L.take m) ++ [Value.string y, .int .i64 d, .int .i64 (u : Int)]).length = (m + 1) * 3 by rw [List.length_append, bks_length, List.length_take, Nat.min_eq_left hm]; simp; omega)
            have hup : upV L A m = .pointer (some ⟨A u, 0, none⟩) := by unfold upV ptrB; rw [if_neg hm0, hu, Int.toNat_natCast]
            rw [hup] at x3
            have z0 : W.cell? ⟨A u, 0, none⟩ = some (.int .i64 (u : Int)) := by rw [cell_of_row _ _ 0 _ _ _ (HMW.out.blk u (by omega))]; rfl
            have HOW := Lib.hid (show OwnV 33 3 (W.setCell ⟨X, 2, none⟩ (.int .i64 (u : Int))) w2.heap.size a' m c' (bks (L.take m)) from HO.out.kept (E1.out.setCell (by have := E3.out; simp only; omega) _))
            have HBW := Lib.hid (show Below w2.heap.size w2 (W.setCell ⟨X, 2, none⟩ (.int .i64 (u : Int))) from HBW.out.setCell (by have := E3.out; have := HB.out.size; simp only; omega) _)
            have HCN := Lib.hid (show ∀ j v, [Value.string y, .int .i64 d, .int .i64 (u : Int)][j]? = some v → ((W.setCell ⟨X, 2, none⟩ (.int .i64 (u : Int))).alloc (.cells #[.string y, .int .i64 d, .int .i64 (u : Int)] 33)).cell? ((⟨W.heap.size, 0, none⟩ : Addr).add j) = some v from fun j v hv => by
              have := cells_new (W.setCell ⟨X, 2, none⟩ (.int .i64 (u : Int))) #[.string y, .int .i64 d, .int .i64 (u : Int)] 33 j v hv
              rw [show (W.setCell ⟨X, 2, none⟩ (.int .i64 (u : Int))).heap.size = W.heap.size by simp [World.setCell]] at this
              exact this)
            clear hu hup hm0
            go_wp2_with (at_builtin; refine wpList_append_own _ rfl _ _ 26 rfl w2.heap.size 33 i0 (.agg #[.string ⟨#[]⟩, .int .i64 0, .int .i64 0]) 3 32 Try.underlying26 hi ht0 ht1 ht2 rfl (by decide) _ _ _ rfl (HOW.out.2.alloc _) ⟨W.heap.size, 0, none⟩ 1 1 [Value.string y, .int .i64 d, .int .i64 (u : Int)] rfl rfl HCN.out (by simp [Value.oneCell']) (by unfold maxLen; omega) (by omega) (Nat.le_trans HBW.out.size (by simp)) ?_; intro v5 w5 hown5 hg5 _; obtain ⟨a5, c5, rfl, hO5⟩ := OwnV.shape HL5.out (show w5.ownsRow w2.heap.size 33 3 v5 (m + 1) (bks (L.take m) ++ [Value.string y, .int .i64 d, .int .i64 (u : Int)]) by exact hown5); have HB5 := Lib.hid (((HBW.out.alloc HBW.out.size _)).grown hg5 (Nat.le_trans HBW.out.size (by simp)) (fun j hj => (HOW.out.2.lt j hj).1)); have HO5 := Lib.hid hO5; clear hown5 hg5 hO5)
            go_roundw
            case rel => exact ⟨m + 1, c5, a5, by omega, by go_num, rfl, by rw [HTK.out, HUU.out]; exact HO5.out, HB5.out⟩
            case measure => simp [intOf]; omega
      · obtain rfl : m = L.length := by omega
        have HO := Lib.hid (hO.mono hz2)
        have HB := Lib.hid (HB2.out.trans (hb.mono hz2))
        clear hO hb
        go_wp2
        go_ret2
        exact ⟨a', c', by rw [HLL.out]; rfl, by rw [HLL.out]; have := HO.out; rw [List.take_length] at this; exact this, HB.out⟩
end Go.Proofs.Ytpniiaemgobaiab

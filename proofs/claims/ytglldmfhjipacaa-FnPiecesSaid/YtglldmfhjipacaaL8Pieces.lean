/-
  Chapter 8: the pieces of a pattern: contracts, in the program and in its model.
-/
import Derived.Test.YtglldmfhjipacaaPieceLaw
import Derived.Test.YtglldmfhjipacaaL8Always
import Derived.Test.YtglldmfhjipacaaClone
import Derived.BigQuiet
namespace Go.Proofs.Ytglldmfhjipacaa
open Go.RowKit
set_option linter.unusedVariables false
set_option maxRecDepth 100000
theorem piece_info : (Try.prog.info? 54).map (fun i => (i.zero, i.size, i.bytes)) = some (some (.agg #[.int .i64 0, .string ⟨#[]⟩]), 2, 24) := by kernel_rfl
/-- where the i-th of c pieces of m bytes begins -/
def pcA (m c i : Nat) : Nat := i * m / c
def pcF (s : ByteArray) (c : Nat) : Nat → Int := fun i => (pcA s.size c i : Int)
def pcT (s : ByteArray) (c : Nat) : Nat → ByteArray := fun i => s.extract (pcA s.size c i) (pcA s.size c (i + 1))
def pcL (s : ByteArray) (c : Nat) : List Value := pieceL (pcF s c) (pcT s c) c
theorem pcA_facts (m K i : Nat) (hm : m ≤ 20) (hi : i ≤ K) (hK : K ≤ 4) : ∃ x y p q : Nat, (i : Int) * (m : Int) = (x : Int) ∧ ((i : Int) + 1) * (m : Int) = (y : Int) ∧ x ≤ 100 ∧ y ≤ 100 ∧ (x : Int).tdiv ((K : Int) + 1) = (p : Int) ∧ (y : Int).tdiv ((K : Int) + 1) = (q : Int) ∧ (x : Int) / ((K : Int) + 1) = (p : Int) ∧ (y : Int) / ((K : Int) + 1) = (q : Int) ∧ p ≤ q ∧ q ≤ m ∧ pcA m (K + 1) i = p ∧ pcA m (K + 1) (i + 1) = q := by
  have hx : i * m ≤ 4 * 20 := Nat.mul_le_mul (by omega) hm
  have hy : (i + 1) * m ≤ 5 * 20 := Nat.mul_le_mul (by omega) hm
  have e1 : ((i * m : Nat) : Int) / ((K : Int) + 1) = ((i * m / (K + 1) : Nat) : Int) := by simp
  have e2 : (((i + 1) * m : Nat) : Int) / ((K : Int) + 1) = (((i + 1) * m / (K + 1) : Nat) : Int) := by simp
  refine ⟨i * m, (i + 1) * m, i * m / (K + 1), (i + 1) * m / (K + 1), by simp, by simp, by omega, by omega, ?_, ?_, e1, e2, ?_, ?_, rfl, rfl⟩
  · rw [Int.tdiv_eq_ediv_of_nonneg (by omega)]; exact e1
  · rw [Int.tdiv_eq_ediv_of_nonneg (by omega)]; exact e2
  · exact Nat.div_le_div_right (Nat.mul_le_mul_right m (Nat.le_succ i))
  · exact Nat.div_le_of_le_mul (Nat.mul_le_mul_right m (by omega))
set_option maxHeartbeats 2000000 in
theorem spec_l8Pieces (s : ByteArray) (K : Nat) (f : Bool) (w : World) (hs : s.size ≤ 20) (hK : K ≤ 4) :
    Calls Try.prog 87 #[.agg #[.string s, .int .i64 K, .bool f]] w fun e w' => ∃ a cap, e = .returned (.slice a (K + 1) cap) ∧ OwnV 54 2 w' w.heap.size a (K + 1) cap (pcL s (K + 1)) ∧ Below w.heap.size w w' := by
  obtain ⟨i0, hi, ht0, ht1, ht2⟩ := info_parts piece_info
  go_enter Try.func87, Try.ntmps87
  go_wp2
  go_loopw [3, 5] (fun v i wr => ∃ j : Nat, j ≤ K + 1 ∧ i = .int .i64 j ∧ wr.ownsRow (w.heap.size + 1) 54 2 v j (pieceL (pcF s (K + 1)) (pcT s (K + 1)) j) ∧ wr.cell? ⟨w.heap.size, 0, none⟩ = some (.string s) ∧ wr.cell? ⟨w.heap.size, 1, none⟩ = some (.int .i64 K) ∧ Below w.heap.size w wr ∧ w.heap.size + 1 ≤ wr.heap.size)
    (fun _ i _ => K + 1 - (intOf i).toNat)
  case atStart =>
    refine ⟨0, by omega, rfl, ?_, by go_simp, by go_simp, (by repeat (first | exact Below.refl _ _ | assumption | (refine Below.drew ?_) | (refine below_drewN ?_ _) | (refine Below.alloc ?_ (by first | omega | (simp; done) | (simp; omega)) _) | (refine Below.setCell ?_ (by first | omega | (simp; done) | (simp; omega)) _))), by simp⟩
    have := World.ownsRow_made (base := w.heap.size + 1) (e := 54) (size := 2) (w.alloc (.cells #[.string s, .int .i64 K, .bool f] 48)) #[] 0 (by simp) (by decide) rfl
    simpa [pieceL] using this
  case round =>
    obtain ⟨j, hj, rfl, hown, d0, d1, hb, hz⟩ := hrel
    by_cases hlt : j < K + 1
    · obtain ⟨x, y, p, q, m1, m2, hx, hy, q1, q2, q3, q4, hpq, hqm, hp, hq⟩ := pcA_facts s.size K j hs (by omega) hK
      have hF : pieceL (pcF s (K + 1)) (pcT s (K + 1)) (j + 1) = pieceL (pcF s (K + 1)) (pcT s (K + 1)) j ++ [.int .i64 p, .string (s.extract p q)] := by simp only [pieceL, pcF, pcT, hp, hq]
      have HF := Lib.hid hF
      have HO := Lib.hid hown
      have hmx : j + 1 ≤ maxLen := by unfold maxLen; omega
      have hEb := fun q hq => (hown.lt q hq).1
      clear hF hown hp hq
      go_wp2_with (at_builtin; refine wpList_append_own _ rfl _ _ 50 rfl (w.heap.size + 1) 54 i0 (.agg #[.int .i64 0, .string ⟨#[]⟩]) 2 24 Try.underlying50 hi ht0 ht1 ht2 rfl (by decide) _ _ _ rfl (HO.out.alloc _) ⟨wr.heap.size, 0, none⟩ 1 1 [.int .i64 p, .string (s.extract p q)] rfl rfl (fun j u h => cells_new wr _ _ j u h) (by simp [Value.oneCell']) hmx (by omega) (by simp; omega) ?_; intro v' w1 hown' hg _)
      rw [← HF.out] at hown'
      have HO1 := Lib.hid hown'
      have hB3 : Below (w.heap.size + 1) wr w1 := ((Below.refl _ wr).alloc hz _).grown hg (by simp; omega) hEb
      have e0 := (hB3.cell (p := ⟨w.heap.size, 0, none⟩) (by show w.heap.size < _; omega)).trans d0
      have e1 := (hB3.cell (p := ⟨w.heap.size, 1, none⟩) (by show w.heap.size < _; omega)).trans d1
      clear hown' hg
      go_roundw
      case rel => exact ⟨j + 1, by omega, by go_num, HO1.out, e0, e1, hb.trans (hB3.mono (by omega)), Nat.le_trans hz hB3.size⟩
      case measure => simp [intOf]; omega
    · obtain rfl : j = K + 1 := by omega
      obtain ⟨a, cap, rfl, hO⟩ := OwnV.shape (pieceL_length _ _ _) hown
      go_wp2
      go_ret
      exact ⟨_, _, rfl, hO.mono (by omega), hb⟩
set_option maxHeartbeats 2000000 in
theorem impl_piecesOf_right (s : ByteArray) (K : Nat) (f : Bool) (w : World) (hs0 : 1 ≤ s.size) (hs : s.size ≤ 20) (hK : K ≤ 4) (hl : K < s.size) :
    Calls Try.prog 32 #[.agg #[.string s, .int .i64 K, .bool f]] w fun e w' => ∃ a cap, e = .returned (.slice a (K + 1) cap) ∧ OwnV 54 2 w' w.heap.size a (K + 1) cap (pcL s (K + 1)) ∧ Below w.heap.size w w' := by
  obtain ⟨i0, hi, ht0, ht1, ht2⟩ := info_parts piece_info
  have HP := Lib.hid (patOk_yes (s := s) (k := (K : Int)) ⟨hs0, hs, by omega, by omega⟩)
  have HA := Lib.hid (alwaysB_not (s := s) (k := (K : Int)) (by omega))
  go_enter Try.func32, Try.ntmps32
  go_wp2_with (first | (go_at_call 85; refine (impl_patternOk _ _ _ _ (by omega)).mono ?_; rintro e w1 ⟨rfl, hb1⟩; rw [HP.out]; obtain ⟨hc1, hf1⟩ := bcell hb1; have hz1 : w.heap.size < w1.heap.size := (by have := hb1.size; (try simp at this); omega); have HB1 : Below w.heap.size w w1 := below_step (by repeat (first | exact Below.refl _ _ | assumption | (refine Below.drew ?_) | (refine below_drewN ?_ _) | (refine Below.alloc ?_ (by first | omega | (simp; done) | (simp; omega)) _) | (refine Below.setCell ?_ (by first | omega | (simp; done) | (simp; omega)) _))) hb1) | (go_at_call 35; refine (impl_always _ _ _ _ (by omega)).mono ?_; rintro e w2 ⟨rfl, hb2⟩; rw [HA.out]; obtain ⟨hc2, hf2⟩ := bcell hb2; have HB2 := below_step HB1 hb2; have hz2 := hb2.size; have hz1 := HB1.size; have hy1 : w.heap.size < w1.heap.size := (by have h1 := hb1.size; (try simp at h1); omega)))
  have q0 : w2.cell? ⟨w.heap.size, 0, none⟩ = some (.string s) := by go_simp
  have q1 : w2.cell? ⟨w.heap.size, 1, none⟩ = some (.int .i64 K) := by go_simp
  have hz3 : w.heap.size + 1 ≤ w2.heap.size := by omega
  clear hc1 hc2 hf1 hf2 hb1 hb2
  go_quiet (fail)
  have hY := below_drewN (Below.refl w2.heap.size w2) nq
  have hYs : (w2.drewN nq).heap.size = w2.heap.size := by simp
  have c0 := (hY.cell (p := ⟨w.heap.size, 0, none⟩) (by show w.heap.size < _; omega)).trans q0
  have c1 := (hY.cell (p := ⟨w.heap.size, 1, none⟩) (by show w.heap.size < _; omega)).trans q1
  have hbY := below_drewN HB2 nq
  rw [← hYs] at hz3
  generalize w2.drewN nq = Z at *
  clear q0 q1 hY hYs HB2 HB1 hz2 hz1 hy1
  go_wp2
  go_loopw [5, 23] (fun v i wr => ∃ j : Nat, j ≤ K + 1 ∧ i = .int .i64 j ∧ wr.ownsRow (w.heap.size + 1) 54 2 v j (pieceL (pcF s (K + 1)) (pcT s (K + 1)) j) ∧ wr.cell? ⟨w.heap.size, 0, none⟩ = some (.string s) ∧ Below w.heap.size w wr ∧ w.heap.size + 1 ≤ wr.heap.size)
    (fun _ i _ => K + 1 - (intOf i).toNat)
  case atStart => exact ⟨0, by omega, rfl, World.ownsRow_nil _ _ _ _, c0, hbY, hz3⟩
  case round =>
    obtain ⟨j, hj, rfl, hown, d0, hb, hz⟩ := hrel
    by_cases hlt : j < K + 1
    · obtain ⟨x, y, p, q, m1, m2, hx, hy, q1, q2, q3, q4, hpq, hqm, hp, hq⟩ := pcA_facts s.size K j hs (by omega) hK
      have hF : pieceL (pcF s (K + 1)) (pcT s (K + 1)) (j + 1) = pieceL (pcF s (K + 1)) (pcT s (K + 1)) j ++ [.int .i64 p, .string (s.extract p q)] := by simp only [pieceL, pcF, pcT, hp, hq]
      have HF := Lib.hid hF
      have hmx : j + 1 ≤ maxLen := by unfold maxLen; omega
      obtain ⟨a, cap, rfl, hO⟩ := OwnV.shape (pieceL_length _ _ _) hown
      have HO0 := Lib.hid hO
      clear hF hown hp hq hO
      go_wp2_with fail
      go_quiet (fail)
      have hY := below_drewN (Below.refl wr.heap.size wr) nq
      have hYs : (wr.drewN nq).heap.size = wr.heap.size := by simp
      have d2 := (hY.cell (p := ⟨w.heap.size, 0, none⟩) (by show w.heap.size < _; omega)).trans d0
      have hbY2 := below_drewN hb nq
      have HOY := Lib.hid (HO0.out.kept hY)
      rw [← hYs] at hz
      generalize wr.drewN nq = Y0 at *
      clear d0 hY hYs hb HO0
      have hxs : (s.extract p q).size ≤ 1048576 := by rw [ByteArray.size_extract]; omega
      go_wp2_with fail
      refine (str_clone _ _ hxs).mono ?_
      rintro e Y ⟨rfl, hbY⟩
      replace d2 := (hbY.cell (p := ⟨w.heap.size, 0, none⟩) (by show w.heap.size < _; omega)).trans d2
      have HO := Lib.hid (HOY.out.kept hbY).2
      replace hbY2 := hbY2.trans (hbY.mono hbY2.size)
      replace hz := Nat.le_trans hz hbY.size
      clear HOY hbY hxs
      have hEb := fun q hq => (HO.out.lt q hq).1
      go_wp2_with (at_builtin; refine wpList_append_own _ rfl _ _ 50 rfl (w.heap.size + 1) 54 i0 (.agg #[.int .i64 0, .string ⟨#[]⟩]) 2 24 Try.underlying50 hi ht0 ht1 ht2 rfl (by decide) _ _ _ rfl (HO.out.alloc _) ⟨Y.heap.size, 0, none⟩ 1 1 [.int .i64 p, .string (s.extract p q)] rfl rfl (fun j u h => cells_new Y _ _ j u h) (by simp [Value.oneCell']) hmx (by omega) (by simp; omega) ?_; intro v' w1 hown' hg _)
      rw [← HF.out] at hown'
      have HO1 := Lib.hid hown'
      have hB3 : Below (w.heap.size + 1) Y w1 := ((Below.refl _ Y).alloc hz _).grown hg (by simp; omega) hEb
      have e0 := (hB3.cell (p := ⟨w.heap.size, 0, none⟩) (by show w.heap.size < _; omega)).trans d2
      clear hown' hg
      go_roundw
      case rel => exact ⟨j + 1, by omega, by go_num, HO1.out, e0, hbY2.trans (hB3.mono (by omega)), Nat.le_trans hz hB3.size⟩
      case measure => simp [intOf]; omega
    · obtain rfl : j = K + 1 := by omega
      obtain ⟨a, cap, rfl, hO⟩ := OwnV.shape (pieceL_length _ _ _) hown
      go_wp2
      go_ret
      exact ⟨_, _, rfl, hO.mono (by omega), hb⟩
end Go.Proofs.Ytglldmfhjipacaa

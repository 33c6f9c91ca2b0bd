/-
  Slices of pieces; the laws' own helpers on them.
-/
import Derived.Test.YtglldmfhjipacaaOwnV
import Derived.Test.YtglldmfhjipacaaMark
import Derived.Test.YtglldmfhjipacaaIntLaw
namespace Go.Proofs.Ytglldmfhjipacaa
open Go.RowKit
set_option linter.unusedVariables false
set_option maxRecDepth 100000
/-- the cells of n pieces -/
def pieceL (f : Nat → Int) (t : Nat → ByteArray) : Nat → List Value
  | 0 => []
  | n + 1 => pieceL f t n ++ [.int .i64 (f n), .string (t n)]
def upd {α : Type} (f : Nat → α) (i : Nat) (x : α) : Nat → α := fun j => if j = i then x else f j
theorem pieceL_length (f : Nat → Int) (t : Nat → ByteArray) (n : Nat) : (pieceL f t n).length = n * 2 := by
  induction n with
  | zero => rfl
  | succ n ih => simp only [pieceL, List.length_append, ih, List.length_cons, List.length_nil]; omega
theorem pieceL_at (f : Nat → Int) (t : Nat → ByteArray) (n i : Nat) (h : i < n) : valAt (pieceL f t n) (i * 2) = .int .i64 (f i) ∧ valAt (pieceL f t n) (i * 2 + 1) = .string (t i) := by
  induction n with
  | zero => omega
  | succ n ih =>
    simp only [pieceL]
    by_cases e : i = n
    · subst e
      rw [valAt_right (j := 0) (by rw [pieceL_length]; omega), valAt_right (j := 1) (by rw [pieceL_length])]
      exact ⟨rfl, rfl⟩
    · rw [valAt_left (by rw [pieceL_length]; omega), valAt_left (by rw [pieceL_length]; omega)]
      exact ih (by omega)
theorem pieceL_congr {f f' : Nat → Int} {t t' : Nat → ByteArray} (n : Nat) (h : ∀ i, i < n → f i = f' i ∧ t i = t' i) : pieceL f t n = pieceL f' t' n := by
  induction n with
  | zero => rfl
  | succ n ih => simp only [pieceL]; rw [ih fun i hi => h i (by omega), (h n (by omega)).1, (h n (by omega)).2]
theorem upd_other {α : Type} (f : Nat → α) (i j : Nat) (x : α) (h : j ≠ i) : upd f i x j = f j := by unfold upd; rw [if_neg h]
theorem upd_self {α : Type} (f : Nat → α) (i : Nat) (x : α) : upd f i x i = x := by unfold upd; rw [if_pos rfl]
theorem pieceL_setI (f : Nat → Int) (t : Nat → ByteArray) (n i : Nat) (x : Int) (h : i < n) : (pieceL f t n).set (i * 2) (.int .i64 x) = pieceL (upd f i x) t n := by
  induction n with
  | zero => omega
  | succ n ih =>
    simp only [pieceL]
    by_cases e : i = n
    · subst e
      rw [List.set_append_right _ _ (by rw [pieceL_length]; omega), pieceL_length, Nat.sub_self, upd_self, pieceL_congr i (f := upd f i x) (f' := f) (t := t) (t' := t) (fun j hj => ⟨upd_other _ _ _ _ (by omega), rfl⟩)]
      rfl
    · rw [List.set_append_left _ _ (by rw [pieceL_length]; omega), ih (by omega), upd_other _ _ _ _ (fun h => e h.symm)]
theorem pieceL_setT (f : Nat → Int) (t : Nat → ByteArray) (n i : Nat) (x : ByteArray) (h : i < n) : (pieceL f t n).set (i * 2 + 1) (.string x) = pieceL f (upd t i x) n := by
  induction n with
  | zero => omega
  | succ n ih =>
    simp only [pieceL]
    by_cases e : i = n
    · subst e
      rw [List.set_append_right _ _ (by rw [pieceL_length]; omega), pieceL_length, Nat.add_sub_cancel_left, upd_self, pieceL_congr i (f := f) (f' := f) (t := upd t i x) (t' := t) (fun j hj => ⟨rfl, upd_other _ _ _ _ (by omega)⟩)]
      rfl
    · rw [List.set_append_left _ _ (by rw [pieceL_length]; omega), ih (by omega), upd_other _ _ _ _ (fun h => e h.symm)]
/-- pieces marked from k on, up to j -/
def mkF (k : Int) (f : Nat → Int) (j : Nat) : Nat → Int := fun i => if i < j then k + (i : Int) * 2 else f i
def mkT (k : Int) (t : Nat → ByteArray) (j : Nat) : Nat → ByteArray := fun i => if i < j then markS (k + (i : Int) * 2 + 1) else t i
theorem pieceL_mk (k : Int) (f : Nat → Int) (t : Nat → ByteArray) (n j : Nat) : pieceL (upd (mkF k f j) j (k + (j : Int) * 2)) (upd (mkT k t j) j (markS (k + (j : Int) * 2 + 1))) n = pieceL (mkF k f (j + 1)) (mkT k t (j + 1)) n := by
  refine pieceL_congr n fun i _ => ?_
  unfold upd mkF mkT
  by_cases e : i = j
  · subst e; simp
  · by_cases h : i < j
    · simp [e, h, show i < j + 1 by omega]
    · simp [e, h, show ¬ i < j + 1 by omega]
theorem pieceL_mk0 (k : Int) (f : Nat → Int) (t : Nat → ByteArray) (n : Nat) : pieceL (mkF k f 0) (mkT k t 0) n = pieceL f t n := pieceL_congr n fun i _ => ⟨by simp [mkF], by simp [mkT]⟩
theorem laws_eqPiece (x : Int) (y : ByteArray) (w : World) :
    Calls Try.prog 88 #[.agg #[.int .i64 x, .string y], .agg #[.int .i64 x, .string y]] w fun e w' => e = .returned (.bool true) ∧ Below w.heap.size w w' := by
  have e1 : (x != x) = false := by simp
  go_enter Try.func88, Try.ntmps88
  go_wp2
  go_ret
  exact ⟨rfl, (by repeat (first | exact Below.refl _ _ | assumption | (refine Below.drew ?_) | (refine below_drewN ?_ _) | (refine Below.alloc ?_ (by first | omega | (simp; done) | (simp; omega)) _) | (refine Below.setCell ?_ (by first | omega | (simp; done) | (simp; omega)) _)))⟩
set_option maxHeartbeats 1000000 in
theorem laws_eqPieceS (f : Nat → Int) (t : Nat → ByteArray) (a1 a2 : Option Addr) (n cap1 cap2 : Nat) (w : World) (h1 : Vals w a1 (pieceL f t n)) (h2 : Vals w a2 (pieceL f t n)) (hlen : n ≤ 1048577) :
    Calls Try.prog 40 #[.slice a1 n cap1, .slice a2 n cap2] w fun e w' => e = .returned (.bool true) ∧ Below w.heap.size w w' := by
  have e0 : ((n : Int) != (n : Int)) = false := by simp
  have hn := pieceL_length f t n
  have HN := Lib.hid hn; clear hn
  go_enter Try.func40, Try.ntmps40
  go_wp2
  go_loopw [5] (fun i wr => ∃ k : Nat, k ≤ n ∧ i = .int .i64 k ∧ Below w.heap.size w wr)
    (fun i _ => n - (intOf i).toNat)
  case atStart => exact ⟨0, by omega, rfl, Below.refl _ _⟩
  case round =>
    obtain ⟨k, hk, rfl, hb⟩ := hrel
    by_cases hlt : k < n
    · obtain ⟨b1, off1, rfl, hp1⟩ := (h1.kept hb).at (k * 2) (by rw [HN.out]; omega)
      obtain ⟨b2, off2, rfl, hp2⟩ := (h2.kept hb).at (k * 2) (by rw [HN.out]; omega)
      have c1 := hp1 (k * 2) (by rw [HN.out]; omega)
      have c2 := hp2 (k * 2) (by rw [HN.out]; omega)
      have d1 := hp1 (k * 2 + 1) (by rw [HN.out]; omega)
      have d2 := hp2 (k * 2 + 1) (by rw [HN.out]; omega)
      obtain ⟨q1, q2⟩ := pieceL_at f t n k hlt
      rw [← Nat.add_assoc] at d1 d2
      rw [q1] at c1 c2
      rw [q2] at d1 d2
      generalize f k = x at c1 c2
      generalize t k = y at d1 d2
      have hlb := block_lt_of_cell c1
      have hlb2 := block_lt_of_cell c2
      clear h1 h2 hp1 hp2 q1 q2
      go_wp2_with fail
      go_region_law ((go_simp; (go_at_call 88; refine (laws_eqPiece x y _).mono ?_; rintro e w2 ⟨rfl, hb2⟩)))
      all_goals
        have hB := hb.trans ((below_undrew hb2).mono hb.size)
        go_wp2
        go_roundw
        case rel => exact ⟨k + 1, by omega, by go_num, hB⟩
        case measure => simp [intOf]; omega
    · obtain rfl : k = n := by omega
      go_wp2
      go_ret
      exact ⟨rfl, hb⟩
set_option maxHeartbeats 1000000 in
theorem laws_markPieceS (f : Nat → Int) (t : Nat → ByteArray) (a : Option Addr) (n cap B : Nat) (k : Int) (w : World) (h : OwnV 54 2 w B a n cap (pieceL f t n)) (hlen : n ≤ 1048577) (hk0 : 0 ≤ k) (hk1 : k ≤ 1073741824) :
    Calls Try.prog 41 #[.slice a n cap, .int .i64 k] w fun e w' => e = .returned (.int .i64 (k + n * 2)) ∧ OwnV 54 2 w' B a n cap (pieceL (mkF k f n) (mkT k t n) n) ∧ w.grownBy w' (Value.slice a n cap).ownBlock := by
  go_enter Try.func41, Try.ntmps41
  go_wp2
  go_loopw [1, 5] (fun m i wr => ∃ (j : Nat), j ≤ n ∧ i = .int .i64 j ∧ m = .int .i64 (k + j * 2) ∧ OwnV 54 2 wr B a n cap (pieceL (mkF k f j) (mkT k t j) n) ∧ w.grownBy wr (Value.slice a n cap).ownBlock)
    (fun _ i _ => n - (intOf i).toNat)
  case atStart => exact ⟨0, by omega, rfl, by go_num, (by rw [pieceL_mk0]; exact h), World.grownBy.refl _ _⟩
  case round =>
    obtain ⟨j, hj, rfl, rfl, hown, hb⟩ := hrel
    by_cases hlt : j < n
    · obtain ⟨g, rfl, hg1, hg2⟩ := hown.head j hlt
      have hc := hown.cell (j * 2) (by omega)
      have hf := hown.frozen (j * 2)
      have hown1 := hown.set (j * 2) (.int .i64 (k + (j : Int) * 2))
      rw [pieceL_setI _ _ _ _ _ hlt] at hown1
      have HO1 := Lib.hid hown1
      have hgr := grown_trans hb (hown.set_grown (j * 2) (.int .i64 (k + (j : Int) * 2)))
      have HG := Lib.hid hgr
      clear hown hown1 hb hgr
      go_wp2_with fail
      refine (laws_markText _ _ (by omega)).mono ?_
      rintro e w2 ⟨rfl, hb2⟩
      have hO2 := HO1.out.kept hb2
      have hg2 := grown_trans HG.out (grown_of_below hb2 _)
      have hd := hO2.cell (j * 2 + 1) (by omega)
      have hf2 := hO2.frozen (j * 2 + 1)
      have hO3 := hO2.set (j * 2 + 1) (.string (markS (k + (j : Int) * 2 + 1)))
      rw [pieceL_setT _ _ _ _ _ hlt, pieceL_mk] at hO3
      have HO3 := Lib.hid hO3
      have HG3 := Lib.hid (grown_trans hg2 (hO2.set_grown (j * 2 + 1) (.string (markS (k + (j : Int) * 2 + 1)))))
      clear hO2 hO3 hg2 hb2
      go_wp2
      go_roundw
      case rel => exact ⟨j + 1, by omega, by go_num, by go_num, HO3.out, HG3.out⟩
      case measure => simp [intOf]; omega
    · obtain rfl : j = n := by omega
      go_wp2
      go_ret
      exact ⟨rfl, hown, hb⟩
set_option maxHeartbeats 1000000 in
theorem laws_heldPieceS (f : Nat → Int) (t : Nat → ByteArray) (a : Option Addr) (n cap : Nat) (k : Int) (w : World) (h : Vals w a (pieceL (mkF k f n) (mkT k t n) n)) (hlen : n ≤ 1048577) (hk0 : 0 ≤ k) (hk1 : k ≤ 1073741824) :
    Calls Try.prog 42 #[.slice a n cap, .int .i64 k] w fun e w' => e = .returned (.int .i64 (k + n * 2)) ∧ Below w.heap.size w w' := by
  have hn := pieceL_length (mkF k f n) (mkT k t n) n
  have HN := Lib.hid hn; clear hn
  go_enter Try.func42, Try.ntmps42
  go_wp2
  go_loopw [1, 5] (fun m i wr => ∃ (j : Nat), j ≤ n ∧ i = .int .i64 j ∧ m = .int .i64 (k + j * 2) ∧ Below w.heap.size w wr)
    (fun _ i _ => n - (intOf i).toNat)
  case atStart => exact ⟨0, by omega, rfl, by go_num, Below.refl _ _⟩
  case round =>
    obtain ⟨j, hj, rfl, rfl, hb⟩ := hrel
    by_cases hlt : j < n
    · obtain ⟨b, off, rfl, hp⟩ := (h.kept hb).at (j * 2) (by rw [HN.out]; omega)
      have c1 := hp (j * 2) (by rw [HN.out]; omega)
      have c2 := hp (j * 2 + 1) (by rw [HN.out]; omega)
      obtain ⟨q1, q2⟩ := pieceL_at (mkF k f n) (mkT k t n) n j hlt
      rw [← Nat.add_assoc] at c2
      rw [q1, show mkF k f n j = k + (j : Int) * 2 by unfold mkF; rw [if_pos hlt]] at c1
      rw [q2, show mkT k t n j = markS (k + (j : Int) * 2 + 1) by unfold mkT; rw [if_pos hlt]] at c2
      have e1 : ((k + (j : Int) * 2) != (k + (j : Int) * 2)) = false := by simp
      have hlb := block_lt_of_cell c1
      obtain ⟨T, hT⟩ : ∃ T, markS (k + (j : Int) * 2 + 1) = T := ⟨_, rfl⟩
      have HT := Lib.hid hT
      rw [hT] at c2
      clear h hp q1 q2 hT
      go_wp2_with fail
      go_region_law ((go_simp; (go_at_call 89; refine (laws_markText _ _ (by omega)).mono ?_; rintro e w2 ⟨rfl, hb2⟩; rw [HT.out]; have hb2' := below_undrew hb2; have hd2 := (hb2'.cell (p := ⟨b, _, none⟩) hlb).trans c2)))
      all_goals
        have hB := hb.trans ((below_undrew hb2).mono hb.size)
        go_wp2
        go_roundw
        case rel => exact ⟨j + 1, by omega, by go_num, by go_num, hB⟩
        case measure => simp [intOf]; omega
    · obtain rfl : j = n := by omega
      go_wp2
      go_ret
      exact ⟨rfl, hb⟩
end Go.Proofs.Ytglldmfhjipacaa

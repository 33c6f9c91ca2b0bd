/-
  The reader of drawn bytes: whatever it draws, it turns its own block alone.
-/
import Derived.Test.YtpniiaemgobaiacBytes
import Derived.Outline
namespace Go.Proofs.Ytpniiaemgobaiac
open Go.RowKit
set_option linter.unusedVariables false
set_option maxRecDepth 100000
/-- block R is a reader over the row (a, len, cap, z), which lies below it -/
def RdAt (w : World) (R : Nat) (a : Option Addr) (len cap : Nat) (z : List Int) (p : Nat) : Prop :=
  w.heap[R]? = some (.cells #[.slice a len cap, .int .i64 p] 108 (0, 0)) ∧ p ≤ len ∧ len ≤ 1048576 ∧ IsRow .u8 w a len cap z ∧ ∀ x, a = some x → 0 < z.length → x.block < R
def RdOk (w : World) (R : Nat) (a : Option Addr) (len cap : Nat) (z : List Int) : Prop := ∃ p, RdAt w R a len cap z p
theorem grownBy_trans {w w1 w2 : World} {r : Option Nat} (h : w.grownBy w1 r) (h2 : w1.grownBy w2 r) : w.grownBy w2 r :=
  ⟨h2.os.trans h.os, h2.tape.trans h.tape, h2.output.trans h.output, Nat.le_trans h.size h2.size, fun k hk hne => (h2.block k (Nat.lt_of_lt_of_le hk h.size) hne).trans (h.block k hk hne)⟩
theorem grownBy_drewN {w w1 : World} {r : Option Nat} (h : w.grownBy w1 r) (n : Nat) : w.grownBy (w1.drewN n) r := ⟨h.os, h.tape, h.output, h.size, h.block⟩
theorem grownBy_setCell (w : World) (R o : Nat) (v : Value) : w.grownBy (w.setCell ⟨R, o, none⟩ v) (some R) :=
  ⟨rfl, rfl, rfl, by simp [World.setCell], fun k _ hne => heap_setCell_other w ⟨R, o, none⟩ k v (fun e => hne (by rw [e]))⟩
theorem isRow_kept {k : IntKind} {w w1 : World} {a : Option Addr} {len cap : Nat} {z : List Int} {R : Nat} (h : IsRow k w a len cap z) (hR : R ≤ w.heap.size) (hb : ∀ x, a = some x → 0 < z.length → x.block < R) (hg : ∀ j, j < R → w1.heap[j]? = w.heap[j]?) : IsRow k w1 a len cap z := by
  rcases h with h | ⟨x, rfl, h1, h2, h3, h4, h5⟩
  · exact .inl h
  · refine .inr ⟨x, rfl, h1, h2, h3, fun i hi => ?_, h5⟩
    have hx := hb x rfl (by omega)
    have e : (x.add i).block = x.block := by unfold Addr.add; split <;> rfl
    rw [← h4 i hi]
    exact World.cell?_of_block (by rw [e]; exact hg _ hx)
theorem RdAt.lt {w : World} {R : Nat} {a : Option Addr} {len cap : Nat} {z : List Int} {p : Nat} (h : RdAt w R a len cap z p) : R < w.heap.size := lt_of_block h.1
theorem RdOk.lt {w : World} {R : Nat} {a : Option Addr} {len cap : Nat} {z : List Int} (h : RdOk w R a len cap z) : R < w.heap.size := by obtain ⟨p, h⟩ := h; exact h.lt
/-- a reader is kept where no block up to its own is turned -/
theorem RdAt.kept {w w1 : World} {R : Nat} {a : Option Addr} {len cap : Nat} {z : List Int} {p : Nat} (h : RdAt w R a len cap z p) (hg : ∀ j, j ≤ R → w1.heap[j]? = w.heap[j]?) : RdAt w1 R a len cap z p :=
  ⟨(hg R (Nat.le_refl _)).trans h.1, h.2.1, h.2.2.1, isRow_kept h.2.2.2.1 (Nat.le_of_lt h.lt) h.2.2.2.2 (fun j hj => hg j (Nat.le_of_lt hj)), h.2.2.2.2⟩
theorem RdOk.kept {w w1 : World} {R : Nat} {a : Option Addr} {len cap : Nat} {z : List Int} (h : RdOk w R a len cap z) (hg : ∀ j, j ≤ R → w1.heap[j]? = w.heap[j]?) : RdOk w1 R a len cap z := by
  obtain ⟨p, h⟩ := h; exact ⟨p, h.kept hg⟩
theorem RdOk.alloc {w : World} {R : Nat} {a : Option Addr} {len cap : Nat} {z : List Int} (h : RdOk w R a len cap z) (o : Obj) : RdOk (w.alloc o) R a len cap z :=
  h.kept (fun j hj => Below.heap_alloc w o j (by have := h.lt; omega))
theorem RdOk.grown {w w1 : World} {R : Nat} {a : Option Addr} {len cap : Nat} {z : List Int} {r : Option Nat} (h : RdOk w R a len cap z) (hg : w.grownBy w1 r) (hr : ∀ k, r = some k → R < k) : RdOk w1 R a len cap z :=
  h.kept (fun j hj => hg.block j (by have := h.lt; omega) (fun e => by have := hr j e.symm; omega))
theorem RdOk.below {w w1 : World} {R : Nat} {a : Option Addr} {len cap : Nat} {z : List Int} (h : RdOk w R a len cap z) (hb : Below w.heap.size w w1) : RdOk w1 R a len cap z :=
  h.kept (fun j hj => hb.block j (by have := h.lt; omega))

/-- a step that writes to new blocks alone -/
theorem grownBy_own {w wa wb : World} {R : Nat} {row : Option Nat} (h : w.grownBy wa (some R)) (h2 : wa.grownBy wb row) (hr : ∀ k, row = some k → w.heap.size ≤ k) : w.grownBy wb (some R) :=
  ⟨h2.os.trans h.os, h2.tape.trans h.tape, h2.output.trans h.output, Nat.le_trans h.size h2.size, fun k hk hne => (h2.block k (Nat.lt_of_lt_of_le hk h.size) (fun e => by have := hr k e.symm; omega)).trans (h.block k hk hne)⟩
theorem grownBy_alloc {w wa : World} {R : Nat} (h : w.grownBy wa (some R)) (o : Obj) : w.grownBy (wa.alloc o) (some R) := grownBy_trans h (World.grownBy_alloc wa o _)
/-- one element of a literal that was laid ahead of a draw -/
theorem pick_any {p : Value → Prop} {w w2 : World} {R k : Nat} {cs : Array Value} {t : TypeId} (hg : (w.alloc (.cells cs t)).grownBy w2 (some R)) (hR : R < w.heap.size) (hk : k < cs.size) (hall : ∀ v ∈ cs.toList, p v) :
    ∃ v, w2.cell? ⟨w.heap.size, k, none⟩ = some v ∧ p v := by
  refine ⟨cs[k], hg.cell (by rw [World.cell?_alloc_new]; simp [hk]) (by simp; omega), hall _ (by simp)⟩
set_option maxHeartbeats 400000 in
theorem rd_next (w : World) (R : Nat) (a : Option Addr) (len cap : Nat) (z : List Int) (h : RdOk w R a len cap z) :
    Calls Try.prog 116 #[.pointer (some ⟨R, 0, none⟩)] w fun e w' => ∃ n : Int, e = .returned (.int .i64 n) ∧ (0 ≤ n ∧ n ≤ 255) ∧ RdOk w' R a len cap z ∧ w.grownBy w' (some R) := by
  obtain ⟨p, hp⟩ := h
  obtain ⟨h1, h2, h3, h4, h5⟩ := hp
  have hc0 : w.cell? ⟨R, 0, none⟩ = some (.slice a len cap) := by rw [cell_of_row w R 0 _ _ _ h1]; rfl
  have hc1 : w.cell? ⟨R, 1, none⟩ = some (.int .i64 p) := by rw [cell_of_row w R 1 _ _ _ h1]; rfl
  have hf1 := frozen_of_row w R 1 _ _ h1
  by_cases hlt : p < len
  · rcases h4 with ⟨rfl, rfl, rfl, rfl⟩ | ⟨x, rfl, hl, hm, hz, hcell, hwz⟩
    · omega
    · have hx := h5 x rfl (by omega)
      have hcp := hcell p (by omega)
      obtain ⟨b, off, spot⟩ := x
      have hspot : spot = none := by simpa [Addr.add] using World.cell?_spot (hcell 0 (by omega))
      subst hspot
      obtain ⟨n, hn⟩ : ∃ n, z.getD p 0 = n := ⟨_, rfl⟩
      rw [hn] at hcp
      have hcp' : w.cell? ⟨b, off + p, none⟩ = some (.int .u8 n) := by rw [Addr.add_lit] at hcp; exact hcp
      have hnb : 0 ≤ n ∧ n ≤ 255 := by
        have hin : z.getD p 0 ∈ z := by rw [List.getD_eq_getElem?_getD, List.getElem?_eq_getElem (by omega)]; simp
        rw [hn] at hin
        simpa [Lit.wf, IntKind.min, IntKind.max, IntKind.signed, IntKind.bits] using hwz n hin
      simp only at hx
      have hne : b ≠ R := by omega
      clear hn hcp
      have hi : (0 : Int) ≤ (p : Int) := by omega
      go_enter Try.func116, Try.ntmps116
      go_wp2
      go_quiet (fail)
      go_wp2
      have hW : w.grownBy ((w.drewN nq).setCell ⟨R, 1, none⟩ (.int .i64 ((p : Int) + 1))) (some R) := grownBy_trans (grownBy_drewN (World.grownBy.refl _ _) nq) (grownBy_setCell (w.drewN nq) R 1 _)
      have hW0 : ((w.drewN nq).setCell ⟨R, 1, none⟩ (.int .i64 ((p : Int) + 1))).heap[R]? = some (.cells #[.slice (some ⟨b, off, none⟩) len cap, .int .i64 ((p + 1 : Nat) : Int)] 108 (0, 0)) := by
        rw [heap_setCell_same (w.drewN nq) R 1 _ _ _ h1]; rfl
      generalize (w.drewN nq).setCell ⟨R, 1, none⟩ (.int .i64 ((p : Int) + 1)) = w1 at *
      have hd0 : w1.cell? ⟨R, 0, none⟩ = some (.slice (some ⟨b, off, none⟩) len cap) := by rw [cell_of_row w1 R 0 _ _ _ hW0]; rfl
      have hd1 : w1.cell? ⟨R, 1, none⟩ = some (.int .i64 ((p : Int) + 1)) := by rw [cell_of_row w1 R 1 _ _ _ hW0]; rfl
      have hd2 : w1.cell? ⟨b, off + p, none⟩ = some (.int .u8 n) := hW.cell hcp' (by simpa using hne)
      have hok : RdOk w1 R (some ⟨b, off, none⟩) len cap z := ⟨p + 1, hW0, by omega, h3, isRow_kept (R := R) (.inr ⟨_, rfl, hl, hm, hz, hcell, hwz⟩) (Nat.le_of_lt (lt_of_block h1)) h5 (fun j hj => hW.block j (by have := lt_of_block h1; omega) (by simp; omega)), h5⟩
      clear hcp' hc0 hc1 hf1 h1 hcell
      go_quiet (fail)
      go_wp2
      go_ret
      exact ⟨n, rfl, hnb, hok.below (below_drewN (Below.refl _ _) _), grownBy_drewN hW _⟩
  · obtain rfl : p = len := by omega
    go_enter Try.func116, Try.ntmps116
    go_wp2
    go_quiet (fail)
    go_wp2
    go_ret
    exact ⟨0, rfl, by omega, ⟨p, (show RdAt w R a p cap z p from ⟨h1, h2, h3, h4, h5⟩)⟩, grownBy_drewN (World.grownBy.refl _ _) _⟩

theorem rd_below (w : World) (R : Nat) (a : Option Addr) (len cap : Nat) (z : List Int) (h : RdOk w R a len cap z) (n : Int) :
    Calls Try.prog 82 #[.pointer (some ⟨R, 0, none⟩), .int .i64 n] w fun e w' => ∃ m : Int, e = .returned (.int .i64 m) ∧ (0 ≤ m ∧ (n ≤ 1 → m = 0) ∧ (1 < n → m < n) ∧ m ≤ 65535) ∧ RdOk w' R a len cap z ∧ w.grownBy w' (some R) := by
  by_cases h1 : n ≤ 1
  · go_enter Try.func82, Try.ntmps82
    go_wp2
    go_ret
    exact ⟨0, rfl, by omega, h, World.grownBy.refl _ _⟩
  · by_cases h2 : n ≤ 256
    · go_enter Try.func82, Try.ntmps82
      go_wp2_with (go_at_call 116; refine (rd_next _ _ _ _ _ _ h).mono ?_; rintro e w1 ⟨m, rfl, hm, hok, hg⟩; obtain ⟨hm0, hm1⟩ := hm)
      go_ret
      have e1 := Int.emod_nonneg m (show n ≠ 0 by omega)
      have e2 := Int.emod_lt_of_pos m (show 0 < n by omega)
      exact ⟨m % n, rfl, by omega, hok, hg⟩
    · go_enter Try.func82, Try.ntmps82
      go_wp2_with fail
      refine (rd_next _ _ _ _ _ _ h).mono ?_
      rintro e w1 ⟨m, rfl, hm, hok, hg⟩
      obtain ⟨hm0, hm1⟩ := hm
      go_wp2_with fail
      refine (rd_next _ _ _ _ _ _ hok).mono ?_
      rintro e w2 ⟨m2, rfl, hm2, hok2, hg2⟩
      obtain ⟨hm20, hm21⟩ := hm2
      go_wp2_with fail
      go_ret
      have e1 := Int.emod_nonneg (m * 256 + m2) (show n ≠ 0 by omega)
      have e2 := Int.emod_lt_of_pos (m * 256 + m2) (show 0 < n by omega)
      have e3 : (m * 256 + m2) % n ≤ m * 256 + m2 := by
        have := Int.emod_add_mul_ediv (m * 256 + m2) n
        have h0 : 0 ≤ n * ((m * 256 + m2) / n) := Int.mul_nonneg (by omega) (Int.ediv_nonneg (by omega) (by omega))
        omega
      exact ⟨(m * 256 + m2) % n, rfl, by omega, hok2, grownBy_trans hg hg2⟩
theorem rd_once (w : World) (R : Nat) (a : Option Addr) (len cap : Nat) (z : List Int) (h : RdOk w R a len cap z) (n : Int) (h0 : 0 ≤ n) (h1 : n ≤ 65536) :
    Calls Try.prog 56 #[.pointer (some ⟨R, 0, none⟩), .int .i64 n] w fun e w' => ∃ m : Bool, e = .returned (.bool m) ∧ RdOk w' R a len cap z ∧ w.grownBy w' (some R) := by
  go_enter Try.func56, Try.ntmps56
  go_wp2_with (go_at_call 82; refine (rd_below _ _ _ _ _ _ h _).mono ?_; rintro e w1 ⟨m, rfl, hm, hok, hg⟩)
  go_ret
  exact ⟨_, rfl, hok, hg⟩
set_option maxHeartbeats 400000 in
theorem rd_word (w : World) (R : Nat) (a : Option Addr) (len cap : Nat) (z : List Int) (h : RdOk w R a len cap z) :
    Calls Try.prog 118 #[.pointer (some ⟨R, 0, none⟩)] w fun e w' => ∃ m : Int, e = .returned (.int .u64 m) ∧ (0 ≤ m ∧ m ≤ 18446744073709551615) ∧ RdOk w' R a len cap z ∧ w.grownBy w' (some R) := by
  go_enter Try.func118, Try.ntmps118
  go_wp2
  go_loopw [3, 4] (fun v i wr => ∃ (k : Nat) (m : Int), k ≤ 8 ∧ i = .int .i64 k ∧ v = .int .u64 m ∧ (0 ≤ m ∧ m ≤ 18446744073709551615) ∧ RdOk wr R a len cap z ∧ w.grownBy wr (some R))
    (fun _ i _ => 8 - (intOf i).toNat)
  case atStart => exact ⟨0, 0, by omega, rfl, rfl, by omega, h, World.grownBy.refl _ _⟩
  case round =>
    obtain ⟨k, m, hk, rfl, rfl, hm, hok, hg⟩ := hrel
    by_cases hlt : k < 8
    · go_wp2_with (go_at_call 116; refine (rd_next _ _ _ _ _ _ hok).mono ?_; rintro e w1 ⟨n, rfl, hn, hok1, hg1⟩; obtain ⟨hn0, hn1⟩ := hn)
      go_roundw
      case rel => exact ⟨k + 1, _, by omega, by go_num, rfl, by simp only [bits]; rw [IntKind.wrap_u64]; omega, hok1, grownBy_trans hg hg1⟩
      case measure => simp [intOf]; omega
    · obtain rfl : k = 8 := by omega
      go_wp2
      go_ret
      exact ⟨m, rfl, hm, hok, hg⟩

set_option maxHeartbeats 400000 in
theorem rd_near (w : World) (R : Nat) (a : Option Addr) (len cap : Nat) (z : List Int) (h : RdOk w R a len cap z) (lo hi : Int) (hl0 : -1000000000000 ≤ lo) (hl1 : lo ≤ 1000000000000) (hh0 : -1000000000000 ≤ hi) (hh1 : hi ≤ 1000000000000) :
    Calls Try.prog 87 #[.pointer (some ⟨R, 0, none⟩), .int .i64 lo, .int .i64 hi] w fun e w' => ∃ m : Int, e = .returned (.int .i64 m) ∧ ((lo ≤ m ∧ m ≤ hi) ∨ m = lo ∨ m = hi) ∧ RdOk w' R a len cap z ∧ w.grownBy w' (some R) := by
  go_enter Try.func87, Try.ntmps87
  go_wp2_with fail
  refine (rd_below _ _ _ _ _ _ h _).mono ?_
  rintro e w1 ⟨m, rfl, ⟨hm0, _, hm1, _⟩, hok, hg⟩
  have hm2 : m < 8 := hm1 (by omega)
  clear hm1
  by_cases c0 : m = 0
  · subst c0
    go_wp2_with fail
    go_ret
    exact ⟨_, rfl, .inr (.inl rfl), hok, hg⟩
  · by_cases c1 : m = 1
    · subst c1
      go_wp2_with fail
      go_ret
      exact ⟨_, rfl, .inr (.inr rfl), hok, hg⟩
    · by_cases c2 : hi < lo
      · go_wp2_with fail
        go_ret
        exact ⟨_, rfl, .inr (.inl rfl), hok, hg⟩
      · go_wp2_with fail
        refine (rd_word _ _ _ _ _ _ hok).mono ?_
        rintro e w2 ⟨x, rfl, ⟨hx0, hx1⟩, hok2, hg2⟩
        have e1 := Int.emod_nonneg (x / 2) (show hi - lo + 1 ≠ 0 by omega)
        have e2 := Int.emod_lt_of_pos (x / 2) (show 0 < hi - lo + 1 by omega)
        go_wp2_with fail
        go_ret
        exact ⟨_, rfl, .inl (by omega), hok2, grownBy_trans hg hg2⟩
theorem rd_off (w : World) (R : Nat) (a : Option Addr) (len cap : Nat) (z : List Int) (h : RdOk w R a len cap z) (lo hi : Int) (hl0 : -1000000000000 ≤ lo) (hl1 : lo ≤ 1000000000000) (hh0 : -1000000000000 ≤ hi) (hh1 : hi ≤ 1000000000000) :
    Calls Try.prog 60 #[.pointer (some ⟨R, 0, none⟩), .int .i64 lo, .int .i64 hi] w fun e w' => ∃ m : Int, e = .returned (.int .i64 m) ∧ (-9223372036854775808 ≤ m ∧ m ≤ 9223372036854775807) ∧ RdOk w' R a len cap z ∧ w.grownBy w' (some R) := by
  go_enter Try.func60, Try.ntmps60
  go_wp2_with fail
  refine (rd_once _ _ _ _ _ _ h _ (by omega) (by omega)).mono ?_
  rintro e w1 ⟨m, rfl, hok, hg⟩
  cases m
  · go_wp2_with fail
    refine (rd_near _ _ _ _ _ _ hok _ _ (by omega) (by omega) (by omega) (by omega)).mono ?_
    rintro e w2 ⟨x, rfl, hx, hok2, hg2⟩
    go_wp2_with fail
    go_ret
    exact ⟨_, rfl, by omega, hok2, grownBy_trans hg hg2⟩
  · go_wp2_with fail
    refine (rd_below _ _ _ _ _ _ (hok.alloc _) _).mono ?_
    rintro e w2 ⟨x, rfl, ⟨hx0, _, hx1, _⟩, hok2, hg2⟩
    have hx2 : x < 4 := hx1 (by omega)
    clear hx1
    obtain ⟨k, rfl⟩ := Int.eq_ofNat_of_zero_le hx0
    obtain ⟨v, hv, y, rfl, hy⟩ := pick_any (k := k) (p := fun v => ∃ y : Int, v = .int .i64 y ∧ -9223372036854775808 ≤ y ∧ y ≤ 9223372036854775807) hg2 hok.lt (by simp; omega) (by
      intro v hv
      simp only [List.mem_cons, List.not_mem_nil, or_false] at hv
      rcases hv with rfl | rfl | rfl | rfl
      · exact ⟨_, rfl, by omega⟩
      · exact ⟨_, rfl, by omega⟩
      · exact ⟨_, rfl, by omega⟩
      · exact ⟨_, rfl, by omega⟩)
    go_wp2_with fail
    go_ret
    exact ⟨_, rfl, hy, hok2, grownBy_trans (grownBy_alloc hg _) hg2⟩
set_option maxHeartbeats 400000 in
theorem rd_term (w : World) (R : Nat) (a : Option Addr) (len cap : Nat) (z : List Int) (h : RdOk w R a len cap z) (n : Nat) (hn : n ≤ 1000) :
    Calls Try.prog 55 #[.pointer (some ⟨R, 0, none⟩), .int .i64 n] w fun e w' => ∃ s : ByteArray, e = .returned (.string s) ∧ s.size ≤ n + 1 ∧ RdOk w' R a len cap z ∧ w.grownBy w' (some R) := by
  obtain ⟨i0, hi, hz0, hz1, hz2⟩ := info_parts byte_info
  go_enter Try.func55, Try.ntmps55
  go_wp2_with fail
  refine (rd_below _ _ _ _ _ _ (h.alloc _) _).mono ?_
  rintro e w1 ⟨m, rfl, ⟨hm0, hm3, hm1, _⟩, hok, hg⟩
  have hm2 : m ≤ n := by
    by_cases h1 : (n : Int) ≤ 1
    · have := hm3 h1; omega
    · have := hm1 (by omega); omega
  clear hm1 hm3
  obtain ⟨q, rfl⟩ := Int.eq_ofNat_of_zero_le hm0
  have hwz := h.lt
  have hg1 : w.grownBy w1 (some R) := grownBy_trans (World.grownBy_alloc w _ _) hg
  have hown0 := (World.ownsRow_made (e := 5) (size := 1) w #[] 0 (Nat.le_refl _) (by decide) rfl).kept hg (.inr (by simp [Value.ownBlock]; omega))
  go_wp2_with fail
  go_loopw [5, 6] (fun v i wr => ∃ (k : Nat) (L : List UInt8), L.length + k = 1 + q ∧ i = .int .i64 k ∧ wr.ownsRow w.heap.size 5 1 v L.length (L.map byteVal) ∧ RdOk wr R a len cap z ∧ w.grownBy wr (some R))
    (fun _ i _ => (intOf i).toNat)
  case atStart => exact ⟨1 + q, [], by simp, by go_num, hown0, hok, hg1⟩
  case round =>
    obtain ⟨k, L, hL, rfl, hown, hokr, hgr⟩ := hrel
    by_cases hk0 : k = 0
    · subst hk0
      have hcv := run_owned_string (P := Try.prog) (w := wr) (src := 22) (dst := 9) (e := 5) Try.underlying22 Try.underlying5 Try.underlying9 _ hown
      go_wp2
      go_ret
      exact ⟨_, rfl, by show L.toArray.size ≤ _; simp; omega, hokr, hgr⟩
    · go_wp2_with fail
      refine (rd_below _ _ _ _ _ _ hokr _).mono ?_
      rintro e w2 ⟨x, rfl, ⟨hx0, _, hx1, _⟩, hok2, hg2⟩
      have hx2 : x < 6 := hx1 (by omega)
      clear hx1
      obtain ⟨j, rfl⟩ := Int.eq_ofNat_of_zero_le hx0
      have hown2 := hown.kept hg2 (.inr (fun e => by have := (hown.lt R e).1; omega))
      have hsz := hgr.size
      have hsz2 := hg2.size
      go_wp2_with (at_builtin; refine wpList_append_own _ rfl _ _ 22 rfl w.heap.size 5 i0 (.int .u8 0) 1 1 Try.underlying22 hi hz0 hz1 hz2 rfl (by decide) _ _ _ rfl (hown2.alloc _) ⟨w2.heap.size, 0, none⟩ 1 1 _ rfl rfl (cells_new _ _ _) (one_all rfl) (by unfold maxLen; omega) (by omega) (by simp; omega) ?_; intro v' w1 hown' hg _)
      have hown3 := own_cat (X := [_]) hown' rfl rfl
      have hokw := (hok2.alloc _).grown hg (fun k hk => by have := (hown2.lt k hk).1; omega)
      have hgw := grownBy_own (grownBy_alloc (grownBy_trans hgr hg2) _) hg (fun k hk => (hown2.lt k hk).1)
      clear hown hown2 hown' hg hg2 hgr
      go_roundw
      case rel => exact ⟨k - 1, _, by simp; omega, by congr 1; omega, hown3, hokw, hgw⟩
      case measure => simp [intOf]; omega

theorem byte_range (b : UInt8) : -9223372036854775808 ≤ (b.toNat : Int) ∧ (b.toNat : Int) ≤ 9223372036854775807 := by have := b.toNat_lt; omega
theorem isRow_lt {k : IntKind} {w : World} {a : Option Addr} {len cap : Nat} {z : List Int} (h : IsRow k w a len cap z) : ∀ x, a = some x → 0 < z.length → x.block < w.heap.size := by
  intro x hx hz
  rcases h with ⟨rfl, _⟩ | ⟨y, rfl, h1, h2, h3, h4, h5⟩
  · cases hx
  · cases hx
    have := block_lt_of_cell (h4 0 hz)
    have e : (x.add 0).block = x.block := by unfold Addr.add; split <;> rfl
    omega
theorem l1Open_any (a : Option Addr) (len cap : Nat) (z : List Int) (w : World) (hr : IsRow .u8 w a len cap z) (hl : len ≤ 1048576) :
    Calls Try.prog 47 #[.slice a len cap] w fun e w' => e = .returned (.pointer (some ⟨w.heap.size, 0, none⟩)) ∧ RdOk w' w.heap.size a len cap z ∧ Below w.heap.size w w' := by
  have hlt := isRow_lt hr
  go_enter Try.func47, Try.ntmps47
  go_wp2
  go_ret
  refine ⟨rfl, ⟨0, heap_alloc_new _ _, by omega, hl, isRow_kept hr (Nat.le_refl _) hlt (fun j hj => Below.heap_alloc _ _ _ hj), hlt⟩, (by repeat (first | exact Below.refl _ _ | assumption | (refine Below.drew ?_) | (refine below_drewN ?_ _) | (refine Below.alloc ?_ (by first | omega | (simp; done) | (simp; omega)) _) | (refine Below.setCell ?_ (by first | omega | (simp; done) | (simp; omega)) _)))⟩
theorem rd_nearly (w : World) (R : Nat) (a : Option Addr) (len cap : Nat) (z : List Int) (h : RdOk w R a len cap z) (s : ByteArray) (hs : s.size ≤ 1000) :
    Calls Try.prog 86 #[.pointer (some ⟨R, 0, none⟩), .string s] w fun e w' => ∃ t : ByteArray, e = .returned (.string t) ∧ t.size ≤ s.size + 2 ∧ RdOk w' R a len cap z ∧ w.grownBy w' (some R) := by
  go_enter Try.func86, Try.ntmps86
  go_wp2_with fail
  refine (rd_below _ _ _ _ _ _ h _).mono ?_
  rintro e w1 ⟨m, rfl, ⟨hm0, _, hm1, _⟩, hok, hg⟩
  have hm2 : m < 3 := hm1 (by omega)
  clear hm1
  obtain ⟨q, rfl⟩ := Int.eq_ofNat_of_zero_le hm0
  go_wp2_with fail
  go_loopw [1, 5] (fun v i wr => ∃ (k : Nat) (t : ByteArray), t.size + k ≤ s.size + q ∧ i = .int .i64 k ∧ v = .string t ∧ RdOk wr R a len cap z ∧ w.grownBy wr (some R))
    (fun _ i _ => (intOf i).toNat)
  case atStart => exact ⟨q, s, by omega, rfl, rfl, hok, hg⟩
  case round =>
    obtain ⟨k, t, hL, rfl, rfl, hokr, hgr⟩ := hrel
    by_cases hk0 : k = 0
    · subst hk0
      go_wp2
      go_ret
      exact ⟨_, rfl, by omega, hokr, hgr⟩
    · go_wp2_with fail
      refine (rd_below _ _ _ _ _ _ hokr _).mono ?_
      rintro e w2 ⟨x, rfl, ⟨hx0, hx3, hx1, _⟩, hok2, hg2⟩
      have hx2 : x ≤ t.size := by
        by_cases h1 : (t.size : Int) + 1 ≤ 1
        · have := hx3 h1; omega
        · have := hx1 (by omega); omega
      clear hx1 hx3
      obtain ⟨j, rfl⟩ := Int.eq_ofNat_of_zero_le hx0
      have hj : j ≤ t.size := by omega
      go_wp2_with fail
      refine (rd_below _ _ _ _ _ _ hok2 _).mono ?_
      rintro e w3 ⟨y, rfl, ⟨hy0, _, hy1, _⟩, hok3, hg3⟩
      have hy2 : y < 3 := hy1 (by omega)
      clear hy1
      have hgw := grownBy_trans hgr (grownBy_trans hg2 hg3)
      clear hgr hg2 hg3
      obtain ⟨A, hA⟩ : ∃ A, t.extract 0 j = A := ⟨_, rfl⟩
      obtain ⟨B, hB⟩ : ∃ B, t.extract j t.size = B := ⟨_, rfl⟩
      obtain ⟨C, hC⟩ : ∃ C, t.extract (j + 1) t.size = C := ⟨_, rfl⟩
      have hAs : A.size = j := by rw [← hA, ByteArray.size_extract]; omega
      have hBs : B.size = t.size - j := by rw [← hB, ByteArray.size_extract]; omega
      have hCs : C.size = t.size - (j + 1) := by rw [← hC, ByteArray.size_extract]; omega
      have hA1 : A.size ≤ 2000 := by omega
      have hB1 : B.size ≤ 2000 := by omega
      have hC1 : C.size ≤ 2000 := by omega
      have HA := Lib.hid hAs; have HB := Lib.hid hBs; have HC := Lib.hid hCs; clear hAs hBs hCs
      have hab : (A ++ ByteArray.mk #[99] ++ B).size = t.size + 1 := by rw [ByteArray.size_append, ByteArray.size_append, HA.out, HB.out]; show j + 1 + _ = _; omega
      have hac : (A ++ C).size = j + (t.size - (j + 1)) := by rw [ByteArray.size_append, HA.out, HC.out]
      have hac2 : (A ++ ByteArray.mk #[98] ++ C).size = j + 1 + (t.size - (j + 1)) := by rw [ByteArray.size_append, ByteArray.size_append, HA.out, HC.out]; rfl
      have HAB := Lib.hid hab; have HAC := Lib.hid hac; have HAD := Lib.hid hac2; clear hab hac hac2
      by_cases c0 : y = 0
      · subst c0
        go_wp2_with fail
        go_quiet (fail)
        go_wp2
        go_roundw
        case rel => exact ⟨k - 1, _, (by rw [HAB.out]; omega), by congr 1; omega, rfl, hok3.below (below_drewN (Below.refl _ _) _), grownBy_drewN hgw _⟩
        case measure => simp [intOf]; omega
      · by_cases c1 : y = 1
        · subst c1
          by_cases hjt : j < t.size
          · go_wp2_with fail
            go_quiet (fail)
            go_wp2
            go_roundw
            case rel => exact ⟨k - 1, _, (by rw [HAC.out]; omega), by congr 1; omega, rfl, hok3.below (below_drewN (Below.refl _ _) _), grownBy_drewN hgw _⟩
            case measure => simp [intOf]; omega
          · go_wp2_with fail
            go_roundw
            case rel => exact ⟨k - 1, _, (by omega), by congr 1; omega, rfl, hok3, hgw⟩
            case measure => simp [intOf]; omega
        · by_cases hjt : j < t.size
          · go_wp2_with fail
            go_quiet (fail)
            go_wp2
            go_roundw
            case rel => exact ⟨k - 1, _, (by rw [HAD.out]; omega), by congr 1; omega, rfl, hok3.below (below_drewN (Below.refl _ _) _), grownBy_drewN hgw _⟩
            case measure => simp [intOf]; omega
          · go_wp2_with fail
            go_roundw
            case rel => exact ⟨k - 1, _, (by omega), by congr 1; omega, rfl, hok3, hgw⟩
            case measure => simp [intOf]; omega
theorem isRow_below {k : IntKind} {w w1 : World} {a : Option Addr} {len cap : Nat} {z : List Int} (h : IsRow k w a len cap z) (hb : Below w.heap.size w w1) : IsRow k w1 a len cap z :=
  isRow_kept h (Nat.le_refl _) (isRow_lt h) (fun j hj => hb.block j hj)
theorem below_rd {w w1 w2 : World} (h : Below w.heap.size w w1) (hg : w1.grownBy w2 (some w.heap.size)) : Below w.heap.size w w2 := h.grown hg h.size (fun k hk => by cases hk; exact Nat.le_refl _)
end Go.Proofs.Ytpniiaemgobaiac

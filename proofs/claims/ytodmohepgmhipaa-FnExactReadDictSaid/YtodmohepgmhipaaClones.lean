/-
  Copies that the program makes: of a dictionary, of records, of numbers.
-/
import Derived.Test.YtodmohepgmhipaaAppV
import Derived.Test.YtodmohepgmhipaaSes
import Derived.Test.YtodmohepgmhipaaClone
import Derived.Test.YtodmohepgmhipaaSesTo
namespace Go.Proofs.Ytodmohepgmhipaa
open Go.RowKit
set_option linter.unusedVariables false
set_option maxRecDepth 100000
def patsTo (D : List Pt) : Nat → List Value
  | 0 => []
  | n + 1 => patsTo D n ++ [.string (ptAt D n).t, .int .i64 (ptAt D n).k, .bool (ptAt D n).f]
theorem patsTo_length (D : List Pt) (n : Nat) : (patsTo D n).length = n * 3 := by
  induction n with
  | zero => rfl
  | succ n ih => simp only [patsTo, List.length_append, ih, List.length_cons, List.length_nil]; omega
theorem patsTo_at (D : List Pt) (n i : Nat) (h : i < n) : patRow (patsTo D n) i (ptAt D i) := by
  induction n with
  | zero => omega
  | succ n ih =>
    unfold patRow
    simp only [patsTo]
    by_cases e : i = n
    · subst e
      rw [valAt_right (j := 0) (by rw [patsTo_length]; omega), valAt_right (j := 1) (by rw [patsTo_length]), valAt_right (j := 2) (by rw [patsTo_length])]
      exact ⟨rfl, rfl, rfl⟩
    · rw [valAt_left (by rw [patsTo_length]; omega), valAt_left (by rw [patsTo_length]; omega), valAt_left (by rw [patsTo_length]; omega)]
      exact ih (by omega)
theorem patsTo_pats (D : List Pt) : PatsV (patsTo D D.length) D := ⟨patsTo_length _ _, fun i hi => patsTo_at D _ i hi⟩
theorem patsTo_one (D : List Pt) (n : Nat) : ∀ u ∈ patsTo D n, u.oneCell' = true := by
  induction n with
  | zero => intro u hu; simp [patsTo] at hu
  | succ n ih =>
    intro u hu
    simp only [patsTo, List.mem_append, List.mem_cons, List.not_mem_nil, or_false] at hu
    rcases hu with h | rfl | rfl | rfl
    · exact ih u h
    · rfl
    · rfl
    · rfl
theorem Pats.vals {w : World} {a : Option Addr} {D : List Pt} (h : Pats w a D) : Vals w a (patsTo D D.length) := by
  rcases h with rfl | ⟨b, off, rfl, hp⟩
  · exact .inl rfl
  · refine .inr ⟨b, off, rfl, fun i hi => ?_⟩
    rw [patsTo_length] at hi
    obtain ⟨c0, c1, c2⟩ := hp (i / 3) (by omega)
    obtain ⟨q0, q1, q2⟩ := patsTo_at D D.length (i / 3) (by omega)
    have hm : i % 3 = 0 ∨ i % 3 = 1 ∨ i % 3 = 2 := by omega
    rcases hm with hm | hm | hm
    · have e : i = i / 3 * 3 := by omega
      rw [e, q0]; exact c0
    · have e : i = i / 3 * 3 + 1 := by omega
      rw [e, q1, ← Nat.add_assoc]; exact c1
    · have e : i = i / 3 * 3 + 2 := by omega
      rw [e, q2, ← Nat.add_assoc]; exact c2
set_option maxHeartbeats 2000000 in
theorem impl_cloneDict (D : List Pt) (a : Option Addr) (cap : Nat) (w : World) (h : Pats w a D) (hd : D.length ≤ 1048576) (ht : ∀ i, i < D.length → (ptAt D i).t.size ≤ 1048576) :
    Calls Try.prog 119 #[.slice a D.length cap] w fun e w' => ∃ a' cap', e = .returned (.slice a' D.length cap') ∧ OwnV 73 3 w' w.heap.size a' D.length cap' (patsTo D D.length) ∧ Below w.heap.size w w' := by
  obtain ⟨i0, hi, ht0, ht1, ht2⟩ := info_parts pat_info
  have HT := Lib.hid ht; clear ht
  go_enter Try.func119, Try.ntmps119
  go_wp2
  go_loopw [3, 8] (fun o i wr => ∃ (k : Nat) (a' : Option Addr) (cap' : Nat), k ≤ D.length ∧ i = .int .i64 k ∧ o = .slice a' k cap' ∧ OwnV 73 3 wr w.heap.size a' k cap' (patsTo D k) ∧ Below w.heap.size w wr)
    (fun _ i _ => D.length - (intOf i).toNat)
  case atStart => exact ⟨0, none, 0, by omega, rfl, rfl, OwnV.nil _ _, Below.refl _ _⟩
  case round =>
    obtain ⟨k, a', cap', hk, rfl, rfl, hO, hb⟩ := hrel
    by_cases hlt : k < D.length
    · obtain ⟨b, off, rfl, hp⟩ := (h.kept hb).at k hlt
      obtain ⟨c0, c1, c2⟩ := hp k hlt
      have hst := HT.out k hlt
      have HR := Lib.hid (show patsTo D (k + 1) = patsTo D k ++ [.string (ptAt D k).t, .int .i64 (ptAt D k).k, .bool (ptAt D k).f] from rfl)
      have HRL := Lib.hid (patsTo_length D (k + 1))
      have HO := Lib.hid hO
      clear hp h hO
      generalize ptAt D k = p at *
      obtain ⟨pt, pk, pf⟩ := p
      simp only at c0 c1 c2 hst
      go_wp2_with fail
      refine (str_clone pt _ hst).mono ?_
      rintro e w1 ⟨rfl, hb1⟩
      have d0 : w1.cell? ⟨wr.heap.size, 0, none⟩ = some (.string pt) := (hb1.cell (p := ⟨wr.heap.size, 0, none⟩) (by simp)).trans (by rw [World.cell?_alloc_new]; rfl)
      have d1 : w1.cell? ⟨wr.heap.size, 1, none⟩ = some (.int .i64 pk) := (hb1.cell (p := ⟨wr.heap.size, 1, none⟩) (by simp)).trans (by rw [World.cell?_alloc_new]; rfl)
      have d2 : w1.cell? ⟨wr.heap.size, 2, none⟩ = some (.bool pf) := (hb1.cell (p := ⟨wr.heap.size, 2, none⟩) (by simp)).trans (by rw [World.cell?_alloc_new]; rfl)
      have fz : w1.frozen? ⟨wr.heap.size, 0, none⟩ = false := (hb1.frozen (p := ⟨wr.heap.size, 0, none⟩) (by simp)).trans (frozen_of_row _ _ 0 _ _ (heap_alloc_new wr _))
      have hBK : Below wr.heap.size wr ((w1.setCell ⟨wr.heap.size, 0, none⟩ (.string pt)).alloc (.cells #[.string pt, .int .i64 pk, .bool pf] 73)) :=
        ((below_step (by repeat (first | exact Below.refl _ _ | assumption | (refine Below.drew ?_) | (refine below_drewN ?_ _) | (refine Below.alloc ?_ (by first | omega | (simp; done) | (simp; omega)) _) | (refine Below.setCell ?_ (by first | omega | (simp; done) | (simp; omega)) _))) hb1).setCell (p := ⟨wr.heap.size, 0, none⟩) (Nat.le_refl _) _).alloc (by have := hb1.size; simp at this; simp [World.setCell]; omega) _
      have HK := Lib.hid (HO.out.kept hBK)
      have HB := Lib.hid (hb.trans (hBK.mono hb.size))
      have HS := Lib.hid hb.size
      have HCC := Lib.hid (show ∀ j u, [Value.string pt, .int .i64 pk, .bool pf][j]? = some u → ((w1.setCell ⟨wr.heap.size, 0, none⟩ (.string pt)).alloc (.cells #[.string pt, .int .i64 pk, .bool pf] 73)).cell? ((⟨(w1.setCell ⟨wr.heap.size, 0, none⟩ (.string pt)).heap.size, 0, none⟩ : Addr).add j) = some u from by
        have := cells_new (w1.setCell ⟨wr.heap.size, 0, none⟩ (.string pt)) #[.string pt, .int .i64 pk, .bool pf] 73
        simpa using this)
      have hsz1 : (w1.setCell ⟨wr.heap.size, 0, none⟩ (.string pt)).heap.size = w1.heap.size := by simp [World.setCell]
      have HS1 := Lib.hid hb1.size
      rw [hsz1] at HCC
      clear hBK hb1 hsz1
      go_wp2_with (at_builtin; refine wpList_append_own _ rfl _ _ 22 rfl w.heap.size 73 i0 (.agg #[.string ⟨#[]⟩, .int .i64 0, .bool false]) 3 32 Try.underlying22 hi ht0 ht1 ht2 rfl (by decide) _ _ _ rfl HK.out.2 ⟨w1.heap.size, 0, none⟩ 1 1 [.string pt, .int .i64 pk, .bool pf] rfl rfl HCC.out (by simp [Value.oneCell']) (by unfold maxLen; omega) (by omega) (by have := HS.out; have := HS1.out; simp at *; omega) ?_; intro v' w3 hown' hg _; obtain ⟨a2, cap2, rfl, hO'⟩ := OwnV.shape HRL.out (by rw [HR.out]; exact hown'); have HO2 := Lib.hid hO'; have HB2 := Lib.hid (HK.out.turn (by have := HS.out; have := HS1.out; simp at *; omega) hg); clear hown' hg hO')
      go_roundw
      case rel => exact ⟨k + 1, a2, cap2, by omega, by go_num, rfl, HO2.out, HB.out.trans HB2.out⟩
      case measure => simp [intOf]; omega
    · obtain rfl : k = D.length := by omega
      go_wp2
      go_ret
      exact ⟨_, _, rfl, hO, hb⟩
set_option maxHeartbeats 1000000 in
theorem sl_cloneRec (L : List Int) (a : Option Addr) (n cap : Nat) (w : World) (hn : L.length = n * 3) (h : Ints w a L) (hlen : n ≤ 1048576) :
    Calls Try.prog 78 #[.slice a n cap] w fun e w' => ∃ a' cap', e = .returned (.slice a' n cap') ∧ OwnM 106 3 w' w.heap.size a' n cap' L ∧ Below w.heap.size w w' := by
  obtain ⟨i0, hi, ht0, ht1, ht2⟩ := info_parts rec_info
  cases a with
  | none =>
    have hL : L = [] := by
      rcases h with h | ⟨b, off, e, _⟩
      · exact h
      · cases e
    subst hL
    obtain rfl : n = 0 := by simp at hn; omega
    have EQ : ∀ W : World, (binOp BinOp.eql 37 (.slice none 0 cap) (Value.slice none 0 0)).run Try.prog W = Result.ok (Value.bool true) W := fun W => rfl
    go_enter Try.func78, Try.ntmps78
    go_wp2
    go_ret
    exact ⟨_, _, rfl, OwnM.nil _ _, (by repeat (first | exact Below.refl _ _ | assumption | (refine Below.drew ?_) | (refine below_drewN ?_ _) | (refine Below.alloc ?_ (by first | omega | (simp; done) | (simp; omega)) _) | (refine Below.setCell ?_ (by first | omega | (simp; done) | (simp; omega)) _)))⟩
  | some ad =>
    have hnews := Lib.hid (show News (w.alloc (.cells #[] 106)) (some ad) (L.map (Value.int .i64)) from (h.kept ((Below.refl _ w).alloc (Nat.le_refl _) _)).vals.news)
    have hone := Lib.hid (ints_oneCell .i64 L)
    have HL2 := Lib.hid (show (L.map (Value.int .i64)).length = n * 3 by rw [List.length_map, hn])
    have HN := Lib.hid hn
    clear hn
    have EQ : ∀ W : World, (binOp BinOp.eql 37 (.slice (some ad) n cap) (Value.slice none 0 0)).run Try.prog W = Result.ok (Value.bool false) W := fun W => rfl
    go_enter Try.func78, Try.ntmps78
    go_wp2_with (at_builtin; refine wpList_append_vals rfl _ _ 37 rfl w.heap.size 106 i0 (.agg #[.int .i64 0, .int .i64 0, .int .i64 0]) 3 24 Try.underlying37 hi ht0 ht1 ht2 rfl (by decide) _ _ _ rfl (World.ownsRow_made w #[] 0 (Nat.le_refl _) (by decide) rfl) (some ad) n cap (L.map (Value.int .i64)) rfl HL2.out hnews.out hone.out (by unfold maxLen; omega) (by omega) (by simp) ?_; intro v' w1 hown' hg)
    have hown2 : w1.ownsRow w.heap.size 106 3 v' n (L.map (Value.int .i64)) := by simpa using hown'
    obtain ⟨a', cap', rfl, hO⟩ := OwnM.shape HN.out hown2
    go_wp2
    go_ret
    exact ⟨_, _, rfl, hO, ((Below.refl _ w).alloc (Nat.le_refl _) _).grown hg (by simp) (fun q hq => by cases hq; exact Nat.le_refl _)⟩
set_option maxHeartbeats 1000000 in
theorem sl_cloneInts (L : List Int) (a : Option Addr) (n cap : Nat) (w : World) (hn : L.length = n) (h : Ints w a L) (hlen : n ≤ 1048577) :
    Calls Try.prog 120 #[.slice a n cap] w fun e w' => ∃ a' cap', e = .returned (.slice a' n cap') ∧ OwnN w' w.heap.size a' n cap' L ∧ Below w.heap.size w w' := by
  obtain ⟨i0, hi, ht0, ht1, ht2⟩ := info_parts int_info
  cases a with
  | none =>
    have hL : L = [] := by
      rcases h with h | ⟨b, off, e, _⟩
      · exact h
      · cases e
    subst hL
    obtain rfl : n = 0 := by simp at hn; omega
    have EQ : ∀ W : World, (binOp BinOp.eql 56 (.slice none 0 cap) (Value.slice none 0 0)).run Try.prog W = Result.ok (Value.bool true) W := fun W => rfl
    go_enter Try.func120, Try.ntmps120
    go_wp2
    go_ret
    exact ⟨_, _, rfl, OwnN.nil _ _, (by repeat (first | exact Below.refl _ _ | assumption | (refine Below.drew ?_) | (refine below_drewN ?_ _) | (refine Below.alloc ?_ (by first | omega | (simp; done) | (simp; omega)) _) | (refine Below.setCell ?_ (by first | omega | (simp; done) | (simp; omega)) _)))⟩
  | some ad =>
    have hnews := Lib.hid (show News (w.alloc (.cells #[] 2)) (some ad) (L.map (Value.int .i64)) from (h.kept ((Below.refl _ w).alloc (Nat.le_refl _) _)).vals.news)
    have hone := Lib.hid (ints_oneCell .i64 L)
    have HL2 := Lib.hid (show (L.map (Value.int .i64)).length = n * 1 by rw [List.length_map, hn, Nat.mul_one])
    clear hn
    have EQ : ∀ W : World, (binOp BinOp.eql 56 (.slice (some ad) n cap) (Value.slice none 0 0)).run Try.prog W = Result.ok (Value.bool false) W := fun W => rfl
    go_enter Try.func120, Try.ntmps120
    go_wp2_with (at_builtin; refine wpList_append_vals rfl _ _ 56 rfl w.heap.size 2 i0 (.int .i64 0) 1 8 Try.underlying56 hi ht0 ht1 ht2 rfl (by decide) _ _ _ rfl (World.ownsRow_made w #[] 0 (Nat.le_refl _) (by decide) rfl) (some ad) n cap (L.map (Value.int .i64)) rfl HL2.out hnews.out hone.out (by unfold maxLen; omega) (by omega) (by simp) ?_; intro v' w1 hown' hg)
    have hown2 : w1.ownsRow w.heap.size 2 1 v' n (L.map (Value.int .i64)) := by simpa using hown'
    obtain ⟨a', cap', rfl, hO⟩ := OwnN.shape hown2
    go_wp2
    go_ret
    exact ⟨_, _, rfl, hO, ((Below.refl _ w).alloc (Nat.le_refl _) _).grown hg (by simp) (fun q hq => by cases hq; exact Nat.le_refl _)⟩
end Go.Proofs.Ytodmohepgmhipaa

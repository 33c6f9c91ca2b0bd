/-
  Sessions: the laws' mark on one, part by part.
-/
import Derived.Test.YtodmohepgmhipaaSes
import Derived.Test.YtodmohepgmhipaaColsMade
import Derived.Test.YtodmohepgmhipaaMark
namespace Go.Proofs.Ytodmohepgmhipaa
open Go.RowKit
set_option linter.unusedVariables false
set_option maxRecDepth 100000
theorem Trn.one {a : Option Addr} {g o n m : Nat} (w : World) (i : Nat) (x : Value) (ha : a = some ⟨g, o, none⟩) (hn : n ≠ 0) : Trn (fun b => blkO a n = some b) w (w.setCell ⟨g, i, none⟩ x) := Trn.set w g i x (by subst ha; exact blkO_some hn)
set_option maxHeartbeats 1000000 in
theorem markInts_w (L : List Int) (a : Option Addr) (cap : Nat) (k : Int) (w : World) (h : WrI w a L) (hlen : L.length ≤ 3145729) (hk0 : 0 ≤ k) (hk1 : k ≤ 1073741824) :
    Calls Try.prog 42 #[.slice a L.length cap, .int .i64 k] w fun e w' => e = .returned (.int .i64 (k + L.length)) ∧ WrI w' a (tab (fun i => k + i) L.length) ∧ Trn (fun b => blkO a L.length = some b) w w' := by
  go_enter Try.func42, Try.ntmps42
  go_wp2
  go_loopw [1, 5] (fun m i wr => ∃ (j : Nat) (M : List Int), j ≤ L.length ∧ i = .int .i64 j ∧ m = .int .i64 (k + j) ∧ M.length = L.length ∧ WrI wr a M ∧ UpTo (fun i => k + i) j M ∧ Trn (fun b => blkO a L.length = some b) w wr)
    (fun _ i _ => L.length - (intOf i).toNat)
  case atStart => exact ⟨0, L, by omega, rfl, by go_num, rfl, h, UpTo.zero _ _, Trn.refl _ _⟩
  case round =>
    obtain ⟨j, M, hj, rfl, rfl, hl, hown, hup, hb⟩ := hrel
    by_cases hlt : j < L.length
    · obtain ⟨g, off, rfl, hg, hv, hf⟩ := Wr.at hown j (by simpa using (by omega : j < M.length))
      have hc := hv.ints j (by omega)
      have hf0 := hf (off + j)
      have hown2 := Lib.hid (hown.set j (k + j) (by omega))
      have hgr := Lib.hid (hb.trans (Trn.one (m := 0) (n := L.length) wr (off + j) (.int .i64 (k + j)) rfl (by omega)))
      have hup2 := Lib.hid (hup.set (by omega))
      have hl2 := Lib.hid hl
      clear hown hup hb hv hf hl h
      go_wp2
      go_roundw
      case rel => exact ⟨j + 1, M.set j (k + j), by omega, by go_num, by go_num, by simpa using hl2.out, hown2.out, hup2.out, hgr.out⟩
      case measure => simp [intOf]; omega
    · obtain rfl : j = L.length := by omega
      have hM := hup.tab hl
      subst hM
      go_wp2
      go_ret
      exact ⟨rfl, hown, hb⟩
set_option maxHeartbeats 2000000 in
theorem markRecs_w (L : List Int) (a : Option Addr) (n cap : Nat) (k : Int) (w : World) (hn : L.length = n * 3) (h : WrI w a L) (hlen : n ≤ 1048577) (hk0 : 0 ≤ k) (hk1 : k ≤ 1073741824) :
    Calls Try.prog 24 #[.slice a n cap, .int .i64 k] w fun e w' => e = .returned (.int .i64 (k + n * 3)) ∧ WrI w' a (tab (fun i => k + i) (n * 3)) ∧ Trn (fun b => blkO a (n * 3) = some b) w w' := by
  go_enter Try.func24, Try.ntmps24
  go_wp2
  go_loopw [1, 5] (fun m i wr => ∃ (j : Nat) (M : List Int), j ≤ n ∧ i = .int .i64 j ∧ m = .int .i64 (k + j * 3) ∧ M.length = n * 3 ∧ WrI wr a M ∧ UpTo (fun i => k + i) (j * 3) M ∧ Trn (fun b => blkO a (n * 3) = some b) w wr)
    (fun _ i _ => n - (intOf i).toNat)
  case atStart => exact ⟨0, L, by omega, rfl, by go_num, hn, h, UpTo.zero _ _, Trn.refl _ _⟩
  case round =>
    obtain ⟨j, M, hj, rfl, rfl, hl, hown, hup, hb⟩ := hrel
    by_cases hlt : j < n
    · obtain ⟨g, off, rfl, hg, hv, hf⟩ := Wr.at hown (j * 3) (by simpa using (by omega : j * 3 < M.length))
      have hc := hv.ints (j * 3) (by omega)
      have hd := hv.ints (j * 3 + 1) (by omega)
      have he := hv.ints (j * 3 + 2) (by omega)
      rw [← Nat.add_assoc] at hd he
      have hf0 := hf (off + j * 3)
      have hf1 := hf (off + j * 3 + 1)
      have hf2 := hf (off + j * 3 + 2)
      have hown1 := hown.set (j * 3) (k + (j : Int) * 3) (by omega)
      have hown2 := hown1.set (j * 3 + 1) (k + (j : Int) * 3 + 1) (by simp; omega)
      rw [← Nat.add_assoc] at hown2
      have hown3' := hown2.set (j * 3 + 2) (k + (j : Int) * 3 + 1 + 1) (by simp; omega)
      rw [← Nat.add_assoc] at hown3'
      have hown3 := Lib.hid hown3'
      have hn0 : n * 3 ≠ 0 := by omega
      have hgr := Lib.hid (((hb.trans (Trn.one (m := 0) (n := n * 3) wr (off + j * 3) (.int .i64 (k + (j : Int) * 3)) rfl hn0)).trans (Trn.one (m := 0) (n := n * 3) _ (off + j * 3 + 1) (.int .i64 (k + (j : Int) * 3 + 1)) rfl hn0)).trans (Trn.one (m := 0) (n := n * 3) _ (off + j * 3 + 2) (.int .i64 (k + (j : Int) * 3 + 1 + 1)) rfl hn0))
      have hup1 : UpTo (fun i => k + i) (j * 3 + 1) (M.set (j * 3) (k + (j : Int) * 3)) := by
        have := hup.set (by omega)
        have e : k + ((j * 3 : Nat) : Int) = k + (j : Int) * 3 := by omega
        rw [← e]; exact this
      have hup2 : UpTo (fun i => k + i) (j * 3 + 1 + 1) ((M.set (j * 3) (k + (j : Int) * 3)).set (j * 3 + 1) (k + (j : Int) * 3 + 1)) := by
        have := hup1.set (by simp; omega)
        have e : k + ((j * 3 + 1 : Nat) : Int) = k + (j : Int) * 3 + 1 := by omega
        rw [← e]; exact this
      have hup3' : UpTo (fun i => k + i) ((j + 1) * 3) (((M.set (j * 3) (k + (j : Int) * 3)).set (j * 3 + 1) (k + (j : Int) * 3 + 1)).set (j * 3 + 2) (k + (j : Int) * 3 + 1 + 1)) := by
        have := hup2.set (by simp; omega)
        have e : k + ((j * 3 + 1 + 1 : Nat) : Int) = k + (j : Int) * 3 + 1 + 1 := by omega
        have e2 : (j + 1) * 3 = j * 3 + 1 + 1 + 1 := by omega
        rw [e2, ← e]; exact this
      have hup3 := Lib.hid hup3'
      have hl2 := Lib.hid hl
      clear hup1 hup2 hup3' hown3'
      clear hown hup hown1 hown2 hl hb hv hf h hn
      go_wp2
      go_roundw
      case rel => exact ⟨j + 1, _, by omega, by go_num, by go_num, by simpa using hl2.out, hown3.out, hup3.out, hgr.out⟩
      case measure => simp [intOf]; omega
    · obtain rfl : j = n := by omega
      have hM := hup.tab hl
      subst hM
      go_wp2
      go_ret
      exact ⟨rfl, hown, hb⟩
def markPt (k : Int) : Pt := ⟨markS k, k + 1, decide ((k + 2) % 3 = 0)⟩
def markPts (k : Int) (n : Nat) : List Pt := (List.range n).map fun i : Nat => markPt (k + (i : Int) * 3)
theorem markPts_length (k : Int) (n : Nat) : (markPts k n).length = n := by simp [markPts]
theorem markPts_at (k : Int) (n i : Nat) (h : i < n) : ptAt (markPts k n) i = markPt (k + (i : Int) * 3) := by simp [markPts, ptAt, List.getD_eq_getElem?_getD, h]
theorem patRow_set {V : List Value} {i j : Nat} {p : Pt} {x : Value} (h : patRow V i p) (hj : j < V.length) (hne : j ≠ i * 3 ∧ j ≠ i * 3 + 1 ∧ j ≠ i * 3 + 2) : patRow (V.set j x) i p := by
  obtain ⟨q0, q1, q2⟩ := h
  exact ⟨by rw [valAt_set _ _ _ _ hj, if_neg hne.1]; exact q0, by rw [valAt_set _ _ _ _ hj, if_neg hne.2.1]; exact q1, by rw [valAt_set _ _ _ _ hj, if_neg hne.2.2]; exact q2⟩
theorem patRow_set3 (V : List Value) (i : Nat) (p : Pt) (h : i * 3 + 2 < V.length) : patRow (((V.set (i * 3) (.string p.t)).set (i * 3 + 1) (.int .i64 p.k)).set (i * 3 + 2) (.bool p.f)) i p := by
  refine ⟨?_, ?_, ?_⟩
  · rw [valAt_set _ _ _ _ (by simp; omega), if_neg (by omega), valAt_set _ _ _ _ (by simp; omega), if_neg (by omega), valAt_set _ _ _ _ (by omega), if_pos rfl]
  · rw [valAt_set _ _ _ _ (by simp; omega), if_neg (by omega), valAt_set _ _ _ _ (by simp; omega), if_pos rfl]
  · rw [valAt_set _ _ _ _ (by simp; omega), if_pos rfl]
set_option maxHeartbeats 4000000 in
theorem markPats_w (L : List Pt) (P : List Value) (a : Option Addr) (cap : Nat) (k : Int) (w : World) (hP : PatsV P L) (h : Wr w a P) (hlen : L.length ≤ 1048577) (hk0 : 0 ≤ k) (hk1 : k ≤ 1073741824) :
    Calls Try.prog 12 #[.slice a L.length cap, .int .i64 k] w fun e w' => ∃ P', e = .returned (.int .i64 (k + L.length * 3)) ∧ PatsV P' (markPts k L.length) ∧ Wr w' a P' ∧ Trn (fun b => blkO a L.length = some b) w w' := by
  go_enter Try.func12, Try.ntmps12
  go_wp2
  go_loopw [1, 5] (fun m i wr => ∃ (j : Nat) (M : List Value), j ≤ L.length ∧ i = .int .i64 j ∧ m = .int .i64 (k + j * 3) ∧ M.length = L.length * 3 ∧ Wr wr a M ∧ (∀ i, i < j → patRow M i (markPt (k + (i : Int) * 3))) ∧ Trn (fun b => blkO a L.length = some b) w wr)
    (fun _ i _ => L.length - (intOf i).toNat)
  case atStart => exact ⟨0, P, by omega, rfl, by go_num, hP.1, h, fun i hi => by omega, Trn.refl _ _⟩
  case round =>
    obtain ⟨j, M, hj, rfl, rfl, hl, hown, hup, hb⟩ := hrel
    by_cases hlt : j < L.length
    · obtain ⟨g, off, rfl, hg, hv, hf⟩ := Wr.at hown (j * 3) (by omega)
      have HO := Lib.hid hown
      have HU := Lib.hid hup
      have HB := Lib.hid hb
      have HL := Lib.hid hl
      clear hown hup hb hv hf hl h hP
      go_wp2_with fail
      refine (laws_markText _ _ (by omega)).mono ?_
      rintro e w2 ⟨rfl, hb2⟩
      have hown := HO.out.kept hb2
      obtain ⟨g', off', e', hg2, hv, hf⟩ := Wr.at hown (j * 3) (by have := HL.out; omega)
      cases e'
      have hl := HL.out
      have c0 := hv (j * 3) (by omega)
      have c1 := hv (j * 3 + 1) (by omega)
      have c2 := hv (j * 3 + 2) (by omega)
      rw [← Nat.add_assoc] at c1 c2
      have hf0 := hf (off + j * 3)
      have hf1 := hf (off + j * 3 + 1)
      have hf2 := hf (off + j * 3 + 2)
      have hp : markPt (k + (j : Int) * 3) = ⟨markS (k + (j : Int) * 3), k + (j : Int) * 3 + 1, decide ((k + (j : Int) * 3 + 2) % 3 = 0)⟩ := rfl
      have hown1 := hown.set (j * 3) (.string (markS (k + (j : Int) * 3))) (by omega)
      have hown2 := hown1.set (j * 3 + 1) (.int .i64 (k + (j : Int) * 3 + 1)) (by simp; omega)
      have hown3 := hown2.set (j * 3 + 2) (.bool (decide ((k + (j : Int) * 3 + 1 + 1) % 3 = 0))) (by simp; omega)
      rw [← Nat.add_assoc, ← Nat.add_assoc] at hown3
      have hn0 : L.length ≠ 0 := by omega
      have hgr := Lib.hid ((((HB.out.trans (Trn.of_below hb2)).trans (Trn.one (m := 0) (n := L.length) w2 (off + j * 3) (.string (markS (k + (j : Int) * 3))) rfl hn0)).trans (Trn.one (m := 0) (n := L.length) _ (off + j * 3 + 1) (.int .i64 (k + (j : Int) * 3 + 1)) rfl hn0)).trans (Trn.one (m := 0) (n := L.length) _ (off + j * 3 + 2) (.bool (decide ((k + (j : Int) * 3 + 1 + 1) % 3 = 0))) rfl hn0))
      have HO3 := Lib.hid hown3
      have HM3 := Lib.hid (show ∀ i, i < j + 1 → patRow (((M.set (j * 3) (.string (markS (k + (j : Int) * 3)))).set (j * 3 + 1) (.int .i64 (k + (j : Int) * 3 + 1))).set (j * 3 + 2) (.bool (decide ((k + (j : Int) * 3 + 1 + 1) % 3 = 0)))) i (markPt (k + (i : Int) * 3)) from fun i hi => by
        by_cases e : i = j
        · subst e
          have := patRow_set3 M i (markPt (k + (i : Int) * 3)) (by omega)
          rw [hp] at this ⊢
          rw [show k + (i : Int) * 3 + 1 + 1 = k + (i : Int) * 3 + 2 by omega]
          exact this
        · exact patRow_set (patRow_set (patRow_set (HU.out i (by omega)) (by omega) (by omega)) (by simp; omega) (by omega)) (by simp; omega) (by omega))
      have t3 : (k + (j : Int) * 3 + 1 + 1).tmod 3 = (k + (j : Int) * 3 + 1 + 1) % 3 := Int.tmod_eq_emod_of_nonneg (by omega)
      clear hown1 hown2 hown3 hown hv hf hb2 hp
      generalize hs0 : valAt M (j * 3) = u0 at c0
      generalize hs1 : valAt M (j * 3 + 1) = u1 at c1
      generalize hs2 : valAt M (j * 3 + 2) = u2 at c2
      clear hs0 hs1 hs2
      go_wp2
      go_roundw
      case rel => exact ⟨j + 1, _, by omega, by go_num, by go_num, by simpa using HL.out, HO3.out, HM3.out, hgr.out⟩
      case measure => simp [intOf]; omega
    · obtain rfl : j = L.length := by omega
      go_wp2
      go_ret
      exact ⟨M, rfl, ⟨by rw [markPts_length]; exact hl, fun i hi => by rw [markPts_length] at hi; rw [markPts_at _ _ _ hi]; exact hup i hi⟩, hown, hb⟩
end Go.Proofs.Ytodmohepgmhipaa

/-
  Chapter 3: the next column's model.
-/
import Derived.Test.YtpniiaemgobaiaaL3Next
import Derived.Test.YtpniiaemgobaiaaOwnMore
import Derived.Deep.RegionLaw
import Derived.Deep.AppendLies
namespace Go.Proofs.Ytpniiaemgobaiaa
open Go.RowKit
set_option linter.unusedVariables false
set_option maxRecDepth 100000
set_option maxHeartbeats 2000000 in
theorem spec_l3Next (s : ByteArray) (f : Bool) (L : List Int) (a : Option Addr) (n cap : Nat) (head b M : Int) (w : World) (hs : s.size ≤ 1048576) (hns : n = s.size + 1) (hn : L.length = n) (h : Ints w a L) (hB : Bnd (intAt L) s.size M) (hM : M ≤ 1048577) (h0 : 0 ≤ head) (h1 : head ≤ M + 1) (hb0 : 0 ≤ b) (hb1 : b ≤ 255) :
    Calls Try.prog 78 #[.string s, .bool f, .slice a n cap, .int .u8 b, .int .i64 head] w fun e w' => ∃ a' cap', e = .returned (.slice a' n cap') ∧ OwnN w' w.heap.size a' n cap' (tab (nextAt (maskG s f b) (intAt L) head) n) ∧ Below w.heap.size w w' := by
  obtain ⟨i0, hi, ht0, ht1, ht2⟩ := info_parts int_info
  have hM0 : 0 ≤ M := by have := hB 0 (Nat.zero_le _); omega
  have hN := nextAt_bnd (eq := maskG s f b) hB h0 h1
  obtain ⟨F, hF⟩ : ∃ F, F = nextAt (maskG s f b) (intAt L) head := ⟨_, rfl⟩
  have hF0 : F 0 = head := by rw [hF]; rfl
  have hFs : ∀ k, F (k + 1) = min3 (if maskG s f b k then intAt L k else intAt L k + 1) (intAt L (k + 1) + 1) (F k + 1) := by intro k; rw [hF]; rfl
  rw [← hF] at hN ⊢
  have HF0 := Lib.hid hF0; have HFs := Lib.hid hFs; have HN := Lib.hid hN; have HB := Lib.hid hB
  have HL := Lib.hid hn
  clear hF hF0 hFs hN hB hn
  have hn3 : n ≤ 1048577 := by omega
  have hn1 : 0 < n := by omega
  have HNN := Lib.hid hns; clear hns
  go_enter Try.func78, Try.ntmps78
  go_wp2
  go_loopw [11, 12] (fun v i wr => ∃ (k g c : Nat), k ≤ s.size ∧ i = .int .i64 ((k : Int) + 1) ∧ v = .slice (some ⟨g, 0, none⟩) (k + 1) c ∧ OwnN wr w.heap.size (some ⟨g, 0, none⟩) (k + 1) c (tab F (k + 1)) ∧ Below w.heap.size w wr)
    (fun _ i _ => s.size + 1 - (intOf i).toNat)
  case atStart =>
    refine ⟨0, w.heap.size, 1, by omega, by go_num, rfl, ⟨by simp [tab], ?_⟩, (Below.refl _ _).alloc (Nat.le_refl _) _⟩
    have := World.ownsRow_lit (base := w.heap.size) (e := 2) (size := 1) w #[.int .i64 head] 1 (Nat.le_refl _) (by decide) rfl
    simpa [tab, HF0.out] using this
  case round =>
    obtain ⟨k, g, c, hk, rfl, rfl, hO, hb⟩ := hrel
    by_cases hlt : k < s.size
    · have hkn : k + 1 < n := by have := HNN.out; omega
      obtain ⟨b0, off, rfl, hp⟩ := (h.kept hb).at k (by rw [HL.out, HNN.out]; omega)
      have c0 := hp k (by rw [HL.out, HNN.out]; omega)
      have c1 := hp (k + 1) (by rw [HL.out, HNN.out]; omega)
      have d0 := hO.cell k (by omega)
      rw [intAt_tab F _ _ (by omega)] at d0
      obtain ⟨hx0, hx1⟩ := HB.out k (by omega); obtain ⟨hy0, hy1⟩ := HB.out (k + 1) (by omega); obtain ⟨hz0, hz1⟩ := HN.out k (by omega)
      have hc := s[k].toNat_lt
      have hbe : maskG s f b k = eqI s[k].toNat b f := by unfold maskG; rw [byteAt_eq s k hlt]
      have HS := Lib.hid (HFs.out k)
      have HO := Lib.hid hO
      have kw : IntKind.i64.wrap ((k : Int) + 1) = (k : Int) + 1 := by rw [IntKind.wrap_i64]; omega
      have k0 : (0 : Int) ≤ (k : Int) + 1 := by omega
      have k1 : (k : Int) + 1 < (n : Int) := by omega
      have kt : ((k : Int) + 1).toNat = k + 1 := by omega
      have kl : (k : Int) < (n : Int) := by omega
      have km : (k : Int) + 1 ≤ (s.size : Int) := by omega
      clear hO h hp
      generalize intAt L k = x at *
      generalize intAt L (k + 1) = y at *
      generalize hqq : F k = q at *
      have HQQ := Lib.hid hqq; clear hqq
      cases hq : maskG s f b k
      · have ht := hbe.symm.trans hq
        have HQ := Lib.hid hq
        clear hbe hq
        go_wp2_with (go_at_call 55; refine (spec_l1Eq _ _ _ _ (by omega) (by omega) (by omega) (by omega)).mono ?_; rintro e w' ⟨rfl, rfl⟩)
        have e : F (k + 1) = (if q + 1 < if y < x then y + 1 else x + 1 then q + 1 else if y < x then y + 1 else x + 1) := by
          rw [HS.out, HQ.out]; unfold min3; simp
        have E := Lib.hid e; clear e
        have hmx : k + 1 + 1 ≤ maxLen := by unfold maxLen; omega
        have hby : (k + 1 + 1) * 8 ≤ 140737488355328 := by omega
        have hba : ∀ o, w.heap.size ≤ (wr.alloc o).drew.heap.size := fun o => by have := hb.size; simp; omega
        have hkk : (k : Int) < (k : Int) + 1 := by omega
        have yw : IntKind.i64.wrap (y + 1) = y + 1 := by rw [IntKind.wrap_i64]; omega
        have YW := Lib.hid yw; clear yw
        have qw : IntKind.i64.wrap (q + 1) = q + 1 := by rw [IntKind.wrap_i64]; omega
        have QW := Lib.hid qw; clear qw
        have kw2 : IntKind.i64.wrap (k : Int) = (k : Int) := by rw [IntKind.wrap_i64]; omega
        have yw := YW.out; have qw := QW.out
        go_region_law ((refine step_append_lies _ rfl (.tmp 37) (.tmp 51) 78 rfl w.heap.size 2 i0 (.int .i64 0) 1 8 Try.underlying78 hi ht0 ht1 ht2 rfl (by decide) (.slice (some ⟨g, 0, none⟩) (k + 1) c) _ _ (by simp [Act.eval]) (HO.out.2.alloc _).drew ⟨wr.heap.size, 0, none⟩ 1 1 [.int .i64 (if q + 1 < if y < x then y + 1 else x + 1 then q + 1 else if y < x then y + 1 else x + 1)] (by simp [Act.eval]) rfl (fun j u h => cells_new wr _ _ j u h) (one_all rfl) (by decide) hmx hby (hba _) _ rfl ?_; intro g1 cap1 w1 hown' hg _ _))
        all_goals
          rw [← E.out] at hown'
          have hO1 := Lib.hid (OwnN.snoc hown')
          clear kw kt kw2 yw qw
          have hB1 := (hb.alloc hb.size (.cells #[.int .i64 (if q + 1 < if y < x then y + 1 else x + 1 then q + 1 else if y < x then y + 1 else x + 1)] 2)).drew.grown hg (by have := hb.size; simp; omega) (fun j hj => (HO.out.2.lt j hj).1)
          clear hown' hg
          go_wp2
          go_roundw
          case rel => exact ⟨k + 1, g1, cap1, by omega, by go_num, rfl, hO1.out, hB1⟩
          case measure => simp [intOf]; omega
      · have ht := hbe.symm.trans hq
        have HQ := Lib.hid hq
        clear hbe hq
        go_wp2_with (go_at_call 55; refine (spec_l1Eq _ _ _ _ (by omega) (by omega) (by omega) (by omega)).mono ?_; rintro e w' ⟨rfl, rfl⟩)
        have e : F (k + 1) = (if q + 1 < if y + 1 < x then y + 1 else x then q + 1 else if y + 1 < x then y + 1 else x) := by
          rw [HS.out, HQ.out]; unfold min3; simp
        have E := Lib.hid e; clear e
        have hmx : k + 1 + 1 ≤ maxLen := by unfold maxLen; omega
        have hby : (k + 1 + 1) * 8 ≤ 140737488355328 := by omega
        have hba : ∀ o, w.heap.size ≤ (wr.alloc o).drew.heap.size := fun o => by have := hb.size; simp; omega
        have hkk : (k : Int) < (k : Int) + 1 := by omega
        have yw : IntKind.i64.wrap (y + 1) = y + 1 := by rw [IntKind.wrap_i64]; omega
        have YW := Lib.hid yw; clear yw
        have qw : IntKind.i64.wrap (q + 1) = q + 1 := by rw [IntKind.wrap_i64]; omega
        have QW := Lib.hid qw; clear qw
        have kw2 : IntKind.i64.wrap (k : Int) = (k : Int) := by rw [IntKind.wrap_i64]; omega
        have yw := YW.out; have qw := QW.out
        go_region_law ((refine step_append_lies _ rfl (.tmp 37) (.tmp 51) 78 rfl w.heap.size 2 i0 (.int .i64 0) 1 8 Try.underlying78 hi ht0 ht1 ht2 rfl (by decide) (.slice (some ⟨g, 0, none⟩) (k + 1) c) _ _ (by simp [Act.eval]) (HO.out.2.alloc _).drew ⟨wr.heap.size, 0, none⟩ 1 1 [.int .i64 (if q + 1 < if y + 1 < x then y + 1 else x then q + 1 else if y + 1 < x then y + 1 else x)] (by simp [Act.eval]) rfl (fun j u h => cells_new wr _ _ j u h) (one_all rfl) (by decide) hmx hby (hba _) _ rfl ?_; intro g1 cap1 w1 hown' hg _ _))
        all_goals
          rw [← E.out] at hown'
          have hO1 := Lib.hid (OwnN.snoc hown')
          clear kw kt kw2 yw qw
          have hB1 := (hb.alloc hb.size (.cells #[.int .i64 (if q + 1 < if y + 1 < x then y + 1 else x then q + 1 else if y + 1 < x then y + 1 else x)] 2)).drew.grown hg (by have := hb.size; simp; omega) (fun j hj => (HO.out.2.lt j hj).1)
          clear hown' hg
          go_wp2
          go_roundw
          case rel => exact ⟨k + 1, g1, cap1, by omega, by go_num, rfl, hO1.out, hB1⟩
          case measure => simp [intOf]; omega
    · obtain rfl : k = s.size := by omega
      have hn := HNN.out
      subst hn
      go_wp2
      go_ret
      exact ⟨_, _, rfl, hO, hb⟩
end Go.Proofs.Ytpniiaemgobaiaa

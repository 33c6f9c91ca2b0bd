/-
  Chapter 4: MyersStep, in the program: the bits one byte on.
-/
import Derived.Test.YtgocfpdodbhcaaaL4StepM
import Derived.Test.YtgocfpdodbhcaaaL4OkL
namespace Go.Proofs.Ytgocfpdodbhcaaa
open Go.RowKit
set_option linter.unusedVariables false
set_option maxRecDepth 100000
/-- the next column, out of the bits -/
def mNext (s : ByteArray) (f : Bool) (b u d : Int) : Nat → Int := nextAt (maskG s f b) (colF u d) 0
theorem myOk_parts {s : ByteArray} {k u d t : Int} (h : myOkB s k u d t = true) :
    (1 ≤ s.size ∧ s.size ≤ 20 ∧ 0 ≤ k ∧ k ≤ 4) ∧ (0 ≤ u ∧ u ≤ 2 ^ s.size - 1) ∧ (0 ≤ d ∧ d ≤ 2 ^ s.size - 1) ∧ bits .and .i64 u d = 0 ∧ Near (colF u d) s.size ∧ colF u d s.size = t := by
  unfold myOkB at h
  simp only [Bool.and_eq_true, decide_eq_true_eq] at h
  obtain ⟨⟨hp, ⟨hu, hd⟩, hud⟩, hst, ht⟩ := h
  refine ⟨(patOk_iff s k).1 hp, by simpa [inB] using hu, by simpa [inB] using hd, hud, ?_, ht⟩
  exact near_congr (fun i hi => by unfold colL; rw [intAt_tab _ _ _ (by omega)]) (near_of_steps hst)
theorem maskI_to {s : ByteArray} {f : Bool} {b : Int} (hs : s.size ≤ 20) (hb : inB b 0 255 = true) : maskI s f b = ((maskTo (maskG s f b) s.size : Nat) : Int) := by
  have h : 0 ≤ b ∧ b ≤ 255 := by simpa [inB] using hb
  unfold maskI
  rw [if_pos ⟨hs, h.1, h.2⟩]
theorem bitAt_is (x : Int) (i : Nat) (p v : Int) (w : World) (hp : p = (i : Int)) (h0 : 0 ≤ x) (h1 : x ≤ 4611686018427387903) (hi : i ≤ 62) (hv : bitI x i = v) :
    Calls Try.prog 182 #[.int .i64 x, .int .i64 p] w fun e w' => e = .returned (.int .i64 v) ∧ w = w' :=
  (impl_bitAt' x i p w hp h0 h1 hi).mono fun _ _ h => ⟨by rw [h.1, hv], h.2⟩
set_option maxHeartbeats 4000000 in
theorem impl_myersNext (s : ByteArray) (k : Int) (f : Bool) (u d t b : Int) (w : World) (hok : myOkB s k u d t = true) (hib : inB b 0 255 = true) :
    Calls Try.prog 259 #[.agg #[.int .i64 u, .int .i64 d, .int .i64 t], .agg #[.string s, .int .i64 k, .bool f], .int .i64 b] w fun e w' => e = .returned (.iface 51 (.agg #[.int .i64 (maskTo (riseF (mNext s f b u d)) s.size : Nat), .int .i64 (maskTo (fallF (mNext s f b u d)) s.size : Nat), .int .i64 (mNext s f b u d s.size)])) ∧ Below w.heap.size w w' := by
  obtain ⟨⟨hp0, hp1, hk0, hk1⟩, hu, hd, hud, hC, ht⟩ := myOk_parts hok
  have hmk := maskI_to (f := f) hp1 hib
  obtain ⟨nu, nd, ns, nm, nl⟩ := next_bits (g := maskG s f b) hp0 hp1 hu hd hud hC
  rw [← hmk] at nu nd ns nm nl
  have hns : mNext s f b u d s.size = nextAt (maskG s f b) (colF u d) 0 s.size := rfl
  have hr1 : ((maskTo (riseF (mNext s f b u d)) s.size : Nat) : Int) = upI s.size (maskI s f b) u d := nu.symm
  have hr2 : ((maskTo (fallF (mNext s f b u d)) s.size : Nat) : Int) = dnI s.size (maskI s f b) u d := nd.symm
  rw [hr1, hr2, hns, ← ns, ht]
  have p2 := pow_small s.size hp1
  have hE : 0 ≤ maskI s f b ∧ maskI s f b ≤ 1048576 := by
    have := maskTo_ltI (maskG s f b) s.size
    rw [hmk]; omega
  have htb : 0 ≤ t ∧ t ≤ 20 := by
    have h1 := hC.2.1 s.size (Nat.le_refl _)
    have h2 := near_le hC s.size (Nat.le_refl _)
    omega
  have hab : 0 ≤ bits .and .i64 (maskI s f b) u ∧ bits .and .i64 (maskI s f b) u ≤ 1048576 := by
    refine low_rng (i64_and _ _) hp1 fun i hi h => ?_
    rw [bv_and, BitVec.getLsbD_and, Bool.and_eq_true] at h
    exact (within_iff (x := u) ⟨by omega, by omega⟩ (n := s.size) (by omega)).1 hu i hi h.2
  have hx := bitI_01 (moI s.size (maskI s f b) u d) (s.size - 1)
  have hy := bitI_01 (leI (maskI s f b) u) (s.size - 1)
  have hu2 : 0 ≤ u ∧ u ≤ 1048576 := by omega
  have hd2 : 0 ≤ d ∧ d ≤ 1048576 := by omega
  obtain ⟨mk, hmk2⟩ : ∃ mk, maskI s f b = mk := ⟨_, rfl⟩
  obtain ⟨mo, hmo⟩ : ∃ mo, moI s.size (maskI s f b) u d = mo := ⟨_, rfl⟩
  obtain ⟨le, hle⟩ : ∃ le, leI (maskI s f b) u = le := ⟨_, rfl⟩
  obtain ⟨up, hup⟩ : ∃ up, upI s.size (maskI s f b) u d = up := ⟨_, rfl⟩
  obtain ⟨dn, hdn⟩ : ∃ dn, dnI s.size (maskI s f b) u d = dn := ⟨_, rfl⟩
  obtain ⟨lv, hlv⟩ : ∃ lv, lvI (maskI s f b) u = lv := ⟨_, rfl⟩
  obtain ⟨re, hre⟩ : ∃ re, reI (maskI s f b) d = re := ⟨_, rfl⟩
  obtain ⟨a, ha⟩ : ∃ a, bits .and .i64 (maskI s f b) u = a := ⟨_, rfl⟩
  rw [hmo] at nm hx ⊢
  rw [hle] at nl hy ⊢
  rw [hup, hdn]
  rw [ha] at hab
  unfold lvI at hlv
  rw [ha] at hlv
  unfold moI lvI at hmo
  rw [ha, hlv] at hmo
  unfold leI lvI at hle
  rw [ha, hlv] at hle
  unfold reI at hre
  unfold upI leI lvI reI moI lvI at hup
  rw [ha, hlv, hle, hmo, hre] at hup
  unfold dnI moI lvI reI at hdn
  rw [ha, hlv, hmo, hre] at hdn
  rw [hmk2] at hE ha hlv hre
  have HMK := Lib.hid hmk2
  obtain ⟨x, hxx⟩ : ∃ x, bitI mo (s.size - 1) = x := ⟨_, rfl⟩
  obtain ⟨y, hyy⟩ : ∃ y, bitI le (s.size - 1) = y := ⟨_, rfl⟩
  rw [hxx] at hx ⊢
  rw [hyy] at hy ⊢
  have hm00 := nm.1
  have hm01 : mo ≤ 4611686018427387903 := by omega
  have hl00 := nl.1
  have hl01 : le ≤ 4611686018427387903 := by omega
  have hpz : (s.size : Int) - 1 = ((s.size - 1 : Nat) : Int) := by omega
  have C1 := Lib.hid (fun W => bitAt_is mo (s.size - 1) ((s.size : Int) - 1) x W hpz hm00 hm01 (by omega) hxx)
  have C2 := Lib.hid (fun W => bitAt_is le (s.size - 1) ((s.size : Int) - 1) y W hpz hl00 hl01 (by omega) hyy)
  clear hpz
  have sw1 : IntKind.i64.wrap (t + x) = t + x := by rw [IntKind.wrap_i64]; omega
  have sw2 : IntKind.i64.wrap (t + x - y) = t + x - y := by rw [IntKind.wrap_i64]; omega
  obtain ⟨hm0, hm1⟩ := nm
  obtain ⟨hl0, hl1⟩ := nl
  obtain ⟨hE0, hE1⟩ := hE
  obtain ⟨ha0, ha1⟩ := hab
  obtain ⟨hu20, hu21⟩ := hu2
  obtain ⟨hd20, hd21⟩ := hd2
  have HLV := Lib.hid hlv; have HA := Lib.hid ha
  clear hm00 hm01 hl00 hl01 hxx hyy hmk2 hmk nu nd ns hr1 hr2 hns hC hud hu hd ht p2 hx hy htb hok
  go_enter Try.func259, Try.ntmps259
  go_wp2_with fail
  have bx0 : ((w.alloc (.cells #[(.int .i64 u : Value), .int .i64 d, .int .i64 t] 51)).alloc (.cells #[(.string s : Value), .int .i64 k, .bool f] 31)).cell? ⟨w.heap.size, 0, none⟩ = some ((.int .i64 u : Value)) := (by rw [cell_of_row _ _ 0 _ _ _ (heap_alloc2_old _ _ _)]; rfl)
  have bx1 : ((w.alloc (.cells #[(.int .i64 u : Value), .int .i64 d, .int .i64 t] 51)).alloc (.cells #[(.string s : Value), .int .i64 k, .bool f] 31)).cell? ⟨w.heap.size, 1, none⟩ = some (.int .i64 d) := (by rw [cell_of_row _ _ 1 _ _ _ (heap_alloc2_old _ _ _)]; rfl)
  have bx2 : ((w.alloc (.cells #[(.int .i64 u : Value), .int .i64 d, .int .i64 t] 51)).alloc (.cells #[(.string s : Value), .int .i64 k, .bool f] 31)).cell? ⟨w.heap.size, 2, none⟩ = some (.int .i64 t) := (by rw [cell_of_row _ _ 2 _ _ _ (heap_alloc2_old _ _ _)]; rfl)
  have by0 : ((w.alloc (.cells #[(.int .i64 u : Value), .int .i64 d, .int .i64 t] 51)).alloc (.cells #[(.string s : Value), .int .i64 k, .bool f] 31)).cell? ⟨w.heap.size + 1, 0, none⟩ = some ((.string s : Value)) := (by rw [cell_of_row _ _ 0 _ _ _ (heap_alloc2_new _ _ _)]; rfl)
  have by1 : ((w.alloc (.cells #[(.int .i64 u : Value), .int .i64 d, .int .i64 t] 51)).alloc (.cells #[(.string s : Value), .int .i64 k, .bool f] 31)).cell? ⟨w.heap.size + 1, 1, none⟩ = some (.int .i64 k) := (by rw [cell_of_row _ _ 1 _ _ _ (heap_alloc2_new _ _ _)]; rfl)
  have by2 : ((w.alloc (.cells #[(.int .i64 u : Value), .int .i64 d, .int .i64 t] 51)).alloc (.cells #[(.string s : Value), .int .i64 k, .bool f] 31)).cell? ⟨w.heap.size + 1, 2, none⟩ = some (.bool f) := (by rw [cell_of_row _ _ 2 _ _ _ (heap_alloc2_new _ _ _)]; rfl)
  have hbz : Below w.heap.size w ((w.alloc (.cells #[(.int .i64 u : Value), .int .i64 d, .int .i64 t] 51)).alloc (.cells #[(.string s : Value), .int .i64 k, .bool f] 31)) := ((Below.refl _ _).alloc (Nat.le_refl _) _).alloc (by simp) _
  have hzz : w.heap.size + 1 < ((w.alloc (.cells #[(.int .i64 u : Value), .int .i64 d, .int .i64 t] 51)).alloc (.cells #[(.string s : Value), .int .i64 k, .bool f] 31)).heap.size := (by simp)
  have hzeq := Lib.hid (show ((w.alloc (.cells #[(.int .i64 u : Value), .int .i64 d, .int .i64 t] 51)).alloc (.cells #[(.string s : Value), .int .i64 k, .bool f] 31)).heap.size = w.heap.size + 2 by simp)
  generalize ((w.alloc (.cells #[(.int .i64 u : Value), .int .i64 d, .int .i64 t] 51)).alloc (.cells #[(.string s : Value), .int .i64 k, .bool f] 31)) = wz at *
  have cx0 := cell_regrown bx0
  have cx1 := cell_regrown bx1
  have cx2 := cell_regrown bx2
  have cy0 := cell_regrown by0
  have cy1 := cell_regrown by1
  have cy2 := cell_regrown by2
  refine wp_region_quiet_below (by kernel_rfl) (by kernel_rfl) ?_
  repeat (go_big_quiet_step (first | (go_at_call 139; exact Calls.regrown_of (impl_lowBits_b _ _ hp1)) | (go_at_call 260; exact Calls.regrown_of ((impl_maskOf s f b _ (by omega)).mono fun e w' h => ⟨by rw [h.1, HMK.out], h.2⟩))))
  refine wpQuiet_nil ?_
  intro _ hw'
  obtain ⟨⟨dq, osq⟩, hw''⟩ := hw'
  subst hw''
  have hX := below_regrown wz dq osq
  have hBW := hbz.trans (hX.mono hbz.size)
  have dx0 := cx0 dq osq
  have dx1 := cx1 dq osq
  have dx2 := cx2 dq osq
  have dy0 := cy0 dq osq
  clear bx0 bx1 bx2 by0 by1 by2 cx0 cx1 cx2 cy0 cy1 cy2 hX
  generalize Sort.grow (redrawn wz dq) osq = w2 at *
  go_wp2_with fail
  go_quiet (first | (go_at_call 182; first | exact quiet_of_eq (C1.out _) | exact quiet_of_eq (C2.out _)))
  clear sw1 sw2
  go_wp2
  go_ret
  exact ⟨rfl, below_drewN hBW _⟩
end Go.Proofs.Ytgocfpdodbhcaaa

/-
  Chapter 4: a column as bits: contracts of MyersNew, in the program and in its model.
-/
import Derived.Test.YtgocfpdodbhcaaaL3First
import Derived.Test.YtgocfpdodbhcaaaL1Mask
import Derived.Deep.RegionLaw
namespace Go.Proofs.Ytgocfpdodbhcaaa
open Go.RowKit
set_option linter.unusedVariables false
set_option maxRecDepth 100000
def upG (L : List Int) (i : Nat) : Bool := decide (intAt L (i + 1) - intAt L i = 1)
def dnG (L : List Int) (i : Nat) : Bool := decide (intAt L (i + 1) - intAt L i = -1)
def myV (u d s : Int) : Value := .agg #[.int .i64 u, .int .i64 d, .int .i64 s]
theorem maskTo_yes {g : Nat → Bool} {k : Nat} (h : g k = true) : maskTo g (k + 1) = maskTo g k + 2 ^ k := by simp [maskTo, h]
theorem maskTo_no {g : Nat → Bool} {k : Nat} (h : g k = false) : maskTo g (k + 1) = maskTo g k := by simp [maskTo, h]
theorem maskTo_ltI (g : Nat → Bool) (k : Nat) : ((maskTo g k : Nat) : Int) < 2 ^ k := by
  have h := maskTo_lt g k
  have : ((2 ^ k : Nat) : Int) = (2 : Int) ^ k := by simp
  omega
theorem maskTo_all (g : Nat → Bool) (n : Nat) (h : ∀ i, i < n → g i = true) : ((maskTo g n : Nat) : Int) = 2 ^ n - 1 := by
  induction n with
  | zero => rfl
  | succ n ih =>
    rw [maskTo_yes (h n (by omega)), Int.natCast_add, ih (fun i hi => h i (by omega))]
    have : ((2 ^ n : Nat) : Int) = (2 : Int) ^ n := by simp
    rw [this, Int.pow_succ]; omega
theorem maskTo_none (g : Nat → Bool) (n : Nat) (h : ∀ i, i < n → g i = false) : maskTo g n = 0 := by
  induction n with
  | zero => rfl
  | succ n ih => rw [maskTo_no (h n (by omega)), ih (fun i hi => h i (by omega))]
theorem below_set3 {B g : Nat} {w1 w : World} (h : Below B w1 w) (hg : B ≤ g) (a b c : Value) : Below B w1 (((w.setCell ⟨g, 0, none⟩ a).setCell ⟨g, 1, none⟩ b).setCell ⟨g, 2, none⟩ c) :=
  ((h.setCell (p := ⟨g, 0, none⟩) hg a).setCell (p := ⟨g, 1, none⟩) hg b).setCell (p := ⟨g, 2, none⟩) hg c
theorem alloc2_cell (w : World) (o p : Obj) : (w.alloc o).heap.size = w.heap.size + 1 := by simp
set_option maxHeartbeats 2000000 in
theorem spec_l4Of (L : List Int) (a : Option Addr) (n cap : Nat) (M : Int) (w : World) (hn : L.length = n) (h : Ints w a L) (hn1 : 1 ≤ n) (hn2 : n ≤ 21) (hB : ∀ i, i < n → 0 ≤ intAt L i ∧ intAt L i ≤ M) (hM : M ≤ 1048577) :
    Calls Try.prog 137 #[.slice a n cap] w fun e w' => e = .returned (myV (maskTo (upG L) (n - 1)) (maskTo (dnG L) (n - 1)) (intAt L (n - 1))) ∧ Below w.heap.size w w' := by
  have HN := Lib.hid hn; clear hn
  have HB := Lib.hid hB; clear hB
  obtain ⟨b, off, rfl, hp⟩ := h.at (n - 1) (by rw [HN.out]; omega)
  have c0 := hp (n - 1) (by rw [HN.out]; omega)
  have hbl := block_lt_of_cell c0
  simp only at hbl
  have n0 : (0 : Int) ≤ (n : Int) - 1 := by omega
  have n1 : (1 : Int) ≤ (n : Int) := by omega
  have n2 : (n : Int) - 1 < (n : Int) := by omega
  have n3 : n - 1 < n := by omega
  obtain ⟨S, hS⟩ : ∃ S, S = intAt L (n - 1) := ⟨_, rfl⟩
  rw [← hS] at c0 ⊢
  have HS := Lib.hid hS
  clear hp hS
  unfold myV
  go_enter Try.func137, Try.ntmps137
  go_wp2
  clear c0
  have hi0 : Ints w (some ⟨b, off, none⟩) L := h
  go_loopw [4] (fun i wr => ∃ j : Nat, j + 1 ≤ n ∧ i = .int .i64 ((j : Int) + 1) ∧ wr.heap[w.heap.size + 1]? = some (.cells #[.int .i64 (maskTo (upG L) j : Nat), .int .i64 (maskTo (dnG L) j : Nat), .int .i64 S] 51 (0, 0)) ∧ wr.heap[w.heap.size]? = some (.cells #[.int .i64 0, .int .i64 0, .int .i64 0] 51 (0, 0)) ∧ Below w.heap.size w wr)
    (fun i _ => n - (intOf i).toNat)
  case atStart =>
    exact ⟨0, by omega, by go_num, heap_alloc2_new _ _ _, heap_alloc2_old _ _ _, ((Below.refl _ _).alloc (Nat.le_refl _) _).alloc (by simp) _⟩
  case round =>
    obtain ⟨j, hj, rfl, hg1, hg0, hb⟩ := hrel
    have m0 : wr.cell? ⟨w.heap.size + 1, 0, none⟩ = some (.int .i64 (maskTo (upG L) j : Nat)) := by rw [cell_of_row wr _ 0 _ _ _ hg1]; rfl
    have m1 : wr.cell? ⟨w.heap.size + 1, 1, none⟩ = some (.int .i64 (maskTo (dnG L) j : Nat)) := by rw [cell_of_row wr _ 1 _ _ _ hg1]; rfl
    have m2 : wr.cell? ⟨w.heap.size + 1, 2, none⟩ = some (.int .i64 S) := by rw [cell_of_row wr _ 2 _ _ _ hg1]; rfl
    have f0 := frozen_of_row wr _ 0 _ _ hg1
    have f1 := frozen_of_row wr _ 1 _ _ hg1
    by_cases hlt : j + 1 < n
    · obtain ⟨b', off', hbo, hp⟩ := (hi0.kept hb).at j (by rw [HN.out]; omega)
      simp only [Option.some.injEq, Addr.mk.injEq, and_true] at hbo
      obtain ⟨rfl, rfl⟩ := hbo
      have d0 := hp j (by rw [HN.out]; omega)
      have d1 := hp (j + 1) (by rw [HN.out]; omega)
      obtain ⟨hy0, hy1⟩ := HB.out j (by omega)
      obtain ⟨hx0, hx1⟩ := HB.out (j + 1) (by omega)
      have hu : upG L j = decide (intAt L (j + 1) - intAt L j = 1) := rfl
      have hd : dnG L j = decide (intAt L (j + 1) - intAt L j = -1) := rfl
      obtain ⟨y, hyy⟩ : ∃ y, intAt L j = y := ⟨_, rfl⟩
      obtain ⟨x, hxx⟩ : ∃ x, intAt L (j + 1) = x := ⟨_, rfl⟩
      rw [hxx, hyy] at hu hd
      rw [hxx] at d1 hx0 hx1
      rw [hyy] at d0 hy0 hy1
      have p2 := pow_small j (by omega)
      have p3 := pow_pos j
      have q0 := maskTo_ltI (upG L) j
      have q1 := maskTo_ltI (dnG L) j
      have HU := Lib.hid hu; have HD := Lib.hid hd
      have kw : IntKind.i64.wrap ((j : Int) + 1) = (j : Int) + 1 := by rw [IntKind.wrap_i64]; omega
      have KW := Lib.hid kw
      have jw : IntKind.i64.wrap (j : Int) = (j : Int) := by rw [IntKind.wrap_i64]; omega
      have JW := Lib.hid jw
      have xw : IntKind.i64.wrap (x - y) = x - y := by rw [IntKind.wrap_i64]; omega
      have k0 : (0 : Int) ≤ (j : Int) + 1 := by omega
      have k1 : (j : Int) + 1 < (n : Int) := by omega
      have kt : ((j : Int) + 1).toNat = j + 1 := by omega
      have kl : (j : Int) < (n : Int) := by omega
      have HG0 := Lib.hid hg0; have HG1 := Lib.hid hg1
      clear hu hd hp hyy hxx h hi0 hg0 hg1
      by_cases e1 : x - y = 1
      · have b1 : (x - y == 1) = true := by simp [e1]
        have HM := Lib.hid (maskTo_yes (g := upG L) (k := j) (by rw [HU.out]; simp [e1]))
        have HM2 := Lib.hid (maskTo_no (g := dnG L) (k := j) (by rw [HD.out]; simp [e1]))
        clear e1
        go_wp2_with fail
        go_quiet (fail)
        clear kw kt jw xw
        go_wp2
        go_roundw
        case rel =>
          refine ⟨j + 1, by omega, by rw [Int.natCast_add]; rfl, ?_, ?_, (below_drewN hb _).setCell (by simp) _⟩
          · rw [HM.out, HM2.out, heap_setCell_same (wr.drewN nq) _ _ _ _ _ HG1.out, Int.natCast_add, Int.natCast_pow]; rfl
          · rw [heap_setCell_other _ _ _ _ (by simp)]; exact HG0.out
        case measure => simp [intOf]; omega
      · have b1 : (x - y == 1) = false := by simp [e1]
        have HM := Lib.hid (maskTo_no (g := upG L) (k := j) (by rw [HU.out]; simp [e1]))
        by_cases e2 : x - y = -1
        · have b2 : (x - y == -1) = true := by simp [e2]
          have HM2 := Lib.hid (maskTo_yes (g := dnG L) (k := j) (by rw [HD.out]; simp [e2]))
          clear e1 e2
          go_wp2_with fail
          go_quiet (fail)
          clear kw kt jw xw
          go_wp2
          go_roundw
          case rel =>
            refine ⟨j + 1, by omega, by rw [Int.natCast_add]; rfl, ?_, ?_, (below_drewN hb _).setCell (by simp) _⟩
            · rw [HM.out, HM2.out, heap_setCell_same (wr.drewN nq) _ _ _ _ _ HG1.out, Int.natCast_add, Int.natCast_pow]; rfl
            · rw [heap_setCell_other _ _ _ _ (by simp)]; exact HG0.out
          case measure => simp [intOf]; omega
        · have b2 : (x - y == -1) = false := by simp [e2]
          have HM2 := Lib.hid (maskTo_no (g := dnG L) (k := j) (by rw [HD.out]; simp [e2]))
          clear e1 e2
          go_wp2_with fail
          go_quiet (fail)
          clear kw kt jw xw
          go_wp2
          go_roundw
          case rel =>
            refine ⟨j + 1, by omega, by rw [Int.natCast_add]; rfl, ?_, HG0.out, below_drewN hb _⟩
            rw [HM.out, HM2.out]; exact HG1.out
          case measure => simp [intOf]; omega
    · obtain rfl : n = j + 1 := by omega
      have z0 : wr.cell? ⟨w.heap.size, 0, none⟩ = some (.int .i64 0) := by rw [cell_of_row wr _ 0 _ _ _ hg0]; rfl
      have z1 : wr.cell? ⟨w.heap.size, 1, none⟩ = some (.int .i64 0) := by rw [cell_of_row wr _ 1 _ _ _ hg0]; rfl
      have z2 : wr.cell? ⟨w.heap.size, 2, none⟩ = some (.int .i64 0) := by rw [cell_of_row wr _ 2 _ _ _ hg0]; rfl
      have y0 := frozen_of_row wr _ 0 _ _ hg0
      have y1 := frozen_of_row wr _ 1 _ _ hg0
      have y2 := frozen_of_row wr _ 2 _ _ hg0
      have e1 : j + 1 - 1 = j := rfl
      rw [e1] at *
      clear hg0 hg1
      go_wp2
      exact bodyPost_ret (v := .agg #[.int .i64 (maskTo (upG L) j : Nat), .int .i64 (maskTo (dnG L) j : Nat), .int .i64 S]) (by simp [results, Try.results137, go_sem, z0, z1, z2]) rfl ⟨rfl, ((hb.setCell (Nat.le_refl _) _).setCell (Nat.le_refl _) _).setCell (Nat.le_refl _) _⟩
theorem impl_lowBits (n : Nat) (w : World) (hn : n ≤ 20) :
    Calls Try.prog 139 #[.int .i64 n] w fun e w' => e = .returned (.int .i64 (2 ^ n - 1)) ∧ w = w' := by
  have p2 := pow_small n hn
  have p3 := pow_pos n
  go_enter Try.func139, Try.ntmps139
  go_wp2
  go_ret
  exact ⟨rfl, rfl⟩
def myersNewV (s : ByteArray) (k : Int) : Value := if patOk s k then myV (2 ^ s.size - 1) 0 s.size else myV 0 0 0
set_option maxHeartbeats 1000000 in
theorem impl_myersNew (s : ByteArray) (k : Int) (f : Bool) (w : World) (hs : s.size ≤ 1048576) :
    Calls Try.prog 48 #[.agg #[.string s, .int .i64 k, .bool f]] w fun e w' => e = .returned (myersNewV s k) ∧ Below w.heap.size w w' := by
  cases hp : patOk s k
  · have HR := Lib.hid (show myersNewV s k = myV 0 0 0 by unfold myersNewV; rw [hp]; rfl)
    have HP := Lib.hid hp; clear hp
    go_enter Try.func48, Try.ntmps48
    go_wp2_with (go_at_call 130; refine (impl_patternOk _ _ _ _ (by omega)).mono ?_; rintro e w1 ⟨rfl, hb1⟩; rw [HP.out]; obtain ⟨hc1, hf1⟩ := bcell hb1; have hz1 : w.heap.size < w1.heap.size := (by have := hb1.size; (try simp at this); omega); have HB1 : Below w.heap.size w w1 := below_step (by repeat (first | exact Below.refl _ _ | assumption | (refine Below.drew ?_) | (refine below_drewN ?_ _) | (refine Below.alloc ?_ (by first | omega | (simp; done) | (simp; omega)) _) | (refine Below.setCell ?_ (by first | omega | (simp; done) | (simp; omega)) _))) hb1)
    exact bodyPost_ret (v := .agg #[.int .i64 0, .int .i64 0, .int .i64 0]) (by simp [results, Try.results48, go_sem, hc1]) rfl ⟨by rw [HR.out]; rfl, below_set3 HB1 (Nat.le_succ _) _ _ _⟩
  · have hs1 : s.size ≤ 20 := ((patOk_iff s k).1 hp).2.1
    have HR := Lib.hid (show myersNewV s k = myV (2 ^ s.size - 1) 0 s.size by unfold myersNewV; rw [hp]; rfl)
    have HP := Lib.hid hp; clear hp
    go_enter Try.func48, Try.ntmps48
    go_wp2_with (go_at_call 130; refine (impl_patternOk _ _ _ _ (by omega)).mono ?_; rintro e w1 ⟨rfl, hb1⟩; rw [HP.out]; obtain ⟨hc1, hf1⟩ := bcell hb1; have hz1 : w.heap.size < w1.heap.size := (by have := hb1.size; (try simp at this); omega); have HB1 : Below w.heap.size w w1 := below_step (by repeat (first | exact Below.refl _ _ | assumption | (refine Below.drew ?_) | (refine below_drewN ?_ _) | (refine Below.alloc ?_ (by first | omega | (simp; done) | (simp; omega)) _) | (refine Below.setCell ?_ (by first | omega | (simp; done) | (simp; omega)) _))) hb1)
    go_region_law ((go_simp; go_at_call 139; refine (impl_lowBits _ _ hs1).mono ?_; rintro e w2 ⟨rfl, rfl⟩))
    all_goals
      go_wp2
      exact bodyPost_ret (v := .agg #[.int .i64 (2 ^ s.size - 1), .int .i64 0, .int .i64 s.size]) (by simp [results, Try.results48, go_sem, hc1]) rfl ⟨by rw [HR.out]; rfl, (below_set3 HB1 (Nat.le_succ _) _ _ _).drew⟩
theorem l4Of_first (n : Nat) : myV (maskTo (upG (tab idI (n + 1))) (n + 1 - 1) : Nat) (maskTo (dnG (tab idI (n + 1))) (n + 1 - 1) : Nat) (intAt (tab idI (n + 1)) (n + 1 - 1)) = myV (2 ^ n - 1) 0 n := by
  have h1 : ∀ i, i < n → upG (tab idI (n + 1)) i = true := by
    intro i hi
    unfold upG; rw [intAt_tab _ _ _ (by omega), intAt_tab _ _ _ (by omega)]; apply decide_eq_true; unfold idI; omega
  have h2 : ∀ i, i < n → dnG (tab idI (n + 1)) i = false := by
    intro i hi
    unfold dnG; rw [intAt_tab _ _ _ (by omega), intAt_tab _ _ _ (by omega)]; apply decide_eq_false; unfold idI; omega
  have e : n + 1 - 1 = n := rfl
  rw [e, maskTo_all _ _ h1, maskTo_none _ _ h2, intAt_tab _ _ _ (by omega)]; rfl
set_option maxHeartbeats 1000000 in
theorem spec_myersNew (s : ByteArray) (k : Int) (f : Bool) (w : World) (hs : s.size ≤ 1048576) :
    Calls Try.prog 49 #[.agg #[.string s, .int .i64 k, .bool f]] w fun e w' => e = .returned (myersNewV s k) ∧ Below w.heap.size w w' := by
  cases hp : patOk s k
  · have HR := Lib.hid (show myersNewV s k = myV 0 0 0 by unfold myersNewV; rw [hp]; rfl)
    have HP := Lib.hid hp; clear hp
    go_enter Try.func49, Try.ntmps49
    go_wp2_with (go_at_call 38; refine (spec_patternOk _ _ _ _ (by omega)).mono ?_; rintro e w1 ⟨rfl, hb1⟩; rw [HP.out]; obtain ⟨hc1, hf1⟩ := bcell hb1; have hz1 : w.heap.size < w1.heap.size := (by have := hb1.size; (try simp at this); omega); have HB1 : Below w.heap.size w w1 := below_step (by repeat (first | exact Below.refl _ _ | assumption | (refine Below.drew ?_) | (refine below_drewN ?_ _) | (refine Below.alloc ?_ (by first | omega | (simp; done) | (simp; omega)) _) | (refine Below.setCell ?_ (by first | omega | (simp; done) | (simp; omega)) _))) hb1)
    exact bodyPost_ret (v := .agg #[.int .i64 0, .int .i64 0, .int .i64 0]) (by simp [results, Try.results49, go_sem, hc1]) rfl ⟨by rw [HR.out]; rfl, below_set3 HB1 (Nat.le_succ _) _ _ _⟩
  · have hs1 : s.size ≤ 20 := ((patOk_iff s k).1 hp).2.1
    have HR := Lib.hid (show myersNewV s k = myV (2 ^ s.size - 1) 0 s.size by unfold myersNewV; rw [hp]; rfl)
    have HP := Lib.hid hp; clear hp
    go_enter Try.func49, Try.ntmps49
    go_wp2_with (go_at_call 38; refine (spec_patternOk _ _ _ _ (by omega)).mono ?_; rintro e w1 ⟨rfl, hb1⟩; rw [HP.out]; obtain ⟨hc1, hf1⟩ := bcell hb1; have hz1 : w.heap.size < w1.heap.size := (by have := hb1.size; (try simp at this); omega); have HB1 : Below w.heap.size w w1 := below_step (by repeat (first | exact Below.refl _ _ | assumption | (refine Below.drew ?_) | (refine below_drewN ?_ _) | (refine Below.alloc ?_ (by first | omega | (simp; done) | (simp; omega)) _) | (refine Below.setCell ?_ (by first | omega | (simp; done) | (simp; omega)) _))) hb1)
    have hz1' : w.heap.size + 1 < w1.heap.size := by have h1 := hb1.size; (try simp at h1); omega
    refine (spec_l3First s _ hs).mono ?_
    rintro e w2 ⟨a, cap, rfl, hO, hb2⟩
    obtain ⟨hc2, hf2⟩ := bcell hb2
    have hz2 : w.heap.size + 1 < w2.heap.size := by have h1 := hb1.size; have h2 := hb2.size; (try simp at h1); omega
    go_wp2_with fail
    refine (spec_l4Of _ a (s.size + 1) cap (s.size + 1) _ (tab_length _ _) hO.ints (by omega) (by omega) (fun i hi => by rw [intAt_tab _ _ _ hi]; unfold idI; omega) (by omega)).mono ?_
    rintro e w3 ⟨rfl, hb3⟩
    rw [l4Of_first]
    unfold myV
    obtain ⟨hc3, hf3⟩ := bcell hb3
    have hz3 : w.heap.size + 1 < w3.heap.size := by have := hb3.size; omega
    have HB3 := below_step (below_step HB1 hb2) hb3
    go_wp2_with fail
    exact bodyPost_ret (v := .agg #[.int .i64 (2 ^ s.size - 1), .int .i64 0, .int .i64 s.size]) (by simp [results, Try.results49, go_sem, hc1, hc2, hc3, hz2, hz1']) rfl ⟨by rw [HR.out]; rfl, below_set3 HB3 (Nat.le_succ _) _ _ _⟩
end Go.Proofs.Ytgocfpdodbhcaaa

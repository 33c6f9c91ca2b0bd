/-
  Chapter 5: rows of a column: contracts of RowsNew, in the program and in its model.
-/
import Derived.Test.YtglldmfhjipacaaRowLaw
import Derived.Deep.RegionLaw
import Derived.Test.YtglldmfhjipacaaOwnMore
namespace Go.Proofs.Ytglldmfhjipacaa
open Go.RowKit
set_option linter.unusedVariables false
set_option maxRecDepth 100000
def leG (L : List Int) (j : Nat) (i : Nat) : Bool := decide (intAt L (i + 1) ≤ (j : Int))
def rowsOf (L : List Int) (n : Nat) (j : Nat) : Int := ((maskTo (leG L j) n : Nat) : Int)
def rowsF (n j : Nat) : Int := 2 ^ (min j n) - 1
theorem rowsOf_first (n m j : Nat) (hm : m ≤ n) : ((maskTo (leG (tab idI (n + 1)) j) m : Nat) : Int) = 2 ^ (min j m) - 1 := by
  induction m with
  | zero => simp [maskTo]
  | succ m ih =>
    have hg : leG (tab idI (n + 1)) j m = decide (m < j) := by
      unfold leG; rw [intAt_tab _ _ _ (by omega)]
      apply decide_eq_decide.2; unfold idI; omega
    have := ih (by omega)
    by_cases h : m < j
    · rw [maskTo_yes (by rw [hg]; simp [h]), Int.natCast_add, this]
      have e : ((2 ^ m : Nat) : Int) = (2 : Int) ^ m := by simp
      rw [e, Nat.min_eq_right (by omega), Nat.min_eq_right (by omega), Int.pow_succ]; omega
    · rw [maskTo_no (by rw [hg]; simp [h]), this, Nat.min_eq_left (by omega), Nat.min_eq_left (by omega)]
set_option maxHeartbeats 2000000 in
theorem spec_l5Of (s : ByteArray) (K : Nat) (f : Bool) (L : List Int) (a : Option Addr) (n cap : Nat) (w : World) (hK : K ≤ 4) (hn : L.length = n) (h : Ints w a L) (hn1 : 1 ≤ n) (hn2 : n ≤ 21) :
    Calls Try.prog 96 #[.agg #[.string s, .int .i64 K, .bool f], .slice a n cap] w fun e w' => ∃ a' cap', e = .returned (.agg #[.slice a' (K + 1) cap']) ∧ OwnN w' w.heap.size a' (K + 1) cap' (tab (rowsOf L (n - 1)) (K + 1)) ∧ Below w.heap.size w w' := by
  obtain ⟨i0, hi, ht0, ht1, ht2⟩ := info_parts int_info
  have HN := Lib.hid hn; clear hn
  go_enter Try.func96, Try.ntmps96
  go_wp2
  go_loopw [6] (fun x wr => ∃ (j : Nat) (v : Value), j ≤ K + 1 ∧ x = .int .i64 j ∧ wr.heap[w.heap.size + 2]? = some (.cells #[v] 63 (0, 0)) ∧ wr.heap[w.heap.size + 1]? = some (.cells #[.slice none 0 0] 63 (0, 0)) ∧ wr.cell? ⟨w.heap.size, 1, none⟩ = some (.int .i64 K)
      ∧ wr.ownsRow (w.heap.size + 3) 2 1 v j ((tab (rowsOf L (n - 1)) j).map (Value.int .i64)) ∧ Below w.heap.size w wr ∧ w.heap.size + 3 ≤ wr.heap.size)
    (fun x _ => K + 1 - (intOf x).toNat)
  case atStart =>
    exact ⟨0, .slice none 0 0, by omega, rfl, (heap_alloc3 _ _ _ _).2.2, (heap_alloc3 _ _ _ _).2.1, by rw [cell_of_row _ _ 1 _ _ _ (heap_alloc3 _ _ _ _).1]; rfl, World.ownsRow_nil _ _ _ _, (by repeat (first | exact Below.refl _ _ | assumption | (refine Below.drew ?_) | (refine below_drewN ?_ _) | (refine Below.alloc ?_ (by first | omega | (simp; done) | (simp; omega)) _) | (refine Below.setCell ?_ (by first | omega | (simp; done) | (simp; omega)) _))), by simp⟩
  case round =>
    obtain ⟨j, v, hj, rfl, hg2, hg1, hck, hown, hb, hz⟩ := hrel
    by_cases hlt : j ≤ K
    · have hI := h.kept hb
      have m2 : wr.cell? ⟨w.heap.size + 2, 0, none⟩ = some v := by rw [cell_of_row wr _ 0 _ _ _ hg2]; rfl
      have f2 := frozen_of_row wr _ 0 _ _ hg2
      have HO := Lib.hid hown
      have HG2 := Lib.hid hg2; have HG1 := Lib.hid hg1
      have hltI : (j : Int) ≤ (K : Int) := by omega
      have h2b : w.heap.size + 2 < wr.heap.size := by omega
      clear hown hg2 hg1
      obtain ⟨wo, rfl⟩ : ∃ wo : World, wo = wr := ⟨_, rfl⟩
      go_wp2
      go_loopw [7, 8] (fun m i wr => ∃ q : Nat, q + 1 ≤ n ∧ i = .int .i64 ((q : Int) + 1) ∧ m = .int .i64 (maskTo (leG L j) q : Nat) ∧ wo = wr)
        (fun _ i _ => n - (intOf i).toNat)
      case atStart => exact ⟨0, by omega, by go_num, rfl, rfl⟩
      case round =>
        obtain ⟨q, hq, rfl, rfl, rfl⟩ := hrel
        by_cases hlq : q + 1 < n
        · obtain ⟨b', off', rfl, hp⟩ := hI.at (q + 1) (by rw [HN.out]; exact hlq)
          have d1 := hp (q + 1) (by rw [HN.out]; exact hlq)
          have hle : leG L j q = decide (intAt L (q + 1) ≤ (j : Int)) := rfl
          have p2 := pow_small q (by omega)
          have p3 := pow_pos q
          have q0 := maskTo_ltI (leG L j) q
          have k1 : (q : Int) + 1 < (n : Int) := by omega
          have k0 : (0 : Int) ≤ (q : Int) + 1 := by omega
          have kt : ((q : Int) + 1).toNat = q + 1 := by omega
          clear hI h hp
          generalize intAt L (q + 1) = x at *
          by_cases hx : x ≤ (j : Int)
          · have HM := Lib.hid (maskTo_yes (g := leG L j) (k := q) (by rw [hle]; simp [hx]))
            clear hle
            go_wp2
            go_roundw
            case rel => exact ⟨q + 1, by omega, by rw [Int.natCast_add]; rfl, by rw [HM.out, Int.natCast_add, Int.natCast_pow]; rfl, by first | rfl | trivial⟩
            case measure => simp [intOf]; omega
          · have HM := Lib.hid (maskTo_no (g := leG L j) (k := q) (by rw [hle]; simp [hx]))
            clear hle
            go_wp2
            go_roundw
            case rel => exact ⟨q + 1, by omega, by rw [Int.natCast_add]; rfl, by rw [HM.out], by first | rfl | trivial⟩
            case measure => simp [intOf]; omega
        · obtain rfl : n = q + 1 := by omega
          have hqq : q + 1 - 1 = q := rfl
          rw [hqq] at *
          go_wp2_with (at_builtin; refine wpList_append_own _ rfl _ _ 61 rfl (w.heap.size + 3) 2 i0 (.int .i64 0) 1 8 Try.underlying61 hi ht0 ht1 ht2 rfl (by decide) v _ _ rfl (HO.out.alloc _) ⟨wo.heap.size, 0, none⟩ 1 1 [.int .i64 (maskTo (leG L j) q : Nat)] rfl rfl (one_new _ _ _) (int_one _) (by unfold maxLen; omega) (by omega) (by simp; omega) ?_; intro v' w1 hown' hg _; have hB3 : Below (w.heap.size + 3) wo w1 := ((Below.refl _ wo).alloc hz _).grown hg (by simp; omega) (fun k hk => (HO.out.lt k hk).1); obtain ⟨g1, c1, rfl, hO1⟩ := OwnN.shape1 (own_snoc (f := rowsOf L q) hown'); have m3 := (hB3.cell (p := ⟨w.heap.size + 2, 0, none⟩) (by show w.heap.size + 2 < _; omega)).trans m2; have f3 := (hB3.frozen (p := ⟨w.heap.size + 2, 0, none⟩) (by show w.heap.size + 2 < _; omega)).trans f2)
          have hg2 := (hB3.block (w.heap.size + 2) (by omega)).trans HG2.out
          have hg1 := (hB3.block (w.heap.size + 1) (by omega)).trans HG1.out
          have hck1 := (hB3.cell (p := ⟨w.heap.size, 1, none⟩) (by show w.heap.size < _; omega)).trans hck
          go_roundw
          case rel =>
            refine ⟨j + 1, .slice (some ⟨g1, 0, none⟩) (j + 1) c1, by omega, by go_num, ?_, ?_, ?_, ?_, (hb.trans (hB3.mono (by omega))).setCell (by simp; omega) _, ?_⟩
            · rw [heap_setCell_same _ _ _ _ _ _ hg2]; rfl
            · rw [heap_setCell_other _ _ _ _ (by simp)]; exact hg1
            · rw [World.cell?_of_block (heap_setCell_other _ _ _ _ (by simp; omega))]; exact hck1
            · exact (hO1.kept_hi (grownBy_setCell1 _ _ _ _) (fun k hk => by cases hk; omega)).2
            · have := hB3.size; simp [World.setCell]; omega
          case measure => simp [intOf]; omega
    · obtain rfl : j = K + 1 := by omega
      have m2 : wr.cell? ⟨w.heap.size + 2, 0, none⟩ = some v := by rw [cell_of_row wr _ 0 _ _ _ hg2]; rfl
      have m1 : wr.cell? ⟨w.heap.size + 1, 0, none⟩ = some (.slice none 0 0) := by rw [cell_of_row wr _ 0 _ _ _ hg1]; rfl
      have f1 := frozen_of_row wr _ 0 _ _ hg1
      obtain ⟨g1, c1, rfl, hO1⟩ := OwnN.shape1 hown
      clear hg1 hg2 hown
      go_wp2
      exact bodyPost_ret (v := .agg #[.slice (some ⟨g1, 0, none⟩) (K + 1) c1]) (by simp [results, Try.results96, go_sem, m1]) rfl ⟨_, _, rfl, (hO1.kept_hi (grownBy_setCell1 _ (w.heap.size + 1) 0 (.slice (some ⟨g1, 0, none⟩) (K + 1) c1)) (fun k hk => by cases hk; omega)).mono (by omega), hb.setCell (p := ⟨w.heap.size + 1, 0, none⟩) (by simp) _⟩
def rowsNewL (s : ByteArray) (k : Int) : List Int := if patOk s k then tab (rowsF s.size) (k.toNat + 1) else []
theorem rowsOf_firstCol (n : Nat) (K : Nat) : tab (rowsOf (tab idI (n + 1)) (n + 1 - 1)) K = tab (rowsF n) K := by
  apply tab_congr
  intro j _
  exact rowsOf_first n n j (Nat.le_refl _)
theorem rowsNewL_yes {s : ByteArray} {K : Nat} (h : patOk s K = true) : rowsNewL s K = tab (rowsF s.size) (K + 1) := by unfold rowsNewL; rw [h]; rfl
set_option maxHeartbeats 1000000 in
theorem spec_rowsNew (s : ByteArray) (k : Int) (f : Bool) (w : World) (hs : s.size ≤ 1048576) :
    Calls Try.prog 50 #[.agg #[.string s, .int .i64 k, .bool f]] w fun e w' => ∃ a n cap, e = .returned (.agg #[.slice a n cap]) ∧ OwnN w' w.heap.size a n cap (rowsNewL s k) ∧ Below w.heap.size w w' := by
  cases hp : patOk s k
  · have HR := Lib.hid (show rowsNewL s k = [] by unfold rowsNewL; rw [hp]; rfl)
    have HP := Lib.hid hp; clear hp
    go_enter Try.func50, Try.ntmps50
    go_wp2_with fail
    refine (spec_patternOk _ _ _ _ (by omega)).mono ?_
    rintro e w1 ⟨rfl, hb1⟩; rw [HP.out]
    obtain ⟨hc_w1, hf_w1⟩ := bcell hb1; have HT_w1 : Below w.heap.size w w1 := below_step (by repeat (first | exact Below.refl _ _ | assumption | (refine Below.drew ?_) | (refine below_drewN ?_ _) | (refine Below.alloc ?_ (by first | omega | (simp; done) | (simp; omega)) _) | (refine Below.setCell ?_ (by first | omega | (simp; done) | (simp; omega)) _))) hb1; have hz_w_w1 : w.heap.size < w1.heap.size := (by have h1 := hb1.size; (try simp at h1); omega)
    have hz1 : w.heap.size + 1 < w1.heap.size := by have h1 := hb1.size; (try simp at h1); omega
    go_wp2_with fail
    exact bodyPost_ret (v := .agg #[.slice none 0 0]) (by simp [results, Try.results50, go_sem, hc_w1]) rfl ⟨_, _, _, rfl, by rw [HR.out]; exact OwnN.nil _ _, HT_w1.setCell (p := ⟨w.heap.size + 1, 0, none⟩) (by simp) _⟩
  · obtain ⟨hs0, hs1, hk0, hk1⟩ := (patOk_iff s k).1 hp
    obtain ⟨K, rfl⟩ := Int.eq_ofNat_of_zero_le hk0
    have HR := Lib.hid (rowsNewL_yes hp)
    have HP := Lib.hid hp; clear hp
    go_enter Try.func50, Try.ntmps50
    go_wp2_with fail
    refine (spec_patternOk _ _ _ _ (by omega)).mono ?_
    rintro e w1 ⟨rfl, hb1⟩; rw [HP.out]
    obtain ⟨hc_w1, hf_w1⟩ := bcell hb1; have HT_w1 : Below w.heap.size w w1 := below_step (by repeat (first | exact Below.refl _ _ | assumption | (refine Below.drew ?_) | (refine below_drewN ?_ _) | (refine Below.alloc ?_ (by first | omega | (simp; done) | (simp; omega)) _) | (refine Below.setCell ?_ (by first | omega | (simp; done) | (simp; omega)) _))) hb1; have hz_w_w1 : w.heap.size < w1.heap.size := (by have h1 := hb1.size; (try simp at h1); omega)
    have hz1 : w.heap.size + 1 < w1.heap.size := by have h1 := hb1.size; (try simp at h1); omega
    go_wp2_with fail
    go_region_law ((go_simp; first | (go_at_call 97; refine (spec_l3First s _ hs).mono ?_; rintro e w2 ⟨a, cap, rfl, hO, hb2⟩; obtain ⟨hc2, hf2⟩ := bcell (below_undrew hb2); have HT2 := below_step HT_w1 (below_undrew hb2); have hz2 : w.heap.size + 1 < w2.heap.size := (by have h1 := hb2.size; (try simp at h1); omega)) | (go_at_call 96; refine (spec_l5Of s K f _ a _ cap _ (by omega) (tab_length _ _) hO.ints (by omega) (by omega)).mono ?_; rintro e w3 ⟨a3, cap3, rfl, hO3, hb3⟩; obtain ⟨hc3, hf3⟩ := bcell hb3; have HT3 := below_step HT2 hb3; have hz3 : w.heap.size + 1 < w3.heap.size := (by have h1 := hb3.size; omega))))
    all_goals
      go_wp2
      exact bodyPost_ret (v := .agg #[.slice a3 (K + 1) cap3]) (by simp [results, Try.results50, go_sem, hc3, hc2, hc_w1, hz1, hz2]) rfl ⟨_, _, _, rfl, by rw [HR.out, ← rowsOf_firstCol]; exact (hO3.kept_hi (grownBy_setCell1 _ (w.heap.size + 1) 0 (.slice a3 (K + 1) cap3)) (fun k hk => by cases hk; omega)).mono (by omega), HT3.setCell (p := ⟨w.heap.size + 1, 0, none⟩) (by simp) _⟩
set_option maxHeartbeats 1000000 in
theorem impl_rowsNew (s : ByteArray) (k : Int) (f : Bool) (w : World) (hs : s.size ≤ 1048576) :
    Calls Try.prog 49 #[.agg #[.string s, .int .i64 k, .bool f]] w fun e w' => ∃ a n cap, e = .returned (.agg #[.slice a n cap]) ∧ OwnN w' w.heap.size a n cap (rowsNewL s k) ∧ Below w.heap.size w w' := by
  cases hp : patOk s k
  · have HR := Lib.hid (show rowsNewL s k = [] by unfold rowsNewL; rw [hp]; rfl)
    have HP := Lib.hid hp; clear hp
    go_enter Try.func49, Try.ntmps49
    go_wp2_with fail
    refine (impl_patternOk _ _ _ _ (by omega)).mono ?_
    rintro e w1 ⟨rfl, hb1⟩; rw [HP.out]
    obtain ⟨hc_w1, hf_w1⟩ := bcell hb1; have HT_w1 : Below w.heap.size w w1 := below_step (by repeat (first | exact Below.refl _ _ | assumption | (refine Below.drew ?_) | (refine below_drewN ?_ _) | (refine Below.alloc ?_ (by first | omega | (simp; done) | (simp; omega)) _) | (refine Below.setCell ?_ (by first | omega | (simp; done) | (simp; omega)) _))) hb1; have hz_w_w1 : w.heap.size < w1.heap.size := (by have h1 := hb1.size; (try simp at h1); omega)
    have hz1 : w.heap.size + 1 < w1.heap.size := by have h1 := hb1.size; (try simp at h1); omega
    go_wp2_with fail
    exact bodyPost_ret (v := .agg #[.slice none 0 0]) (by simp [results, Try.results49, go_sem, hc_w1]) rfl ⟨_, _, _, rfl, by rw [HR.out]; exact OwnN.nil _ _, HT_w1.setCell (p := ⟨w.heap.size + 1, 0, none⟩) (by simp) _⟩
  · obtain ⟨hs0, hs1, hk0, hk1⟩ := (patOk_iff s k).1 hp
    obtain ⟨K, rfl⟩ := Int.eq_ofNat_of_zero_le hk0
    have hK : K ≤ 4 := by omega
    have HR := Lib.hid (rowsNewL_yes hp)
    have HP := Lib.hid hp; clear hp
    obtain ⟨i0, hi, ht0, ht1, ht2⟩ := info_parts int_info
    obtain ⟨n, hn⟩ : ∃ n, n = K + 1 := ⟨_, rfl⟩
    have hn2 : (K : Int) + 1 = (n : Int) := by omega
    have hn3 : n ≤ 5 := by omega
    rw [← hn] at HR
    have HN := Lib.hid hn2; clear hn2 hn
    go_enter Try.func49, Try.ntmps49
    go_wp2_with fail
    refine (impl_patternOk _ _ _ _ (by omega)).mono ?_
    rintro e w1 ⟨rfl, hb1⟩; rw [HP.out]
    obtain ⟨hc_w1, hf_w1⟩ := bcell hb1; have HT_w1 : Below w.heap.size w w1 := below_step (by repeat (first | exact Below.refl _ _ | assumption | (refine Below.drew ?_) | (refine below_drewN ?_ _) | (refine Below.alloc ?_ (by first | omega | (simp; done) | (simp; omega)) _) | (refine Below.setCell ?_ (by first | omega | (simp; done) | (simp; omega)) _))) hb1; have hz_w_w1 : w.heap.size < w1.heap.size := (by have h1 := hb1.size; (try simp at h1); omega)
    have hz1 : w.heap.size + 1 < w1.heap.size := by have h1 := hb1.size; (try simp at h1); omega
    go_wp2_with (at_make; refine wpList_make_full _ rfl _ _ 61 rfl w1.heap.size 2 i0 (.int .i64 0) 1 Try.underlying61 hi ht0 ht1 _ _ _ _ n rfl rfl HN.out HN.out (by rw [ht2]; omega) (by unfold maxLen; omega) (Nat.le_refl _) ?_; intro w2 hown hg)
    have hB2 : Below w1.heap.size w1 w2 := (Below.refl _ _).grown hg (Nat.le_refl _) (fun k hk => by cases hk)
    have hO := OwnN.made hown
    clear hown hg
    have hW1 : w1.cell? ⟨w.heap.size, 0, none⟩ = some (.string s) := by go_simp
    have hWf : w1.cell? ⟨w.heap.size + 1, 0, none⟩ = some (.slice none 0 0) := by go_simp
    have hWg : w1.frozen? ⟨w.heap.size + 1, 0, none⟩ = false := by go_simp
    go_loopw [15] (fun i wr => ∃ (j : Nat) (M : List Int), j ≤ n ∧ i = .int .i64 j ∧ OwnN wr w1.heap.size (some ⟨w1.heap.size, 0, none⟩) n n M ∧ UpTo (rowsF s.size) j M ∧ Below w1.heap.size w1 wr)
      (fun i _ => n - (intOf i).toNat)
    case atStart => exact ⟨0, _, by omega, rfl, hO, UpTo.zero _ _, hB2⟩
    case round =>
      obtain ⟨j, M, hj, rfl, hown, hup, hb⟩ := hrel
      have m0 := (hb.cell (p := ⟨w.heap.size, 0, none⟩) hz_w_w1).trans hW1
      have m1 := (hb.cell (p := ⟨w.heap.size + 1, 0, none⟩) hz1).trans hWf
      have f1 := (hb.frozen (p := ⟨w.heap.size + 1, 0, none⟩) hz1).trans hWg
      clear hc_w1 hf_w1 hW1 hWf hWg hO hb1 hB2
      by_cases hlt : j < n
      · have hc := hown.cell j hlt
        have hf := hown.frozen j
        by_cases hjs : j ≤ s.size
        · have hv : rowsF s.size j = 2 ^ j - 1 := by unfold rowsF; rw [Nat.min_eq_left hjs]
          have hjs2 : (j : Int) ≤ (s.size : Int) := by omega
          have hown2 := Lib.hid (hown.set j (2 ^ j - 1))
          have hup2 := hup.set (by rw [hown.len]; exact hlt)
          rw [hv] at hup2
          have HU2 := Lib.hid hup2
          clear hown hup hup2 hv
          go_wp2_with (go_at_call 95; refine (impl_lowBits _ _ (by omega)).mono ?_; rintro e w9 ⟨rfl, rfl⟩)
          go_roundw
          case rel => exact ⟨j + 1, _, by omega, by go_num, hown2.out, HU2.out, hb.setCell (p := ⟨w1.heap.size, j, none⟩) (Nat.le_refl _) _⟩
          case measure => simp [intOf]; omega
        · have hv : rowsF s.size j = 2 ^ s.size - 1 := by unfold rowsF; rw [Nat.min_eq_right (by omega)]
          have hjs2 : (s.size : Int) < (j : Int) := by omega
          have hown2 := Lib.hid (hown.set j (2 ^ s.size - 1))
          have hup2 := hup.set (by rw [hown.len]; exact hlt)
          rw [hv] at hup2
          have HU2 := Lib.hid hup2
          clear hown hup hup2 hv
          go_wp2_with (go_at_call 95; refine (impl_lowBits _ _ (by omega)).mono ?_; rintro e w9 ⟨rfl, rfl⟩)
          go_roundw
          case rel => exact ⟨j + 1, _, by omega, by go_num, hown2.out, HU2.out, hb.setCell (p := ⟨w1.heap.size, j, none⟩) (Nat.le_refl _) _⟩
          case measure => simp [intOf]; omega
      · obtain rfl : j = n := by omega
        have HM := Lib.hid (hup.tab hown.len)
        clear hup
        go_wp2
        exact bodyPost_ret (v := .agg #[.slice (some ⟨w1.heap.size, 0, none⟩) j j]) (by simp [results, Try.results49, go_sem, m1]) rfl ⟨_, _, _, rfl, by rw [HR.out, ← HM.out]; exact (hown.kept_hi (grownBy_setCell1 _ (w.heap.size + 1) 0 (.slice (some ⟨w1.heap.size, 0, none⟩) j j)) (fun k hk => by cases hk; exact hz1)).mono (by omega), (below_step HT_w1 hb).setCell (p := ⟨w.heap.size + 1, 0, none⟩) (by simp) _⟩
end Go.Proofs.Ytglldmfhjipacaa

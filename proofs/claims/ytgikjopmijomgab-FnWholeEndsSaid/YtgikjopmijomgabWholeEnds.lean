/-
  FnWholeEnds: the walk.
-/
import Derived.Test.YtgikjopmijomgabEndsAt
import Derived.Test.YtgikjopmijomgabSameEnds
import Derived.Test.YtgikjopmijomgabEndsFacts
import Derived.Test.YtgikjopmijomgabL19WhS
import Derived.Test.YtgikjopmijomgabSameSpans
import Derived.Test.YtgikjopmijomgabWholeDraw
namespace Go.Proofs.Ytgikjopmijomgab
open Go.RowKit
set_option linter.unusedVariables false
set_option maxRecDepth 100000
def anyTo (p : Nat → Bool) : Nat → Bool
  | 0 => false
  | k + 1 => anyTo p k || p k
theorem anyTo_of {p : Nat → Bool} {c : Nat} (hp : p c = true) : ∀ n, c < n → anyTo p n = true := by
  intro n
  induction n with
  | zero => intro h; omega
  | succ n ih =>
    intro h
    rw [anyTo]
    by_cases e : c = n
    · rw [← e, hp, Bool.or_true]
    · rw [ih (by omega), Bool.true_or]
theorem whL_get (s : ByteArray) (K : Int) (f : Bool) (r : ByteArray) : ∀ (W : List (Nat × Nat)) (i : Nat), i * 2 + 1 < (whL s K f r W).length → ∃ x ∈ W, intAt (whL s K f r W) (i * 2) = (x.2 : Int) ∧ intAt (whL s K f r W) (i * 2 + 1) = distI s (r.extract x.1 x.2) f ∧ distI s (r.extract x.1 x.2) f ≤ K := by
  intro W
  induction W with
  | nil => intro i h; simp [whL] at h
  | cons x W ih =>
    intro i h
    by_cases hd : distI s (r.extract x.1 x.2) f ≤ K
    · have e : whL s K f r (x :: W) = (x.2 : Int) :: distI s (r.extract x.1 x.2) f :: whL s K f r W := by rw [whL, whOne, if_pos hd]; rfl
      rw [e] at h ⊢
      cases i with
      | zero => exact ⟨x, List.mem_cons_self, rfl, rfl, hd⟩
      | succ i =>
        have es : ∀ j, intAt ((x.2 : Int) :: distI s (r.extract x.1 x.2) f :: whL s K f r W) (j + 2) = intAt (whL s K f r W) j := fun j => by simp [intAt]
        obtain ⟨z, hz, h1, h2, h3⟩ := ih i (by simp at h; omega)
        rw [show (i + 1) * 2 = i * 2 + 2 by omega, show i * 2 + 2 + 1 = i * 2 + 1 + 2 by omega, es, es]
        exact ⟨z, List.mem_cons_of_mem _ hz, h1, h2, h3⟩
    · have e : whL s K f r (x :: W) = whL s K f r W := by rw [whL, whOne, if_neg hd]; rfl
      rw [e] at h ⊢
      obtain ⟨z, hz, h1, h2, h3⟩ := ih i h
      exact ⟨z, List.mem_cons_of_mem _ hz, h1, h2, h3⟩
def pE (E : List Int) (y d : Int) (c : Nat) : Bool := (intAt E (c * 2) == y) && decide (intAt E (c * 2 + 1) ≤ d)
def pW (s r : ByteArray) (f : Bool) (y d : Int) (c : Nat) : Bool := ((((wordsL r).getD c (0, 0)).2 : Int) == y) && (distI s (r.extract ((wordsL r).getD c (0, 0)).1 ((wordsL r).getD c (0, 0)).2) f == d)
/-- what the law asks of an end -/
theorem whole_end {s r : ByteArray} {K : Int} {f : Bool} (hs : s.size ≤ 200) (hr : r.size ≤ 200) (i : Nat) (hi : i * 2 + 1 < (wholeV s K f r).length) :
    intAt (wholeV s K f r) (i * 2 + 1) ≤ K ∧ anyTo (pE (endsL s K f r) (intAt (wholeV s K f r) (i * 2)) (intAt (wholeV s K f r) (i * 2 + 1))) ((endsL s K f r).length / 2) = true ∧
    anyTo (pW s r f (intAt (wholeV s K f r) (i * 2)) (intAt (wholeV s K f r) (i * 2 + 1))) (wordsL r).length = true := by
  by_cases hp : patOk s K = true ∧ r.size ≤ 200
  · have eV : wholeV s K f r = whL s K f r (wordsL r) := if_pos hp
    rw [eV] at hi ⊢
    obtain ⟨⟨x, y⟩, hx, h1, h2, h3⟩ := whL_get s K f r (wordsL r) i hi
    simp only at h1 h2 h3
    have hxy := wTo_lt r r.size (x, y) hx
    simp only at hxy
    rw [h1, h2]
    refine ⟨h3, ?_, ?_⟩
    · have hE : endsL s K f r = endF (lastD s r f) K (r.size + 1) := by unfold endsL; rw [hp.1]; simp [hr]
      have hle : lastD s r f y ≤ distI s (r.extract x y) f := by
        rw [← least_is_last s r f y hxy.2 hs hr]
        exact leastTo_le s r f y (y + 1) x (by omega)
      obtain ⟨g1, g2, g3⟩ := endF_at (lastD s r f) K y (by omega) (r.size + 1) (by omega)
      rw [hE]
      refine anyTo_of (c := endN (lastD s r f) K y) ?_ _ ?_
      · unfold pE
        rw [g2, g3]
        simp [hle]
      · rw [endF_length]; omega
    · obtain ⟨c, hc, hce⟩ := List.getElem_of_mem hx
      refine anyTo_of (c := c) ?_ _ hc
      unfold pW
      have : (wordsL r).getD c (0, 0) = (x, y) := by rw [List.getD_eq_getElem?_getD, List.getElem?_eq_getElem hc, hce]; rfl
      rw [this]; simp
  · rw [show wholeV s K f r = [] from if_neg hp] at hi; simp at hi
theorem dist_of2 (s t : ByteArray) (f : Bool) (d : Int) (hs : s.size ≤ 1048576) (ht : t.size ≤ 1048576) (hd : distI s t f = d) (w : World) :
    Calls Try.prog 17 #[.string s, .string t, .bool f] w fun e w' => e = .returned (.int .i64 d) ∧ Below w.heap.size w w' :=
  (impl_distance s t f w hs ht).mono fun _ _ h => ⟨by rw [h.1, hd], h.2⟩
set_option maxHeartbeats 16000000 in
theorem law_FnWholeEnds (a : Option Addr) (len cap : Nat) (z : List Int) (w : World) (hr : IsRow .u8 w a len cap z) :
    Calls Try.prog 8 #[.slice a len cap] w fun e w' => e = .returned (.bool true) ∧ Below w.heap.size w w' := by
  by_cases hl : len ≤ 1048576
  · have hbig : decide (1048576 < (len : Int)) = false := by simp; omega
    go_enter Try.func8, Try.ntmps8
    go_wp2_with (go_at_call 9; refine (laws_big _ _ _ _ (by omega)).mono ?_; rintro e w' ⟨rfl, rfl⟩)
    refine (drawWholeEnds _ _ _ _ _ hr hl).mono ?_
    rintro e w1 ⟨s, k, f, t, rfl, hs, hk, ht, hb1⟩
    go_wp2_with fail
    have hr1 := heap_alloc_new w1 (.cells #[.string s, .int .i64 k, .bool f] 36)
    have HB := hb1.alloc hb1.size (.cells #[.string s, .int .i64 k, .bool f] 36)
    have hBl : w1.heap.size < (w1.alloc (.cells #[.string s, .int .i64 k, .bool f] 36)).heap.size := by simp
    generalize (w1.alloc (.cells #[.string s, .int .i64 k, .bool f] 36)) = V at *
    have hwB := hb1.size
    generalize w1.heap.size = B at *
    have hs1 : s.size ≤ 1048576 := by omega
    have ht1 : t.size ≤ 1048576 := by omega
    have hlE := endsL_len s k f t
    have hlL : (wholeV s k f t).length ≤ 402 := by
      unfold wholeV; split
      · have := whL_len s k f t (wordsL t)
        have h2 : (wordsL t).length ≤ 101 := by have := wTo_len t t.size; unfold wordsL; omega
        omega
      · simp
    have hVL : 2 * (wordsL t).length ≤ t.size + 1 := wTo_len t t.size
    have HWE := Lib.hid (fun i hi => whole_end (s := s) (r := t) (K := k) (f := f) (by omega) (by omega) i hi)
    have HVW : Hid (wordsV t = wordsL t) := if_pos (by omega)
    clear hb1
    refine (impl_wholeEnds s k f t _ hs1 ht1).mono ?_
    rintro e w3 ⟨a3, n, cap3, rfl, hL, hb3⟩
    have RB := Lib.hid ((hb3.block B hBl).trans hr1)
    have HB := HB.trans (hb3.mono HB.size)
    have hBl : B < w3.heap.size := by have := hb3.size; omega
    have hn : n ≤ 201 := by have := hL.len; omega
    have n0 : w3.cell? ⟨B, 0, none⟩ = some (.string s) := by rw [cell_of_row _ _ 0 _ _ _ RB.out]; rfl
    have n1 : w3.cell? ⟨B, 1, none⟩ = some (.int .i64 k) := by rw [cell_of_row _ _ 1 _ _ _ RB.out]; rfl
    have n2 : w3.cell? ⟨B, 2, none⟩ = some (.bool f) := by rw [cell_of_row _ _ 2 _ _ _ RB.out]; rfl
    have HLN := Lib.hid hL.len
    have HL := Lib.hid hL
    clear hb3 hr1 hL
    go_wp2_with fail
    refine (spec_wholeEnds s k f t _ hs1 ht1).mono ?_
    rintro e w4 ⟨a4, n4, cap4, rfl, hZ, hb4⟩
    have RB := Lib.hid ((hb4.block B (by omega)).trans RB.out)
    have HL := Lib.hid (HL.out.kept hb4)
    have HB := HB.trans (hb4.mono HB.size)
    have hBl : B < w4.heap.size := by have := hb4.size; omega
    clear n0 n1 n2
    have n0 : w4.cell? ⟨B, 0, none⟩ = some (.string s) := by rw [cell_of_row _ _ 0 _ _ _ RB.out]; rfl
    have n1 : w4.cell? ⟨B, 1, none⟩ = some (.int .i64 k) := by rw [cell_of_row _ _ 1 _ _ _ RB.out]; rfl
    have n2 : w4.cell? ⟨B, 2, none⟩ = some (.bool f) := by rw [cell_of_row _ _ 2 _ _ _ RB.out]; rfl
    have hn4 : n4 = n := by have h1 := hZ.len; have h2 := HLN.out; omega
    subst hn4
    clear hb4
    go_wp2_with fail
    refine (laws_sameEnds _ _ _ _ _ _ _ HL.out.len HL.out.ints hZ.ints (by omega)).mono ?_
    rintro e w5 ⟨rfl, hb5⟩
    have RB := Lib.hid ((hb5.block B (by omega)).trans RB.out)
    have HL := Lib.hid (HL.out.kept hb5)
    have HB := HB.trans (hb5.mono HB.size)
    have hBl : B < w5.heap.size := by have := hb5.size; omega
    clear n0 n1 n2
    have n0 : w5.cell? ⟨B, 0, none⟩ = some (.string s) := by rw [cell_of_row _ _ 0 _ _ _ RB.out]; rfl
    have n1 : w5.cell? ⟨B, 1, none⟩ = some (.int .i64 k) := by rw [cell_of_row _ _ 1 _ _ _ RB.out]; rfl
    have n2 : w5.cell? ⟨B, 2, none⟩ = some (.bool f) := by rw [cell_of_row _ _ 2 _ _ _ RB.out]; rfl
    clear hb5 hZ
    go_wp2_with fail
    refine (impl_wordsOf t _ ht1).mono ?_
    rintro e w6 ⟨a6, cap6, rfl, hW, hb6⟩
    have RB := Lib.hid ((hb6.block B (by omega)).trans RB.out)
    have HL := Lib.hid (HL.out.kept hb6)
    have HB := HB.trans (hb6.mono HB.size)
    have hBl : B < w6.heap.size := by have := hb6.size; omega
    clear n0 n1 n2
    have n0 : w6.cell? ⟨B, 0, none⟩ = some (.string s) := by rw [cell_of_row _ _ 0 _ _ _ RB.out]; rfl
    have n1 : w6.cell? ⟨B, 1, none⟩ = some (.int .i64 k) := by rw [cell_of_row _ _ 1 _ _ _ RB.out]; rfl
    have n2 : w6.cell? ⟨B, 2, none⟩ = some (.bool f) := by rw [cell_of_row _ _ 2 _ _ _ RB.out]; rfl
    rw [HVW.out] at hW ⊢
    obtain ⟨NW, hNW⟩ : ∃ NW, (wordsL t).length = NW := ⟨_, rfl⟩
    rw [hNW] at hW ⊢
    rw [hNW] at hVL
    have HNW := Lib.hid hNW
    have HW := Lib.hid hW
    clear hb6 hW hNW
    go_wp2_with fail
    refine (impl_endsOf s k f t _ hs1 ht1).mono ?_
    rintro e w7 ⟨a7, nE, cap7, rfl, hE, hb7⟩
    have RB := Lib.hid ((hb7.block B (by omega)).trans RB.out)
    have HL := Lib.hid (HL.out.kept hb7)
    have HB := HB.trans (hb7.mono HB.size)
    have hBl : B < w7.heap.size := by have := hb7.size; omega
    clear n0 n1 n2
    have n0 : w7.cell? ⟨B, 0, none⟩ = some (.string s) := by rw [cell_of_row _ _ 0 _ _ _ RB.out]; rfl
    have n1 : w7.cell? ⟨B, 1, none⟩ = some (.int .i64 k) := by rw [cell_of_row _ _ 1 _ _ _ RB.out]; rfl
    have n2 : w7.cell? ⟨B, 2, none⟩ = some (.bool f) := by rw [cell_of_row _ _ 2 _ _ _ RB.out]; rfl
    have HW := Lib.hid (HW.out.kept hb7)
    have hnE : (endsL s k f t).length / 2 = nE := by have := hE.len; omega
    have HNE := Lib.hid hnE
    have hnE2 : nE ≤ 201 := by omega
    have HE := Lib.hid hE
    have HSL := Lib.hid (show (spL (wordsL t)).length = NW * 2 by rw [spL_length, HNW.out])
    have HEL := Lib.hid hE.len
    have NW1 : NW ≤ 101 := by omega
    clear hb7 hE hnE HLN
    have HLN := Lib.hid HL.out.len
    have hnNW : n4 ≤ NW := by
      have h1 := HLN.out
      have h2 : (wholeV s k f t).length ≤ (wordsL t).length * 2 := by
        unfold wholeV; split
        · exact whL_len s k f t (wordsL t)
        · simp
      have h3 := HNW.out
      omega
    go_wp2
    go_loopw [8] (fun i wr => ∃ c : Nat, c ≤ NW ∧ i = .int .i64 c ∧ Below w7.heap.size w7 wr)
      (fun i _ => NW - (intOf i).toNat)
    case atStart => exact ⟨0, by omega, rfl, Below.refl _ _⟩
    case round =>
      obtain ⟨c, hc, rfl, hb⟩ := hrel
      by_cases hlt : c < NW
      · have hlw : c < (wordsL t).length := by rw [HNW.out]; exact hlt
        obtain ⟨⟨x, y⟩, hx⟩ : ∃ x, (wordsL t)[c]? = some x := ⟨_, List.getElem?_eq_getElem hlw⟩
        have hxy := wTo_lt t t.size (x, y) (List.mem_of_getElem? hx)
        simp only at hxy
        have hsp := spL_at (wordsL t) c hlw
        rw [List.getD_eq_getElem?_getD, hx] at hsp
        dsimp only [Option.getD] at hsp
        obtain ⟨b, off, rfl, hp⟩ := (HW.out.ints.kept hb).at (c * 2) (by rw [HSL.out]; omega)
        have e0 := hp (c * 2) (by rw [HSL.out]; omega)
        have e1 := hp (c * 2 + 1) (by rw [HSL.out]; omega)
        rw [hsp.1] at e0
        rw [hsp.2] at e1
        rw [← Nat.add_assoc] at e1
        have f1 : decide ((x : Int) < 0) = false := decide_eq_false (by omega)
        have f2 : decide ((y : Int) < (x : Int)) = false := decide_eq_false (by omega)
        have f3 : decide ((t.size : Int) < (y : Int)) = false := decide_eq_false (by omega)
        have f2N : decide (y < x) = false := decide_eq_false (by omega)
        have f3N : decide (t.size < y) = false := decide_eq_false (by omega)
        have f2M : ¬ y < x := by omega
        have f3M : ¬ t.size < y := by omega
        have c0 : (0 : Int) ≤ (c : Int) := by omega
        have c1 : (c : Int) < (NW : Int) := by omega
        clear hp hsp hx hlw hxy n0 n1 n2
        go_wp2_with fail
        go_quiet (fail)
        go_wp2
        go_roundw
        case rel => exact ⟨c + 1, by omega, by go_num, below_drewN hb _⟩
        case measure => simp [intOf]; omega
      · have hcN : NW = c := by omega
        subst hcN
        have hb0 := hb
        clear hb hlt
        go_wp2
        go_loopw [9] (fun i wr => ∃ q : Nat, q ≤ n4 ∧ i = .int .i64 q ∧ Below w7.heap.size w7 wr)
          (fun i _ => n4 - (intOf i).toNat)
        case atStart => exact ⟨0, by omega, rfl, hb0⟩
        case round =>
          obtain ⟨q, hq, rfl, hbq⟩ := hrel
          by_cases hqt : q < n4
          · obtain ⟨p1, p2, p3⟩ := HWE.out q (by rw [HLN.out]; omega)
            obtain ⟨y, hy⟩ : ∃ y, intAt (wholeV s k f t) (q * 2) = y := ⟨_, rfl⟩
            obtain ⟨d, hd⟩ : ∃ d, intAt (wholeV s k f t) (q * 2 + 1) = d := ⟨_, rfl⟩
            rw [hy, hd] at p2 p3
            rw [hd] at p1
            rw [HNE.out] at p2
            rw [HNW.out] at p3
            have P2 := Lib.hid p2; have P3 := Lib.hid p3
            have HY := Lib.hid hy; have HD := Lib.hid hd
            have hdk : decide (k < d) = false := decide_eq_false (by omega)
            clear p1 p2 p3 hy hd hq
            go_wp2
            go_loopw [10, 11] (fun v i wr => ∃ c : Nat, c ≤ nE ∧ i = .int .i64 c ∧ v = .bool (anyTo (pE (endsL s k f t) y d) c) ∧ Below w7.heap.size w7 wr)
              (fun _ i _ => nE - (intOf i).toNat)
            case atStart => exact ⟨0, by omega, rfl, rfl, hbq⟩
            case round =>
              obtain ⟨c, hc2, rfl, rfl, hb⟩ := hrel
              by_cases hlt : c < nE
              · obtain ⟨bl, offl, rfl, hpl⟩ := (HL.out.ints.kept hb).at (q * 2) (by rw [HLN.out]; omega)
                have l0 := hpl (q * 2) (by rw [HLN.out]; omega)
                have l1 := hpl (q * 2 + 1) (by rw [HLN.out]; omega)
                rw [HY.out] at l0
                rw [HD.out] at l1
                rw [← Nat.add_assoc] at l1
                obtain ⟨be, offe, rfl, hpe⟩ := (HE.out.ints.kept hb).at (c * 2) (by rw [HEL.out]; omega)
                have e0 := hpe (c * 2) (by rw [HEL.out]; omega)
                have e1 := hpe (c * 2 + 1) (by rw [HEL.out]; omega)
                rw [← Nat.add_assoc] at e1
                have hst : anyTo (pE (endsL s k f t) y d) (c + 1) = (anyTo (pE (endsL s k f t) y d) c || ((intAt (endsL s k f t) (c * 2) == y) && decide (intAt (endsL s k f t) (c * 2 + 1) ≤ d))) := rfl
                obtain ⟨u, hu⟩ : ∃ u, intAt (endsL s k f t) (c * 2) = u := ⟨_, rfl⟩
                obtain ⟨v, hv⟩ : ∃ v, intAt (endsL s k f t) (c * 2 + 1) = v := ⟨_, rfl⟩
                rw [hu] at e0 hst
                rw [hv] at e1 hst
                have c0 : (0 : Int) ≤ (c : Int) := by omega
                have c1 : (c : Int) < (nE : Int) := by omega
                have q0 : (0 : Int) ≤ (q : Int) := by omega
                have q1 : (q : Int) < (n4 : Int) := by omega
                have HST := Lib.hid hst
                clear hpl hpe hu hv hst n0 n1 n2
                generalize anyTo (pE (endsL s k f t) y d) c = bb at *
                cases bb with
                | true =>
                  go_wp2_with fail
                  go_quiet (fail)
                  go_wp2
                  go_roundw
                  case rel => exact ⟨c + 1, by omega, by go_num, by rw [HST.out]; rfl, below_drewN hb _⟩
                  case measure => simp [intOf]; omega
                | false =>
                  by_cases huy : u = y
                  · subst huy
                    have h1 : (u == u) = true := by simp
                    by_cases hvd : v ≤ d
                    · have h2 : decide (v ≤ d) = true := by simpa using hvd
                      have H2 := Lib.hid h2
                      go_wp2_with fail
                      go_quiet (fail)
                      go_wp2
                      go_roundw
                      case rel => exact ⟨c + 1, by omega, by go_num, by rw [HST.out, H2.out]; simp, below_drewN hb _⟩
                      case measure => simp [intOf]; omega
                    · have h2 : decide (v ≤ d) = false := by simpa using hvd
                      have H2 := Lib.hid h2
                      go_wp2_with fail
                      go_quiet (fail)
                      go_wp2
                      go_roundw
                      case rel => exact ⟨c + 1, by omega, by go_num, by rw [HST.out, H2.out]; simp, below_drewN hb _⟩
                      case measure => simp [intOf]; omega
                  · have h1 : (u == y) = false := by simpa using huy
                    have H1 := Lib.hid h1
                    go_wp2_with fail
                    go_quiet (fail)
                    go_wp2
                    go_roundw
                    case rel => exact ⟨c + 1, by omega, by go_num, by rw [HST.out, H1.out]; simp, below_drewN hb _⟩
                    case measure => simp [intOf]; omega
              · obtain rfl : c = nE := by omega
                rw [P2.out]
                have hbe := hb
                clear hb hlt
                go_wp2
                go_loopw [12, 13] (fun v i wr => ∃ c : Nat, c ≤ NW ∧ i = .int .i64 c ∧ v = .bool (anyTo (pW s t f y d) c) ∧ Below w7.heap.size w7 wr)
                  (fun _ i _ => NW - (intOf i).toNat)
                case atStart => exact ⟨0, by omega, rfl, rfl, hbe⟩
                case round =>
                  obtain ⟨c2, hc3, rfl, rfl, hb⟩ := hrel
                  obtain ⟨bl, offl, rfl, hpl⟩ := (HL.out.ints.kept hb).at (q * 2) (by rw [HLN.out]; omega)
                  have l0 := hpl (q * 2) (by rw [HLN.out]; omega)
                  have l1 := hpl (q * 2 + 1) (by rw [HLN.out]; omega)
                  rw [HY.out] at l0
                  rw [HD.out] at l1
                  rw [← Nat.add_assoc] at l1
                  have q0 : (0 : Int) ≤ (q : Int) := by omega
                  have q1 : (q : Int) < (n4 : Int) := by omega
                  have RB2 := Lib.hid ((hb.block B (by omega)).trans RB.out)
                  by_cases hlt : c2 < NW
                  · have hlw : c2 < (wordsL t).length := by rw [HNW.out]; exact hlt
                    obtain ⟨⟨x2, y2⟩, hx⟩ : ∃ x, (wordsL t)[c2]? = some x := ⟨_, List.getElem?_eq_getElem hlw⟩
                    have hgd : (wordsL t).getD c2 (0, 0) = (x2, y2) := by rw [List.getD_eq_getElem?_getD, hx]; rfl
                    have hxy := wTo_lt t t.size (x2, y2) (List.mem_of_getElem? hx)
                    simp only at hxy
                    have hsp := spL_at (wordsL t) c2 hlw
                    rw [hgd] at hsp
                    dsimp only at hsp
                    obtain ⟨bw, offw, rfl, hpw⟩ := (HW.out.ints.kept hb).at (c2 * 2) (by rw [HSL.out]; omega)
                    have e0 := hpw (c2 * 2) (by rw [HSL.out]; omega)
                    have e1 := hpw (c2 * 2 + 1) (by rw [HSL.out]; omega)
                    rw [hsp.1] at e0
                    rw [hsp.2] at e1
                    rw [← Nat.add_assoc] at e1
                    have hst : anyTo (pW s t f y d) (c2 + 1) = (anyTo (pW s t f y d) c2 || pW s t f y d c2) := rfl
                    unfold pW at hst
                    rw [hgd] at hst
                    dsimp only at hst
                    have hst2 : anyTo (pW s t f y d) (c2 + 1) = (anyTo (pW s t f y d) c2 || (((y2 : Int) == y) && (distI s (t.extract x2 y2) f == d))) := hst
                    have hz1 : (t.extract x2 y2).size ≤ 100 := by rw [ByteArray.size_extract]; omega
                    obtain ⟨X, hX⟩ : ∃ X, t.extract x2 y2 = X := ⟨_, rfl⟩
                    rw [hX] at hst2 hz1
                    obtain ⟨dd, hdd⟩ : ∃ dd, distI s X f = dd := ⟨_, rfl⟩
                    rw [hdd] at hst2
                    have C1 := Lib.hid (fun W => dist_of2 s X f dd (by omega) (by omega) hdd W)
                    have x20 : (0 : Int) ≤ (x2 : Int) := by omega
                    have x21 : (x2 : Int) ≤ (y2 : Int) := by omega
                    have x22 : (y2 : Int) ≤ (t.size : Int) := by omega
                    have c20 : (0 : Int) ≤ (c2 : Int) := by omega
                    have c21 : (c2 : Int) < (NW : Int) := by omega
                    have m0 : wr.cell? ⟨B, 0, none⟩ = some (.string s) := by rw [cell_of_row _ _ 0 _ _ _ RB2.out]; rfl
                    have m2 : wr.cell? ⟨B, 2, none⟩ = some (.bool f) := by rw [cell_of_row _ _ 2 _ _ _ RB2.out]; rfl
                    have HST := Lib.hid hst2
                    have r0 := cell_regrown m0
                    have r2 := cell_regrown m2
                    have r3 := cell_regrown l0
                    have r4 := cell_regrown l1
                    have r5 := cell_regrown e0
                    have r6 := cell_regrown e1
                    clear hpl hpw hsp hgd hx hlw hxy hst hst2 hdd n0 n1 n2 m0 m2 l0 l1 e0 e1
                    generalize anyTo (pW s t f y d) c2 = bb at *
                    cases bb with
                    | true =>
                      go_wp2_with fail
                      refine wp_region_quiet_below (by kernel_rfl) (by kernel_rfl) ?_
                      repeat (go_big_quiet_step (((go_at_call 17; with_reducible exact Calls.regrown_of (C1.out _)))))
                      refine wpQuiet_nil ?_
                      intro _ hw'
                      obtain ⟨⟨dq, osq⟩, hw''⟩ := hw'
                      subst hw''
                      go_wp2
                      go_roundw
                      case rel => exact ⟨c2 + 1, by omega, by go_num, by rw [HST.out]; simp, hb.trans ((below_regrown wr dq osq).mono hb.size)⟩
                      case measure => simp [intOf]; omega
                    | false =>
                      by_cases huy : (y2 : Int) = y
                      · subst huy
                        have h1 : ((y2 : Int) == (y2 : Int)) = true := by simp
                        by_cases hvd : dd = d
                        · subst hvd
                          have h2 : (dd == dd) = true := by simp
                          go_wp2_with fail
                          refine wp_region_quiet_below (by kernel_rfl) (by kernel_rfl) ?_
                          repeat (go_big_quiet_step (((go_at_call 17; with_reducible exact Calls.regrown_of (C1.out _)))))
                          refine wpQuiet_nil ?_
                          intro _ hw'
                          obtain ⟨⟨dq, osq⟩, hw''⟩ := hw'
                          subst hw''
                          go_wp2
                          go_roundw
                          case rel => exact ⟨c2 + 1, by omega, by go_num, by rw [HST.out]; simp, hb.trans ((below_regrown wr dq osq).mono hb.size)⟩
                          case measure => simp [intOf]; omega
                        · have h2 : (dd == d) = false := by simpa using hvd
                          have H2 := Lib.hid h2
                          go_wp2_with fail
                          refine wp_region_quiet_below (by kernel_rfl) (by kernel_rfl) ?_
                          repeat (go_big_quiet_step (((go_at_call 17; with_reducible exact Calls.regrown_of (C1.out _)))))
                          refine wpQuiet_nil ?_
                          intro _ hw'
                          obtain ⟨⟨dq, osq⟩, hw''⟩ := hw'
                          subst hw''
                          go_wp2
                          go_roundw
                          case rel => exact ⟨c2 + 1, by omega, by go_num, by rw [HST.out, H2.out]; simp, hb.trans ((below_regrown wr dq osq).mono hb.size)⟩
                          case measure => simp [intOf]; omega
                      · have h1 : ((y2 : Int) == y) = false := by simpa using huy
                        have H1 := Lib.hid h1
                        go_wp2_with fail
                        refine wp_region_quiet_below (by kernel_rfl) (by kernel_rfl) ?_
                        repeat (go_big_quiet_step (((go_at_call 17; with_reducible exact Calls.regrown_of (C1.out _)))))
                        refine wpQuiet_nil ?_
                        intro _ hw'
                        obtain ⟨⟨dq, osq⟩, hw''⟩ := hw'
                        subst hw''
                        go_wp2
                        go_roundw
                        case rel => exact ⟨c2 + 1, by omega, by go_num, by rw [HST.out, H1.out]; simp, hb.trans ((below_regrown wr dq osq).mono hb.size)⟩
                        case measure => simp [intOf]; omega
                  · have hcN2 : NW = c2 := by omega
                    subst hcN2
                    rw [P3.out]
                    have m1 : wr.cell? ⟨B, 1, none⟩ = some (.int .i64 k) := by rw [cell_of_row _ _ 1 _ _ _ RB2.out]; rfl
                    clear hpl hlt n0 n1 n2
                    go_wp2_with fail
                    go_quiet (fail)
                    go_wp2
                    go_roundw
                    case rel => exact ⟨q + 1, by omega, by go_num, below_drewN hb _⟩
                    case measure => simp [intOf]; omega
          · obtain rfl : q = n4 := by omega
            have hle : decide ((q : Int) ≤ (NW : Int)) = true := decide_eq_true (by omega)
            have hleN : decide (q ≤ NW) = true := decide_eq_true (by omega)
            have HBF := HB.trans (hbq.mono HB.size)
            go_wp2
            go_ret
            exact ⟨by simp, HBF⟩
  · have hbig : decide (1048576 < (len : Int)) = true := by simp; omega
    go_enter Try.func8, Try.ntmps8
    go_wp2_with (go_at_call 9; go_in)
    go_ret
    exact ⟨rfl, Below.refl _ _⟩
end Go.Proofs.Ytgikjopmijomgab

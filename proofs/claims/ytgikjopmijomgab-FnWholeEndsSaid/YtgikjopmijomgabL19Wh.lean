/-
  Chapter 19: WholeEnds, in the program: a range over the words that appends.
-/
import Derived.Test.YtgikjopmijomgabL19W
import Derived.Test.YtgikjopmijomgabRegL
import Derived.Test.YtgikjopmijomgabDistFacts
import Derived.Test.YtgikjopmijomgabL2Pat
import Derived.Test.YtgikjopmijomgabL3Ends
import Derived.Sort.CutIn
namespace Go.Proofs.Ytgikjopmijomgab
open Go Go.RowKit Go.Shelf
set_option linter.unusedVariables false
set_option maxRecDepth 100000
set_option linter.unusedSimpArgs false
attribute [local go_sem] Oper.semAt_some
/-- of a word that is near enough: where it ends, and by how much it differs -/
def whOne (s : ByteArray) (K : Int) (f : Bool) (r : ByteArray) (x : Nat × Nat) : List Int := if distI s (r.extract x.1 x.2) f ≤ K then [(x.2 : Int), distI s (r.extract x.1 x.2) f] else []
def whL (s : ByteArray) (K : Int) (f : Bool) (r : ByteArray) : List (Nat × Nat) → List Int
  | [] => []
  | x :: W => whOne s K f r x ++ whL s K f r W
theorem whL_append (s : ByteArray) (K : Int) (f : Bool) (r : ByteArray) (A B : List (Nat × Nat)) : whL s K f r (A ++ B) = whL s K f r A ++ whL s K f r B := by
  induction A with
  | nil => rfl
  | cons x A ih => rw [List.cons_append, whL, whL, ih, List.append_assoc]
theorem whL_snoc (s : ByteArray) (K : Int) (f : Bool) (r : ByteArray) (A : List (Nat × Nat)) (x : Nat × Nat) : whL s K f r (A ++ [x]) = whL s K f r A ++ whOne s K f r x := by
  rw [whL_append]; simp [whL]
theorem whL_len (s : ByteArray) (K : Int) (f : Bool) (r : ByteArray) (A : List (Nat × Nat)) : (whL s K f r A).length ≤ A.length * 2 := by
  induction A with
  | nil => exact Nat.le_refl _
  | cons x A ih =>
    rw [whL, List.length_append, List.length_cons]
    have : (whOne s K f r x).length ≤ 2 := by unfold whOne; split <;> simp
    omega
def wholeV (s : ByteArray) (K : Int) (f : Bool) (r : ByteArray) : List Int := if patOk s K = true ∧ r.size ≤ 200 then whL s K f r (wordsL r) else []
set_option maxHeartbeats 8000000 in
theorem impl_wholeEnds (s : ByteArray) (K : Int) (f : Bool) (r : ByteArray) (w : World) (hs : s.size ≤ 1048576) (hr : r.size ≤ 1048576) :
    Calls Try.prog 27 #[.agg #[.string s, .int .i64 K, .bool f], .string r] w fun e w' => ∃ a n cap, e = .returned (.slice a n cap) ∧ OwnM 44 2 w' w.heap.size a n cap (wholeV s K f r) ∧ Below w.heap.size w w' := by
  obtain ⟨i0, hi, hz0, hz1, hz2⟩ := info_parts end_info
  refine (callsIn_wide (n := 6)).1 ?_
  refine callsIn_of_wp_marks Try.func27 rfl trivial ?_ rfl
  simp only [Try.ntmps27, List.size_toArray, List.length_cons, List.length_nil, Nat.reduceAdd, Nat.reduceSub, Array.replicate_succ, Array.replicate_zero, List.push_toArray, List.append_toArray, List.nil_append, List.cons_append]
  cases hp : patOk s K
  · have HR := Lib.hid (show wholeV s K f r = [] by unfold wholeV; rw [hp]; simp)
    have HP := Lib.hid hp; clear hp
    gi_wp2
    (first | refine ⟨trivial, fun h => (Bool.false_ne_true h).elim, ?_⟩ | refine ⟨trivial, ?_⟩)
    refine (callsIn_wide.2 (impl_patternOk s K f _ (by omega))).mono ?_
    rintro e w1 ⟨rfl, hb1⟩
    rw [HP.out]
    have HT : Below w.heap.size w w1 := below_step (by repeat (first | exact Below.refl _ _ | assumption | (refine Below.drew ?_) | (refine below_drewN ?_ _) | (refine Below.alloc ?_ (by first | omega | (simp; done) | (simp; omega)) _) | (refine Below.setCell ?_ (by first | omega | (simp; done) | (simp; omega)) _))) hb1
    gi_wp2
    exact ⟨_, results_tmp rfl _ _ _, _, _, _, rfl, by rw [HR.out]; exact OwnM.nil _ _, HT⟩
  · by_cases h2 : r.size ≤ 200
    · obtain ⟨hs0, hs1, hk0, hk1⟩ := (patOk_iff s K).1 hp
      have HR := Lib.hid (show wholeV s K f r = whL s K f r (wordsL r) from if_pos ⟨hp, h2⟩)
      have HP := Lib.hid hp; clear hp
      have hd2 : decide (200 < (r.size : Int)) = false := by simp; omega
      have hlw : (wordsL r).length ≤ 101 := by have := wTo_len r r.size; unfold wordsL; omega
      gi_wp2
      (first | refine ⟨trivial, fun h => (Bool.false_ne_true h).elim, ?_⟩ | refine ⟨trivial, ?_⟩)
      refine (callsIn_wide.2 (impl_patternOk s K f _ (by omega))).mono ?_
      rintro e w1 ⟨rfl, hb1⟩
      rw [HP.out]
      have p0 : w1.cell? ⟨w.heap.size, 0, none⟩ = some (.string s) := by rw [hb1.cell (p := ⟨w.heap.size, 0, none⟩) (by simp; omega)]; go_simp
      have p1 : w1.cell? ⟨w.heap.size, 1, none⟩ = some (.int .i64 K) := by rw [hb1.cell (p := ⟨w.heap.size, 1, none⟩) (by simp; omega)]; go_simp
      have p2 : w1.cell? ⟨w.heap.size, 2, none⟩ = some (.bool f) := by rw [hb1.cell (p := ⟨w.heap.size, 2, none⟩) (by simp; omega)]; go_simp
      have p3 : w1.cell? ⟨w.heap.size + 1, 0, none⟩ = some (.string r) := by rw [hb1.cell (p := ⟨w.heap.size + 1, 0, none⟩) (by simp)]; go_simp
      have hB1 : Below w.heap.size w w1 := below_step (by repeat (first | exact Below.refl _ _ | assumption | (refine Below.drew ?_) | (refine below_drewN ?_ _) | (refine Below.alloc ?_ (by first | omega | (simp; done) | (simp; omega)) _) | (refine Below.setCell ?_ (by first | omega | (simp; done) | (simp; omega)) _))) hb1
      have hs1' := hb1.size
      simp only [World.size_alloc] at hs1'
      have hzw : w.heap.size + 1 < w1.heap.size := by omega
      have hzw0 : w.heap.size < w1.heap.size := by omega
      clear hb1 hs1'
      gi_wp2
      have v1 : (w1.alloc (.cells #[.slice none 0 0] 39)).cell? ⟨w1.heap.size, 0, none⟩ = some (.slice none 0 0) := by go_simp
      have vf : (w1.alloc (.cells #[.slice none 0 0] 39)).frozen? ⟨w1.heap.size, 0, none⟩ = false := by go_simp
      have v2 : (w1.alloc (.cells #[.slice none 0 0] 39)).cell? ⟨w.heap.size, 0, none⟩ = some (.string s) := by go_simp
      have v3 : (w1.alloc (.cells #[.slice none 0 0] 39)).cell? ⟨w.heap.size, 1, none⟩ = some (.int .i64 K) := by go_simp
      have v4 : (w1.alloc (.cells #[.slice none 0 0] 39)).cell? ⟨w.heap.size, 2, none⟩ = some (.bool f) := by go_simp
      have v5 : (w1.alloc (.cells #[.slice none 0 0] 39)).cell? ⟨w.heap.size + 1, 0, none⟩ = some (.string r) := by go_simp
      have hVB : Below w.heap.size w (w1.alloc (.cells #[.slice none 0 0] 39)) := hB1.alloc hB1.size _
      have hV : (w1.alloc (.cells #[.slice none 0 0] 39)).heap.size = w1.heap.size + 1 := by simp
      generalize w1.alloc (.cells #[.slice none 0 0] 39) = V at *
      generalize w1.heap.size = bE at *
      have hVl : bE < V.heap.size := by omega
      have HVS := Lib.hid hV
      clear hV p0 p1 p2 p3
      (first | refine ⟨trivial, fun h => (Bool.false_ne_true h).elim, ?_⟩ | refine ⟨trivial, ?_⟩)
      refine (callsIn_wide.2 (impl_wordSpans r V)).mono ?_
      rintro e w2 ⟨rfl, rfl⟩
      have hBV : Below V.heap.size V (V.alloc (.cells #[.string r] 9)) := (Below.refl _ V).alloc (Nat.le_refl _) _
      have kt : (V.alloc (.cells #[.string r] 9)).cell? ⟨V.heap.size, 0, none⟩ = some (.string r) := by go_simp
      have hsz : (V.alloc (.cells #[.string r] 9)).heap.size = V.heap.size + 1 := by simp
      generalize V.alloc (.cells #[.string r] 9) = WR at *
      have k1 := (hBV.cell (p := ⟨bE, 0, none⟩) (by show bE < _; omega)).trans v1
      have g1 := (hBV.frozen (p := ⟨bE, 0, none⟩) (by show bE < _; omega)).trans vf
      have k2 := (hBV.cell (p := ⟨w.heap.size, 0, none⟩) (by show w.heap.size < _; omega)).trans v2
      have k3 := (hBV.cell (p := ⟨w.heap.size, 1, none⟩) (by show w.heap.size < _; omega)).trans v3
      have k4 := (hBV.cell (p := ⟨w.heap.size, 2, none⟩) (by show w.heap.size < _; omega)).trans v4
      have k5 := (hBV.cell (p := ⟨w.heap.size + 1, 0, none⟩) (by show w.heap.size + 1 < _; omega)).trans v5
      have hBW := hVB.trans (hBV.mono hVB.size)
      have hlV : V.heap.size < WR.heap.size := by omega
      have HSZ := Lib.hid hsz
      clear hsz v1 vf v2 v3 v4 v5
      gi_wp2
      refine range_law2 rfl (by omega) (gf := 49) (lb := #[boxW V.heap.size]) rfl trivial (enters_of Try.func49 (by kernel_rfl) rfl)
        (words_iter r V.heap.size _ (fun b => b < V.heap.size) WR h2 kt (by omega)) (fun x => rfl) (fun x => .cells #[.int .i64 (x.1 : Int), .int .i64 (x.2 : Int)] 30) (fun x => rfl)
        (fun k x W l o o' h hl ho => h) (fun k x W h => h)
        (fun k T W => ∃ (a : Option Addr) (n cap : Nat), (∀ b, T b ↔ b < V.heap.size ∨ (Value.slice a n cap).ownBlock = some b) ∧ W.cell? ⟨bE, 0, none⟩ = some (.slice a n cap) ∧ W.frozen? ⟨bE, 0, none⟩ = false ∧ OwnM 44 2 W V.heap.size a n cap (whL s K f r ((wordsL r).take k)) ∧ (W.cell? ⟨w.heap.size, 0, none⟩ = some (.string s) ∧ W.cell? ⟨w.heap.size, 1, none⟩ = some (.int .i64 K) ∧ W.cell? ⟨w.heap.size, 2, none⟩ = some (.bool f) ∧ W.cell? ⟨w.heap.size + 1, 0, none⟩ = some (.string r)) ∧ Below w.heap.size w W ∧ V.heap.size ≤ W.heap.size)
        ?hJ (fun b h => by omega) ⟨none, 0, 0, fun b => ⟨.inl, fun h => h.elim id (fun h => by cases h)⟩, k1, g1, OwnM.nil _ _, ⟨k2, k3, k4, k5⟩, hBW, by omega⟩ ?a1 ?assign ?body ?done
      case assign =>
        intro l x W b K hb hK
        unfold encW
        gi_wp2
        rw [← hb]
        exact hK
      case hJ =>
        rintro k T A B ⟨a, n, cap, hT, c1, f1, hO, ⟨q0, q1, q2, q3⟩, hb, hl⟩ hAB
        have hcell : ∀ p : Addr, p.block < V.heap.size → B.cell? p = A.cell? p := fun p hp => hAB.cell ((hT _).2 (.inl hp)) (by omega)
        refine ⟨a, n, cap, hT, (hcell ⟨bE, 0, none⟩ hVl).trans c1, (hAB.frozen (p := ⟨bE, 0, none⟩) ((hT _).2 (.inl (by show bE < _; omega))) (by show bE < _; omega)).trans f1, hO.on fun g hg => hAB.block g ((hT g).2 (.inr hg)) (hO.turn_lt g hg), ⟨(hcell ⟨w.heap.size, 0, none⟩ (by show w.heap.size < _; omega)).trans q0, (hcell ⟨w.heap.size, 1, none⟩ (by show w.heap.size < _; omega)).trans q1, (hcell ⟨w.heap.size, 2, none⟩ (by show w.heap.size < _; omega)).trans q2, (hcell ⟨w.heap.size + 1, 0, none⟩ (by show w.heap.size + 1 < _; omega)).trans q3⟩, hb.trans (hAB.below hb.size fun b h => (hT b).2 (.inl (by omega))), Nat.le_trans hl hAB.size⟩
      case body =>
        rintro l k T ⟨x, y⟩ b W hk ⟨a, n, cap, hT, c1, f1, hO, ⟨q0, q1, q2, q3⟩, hb, hl⟩ hx hbx hTb hbz
        have e0 : W.cell? ⟨b, 0, none⟩ = some (.int .i64 (x : Int)) := by rw [cell_of_row _ _ 0 _ _ _ hbx]; rfl
        have e1 : W.cell? ⟨b, 1, none⟩ = some (.int .i64 (y : Int)) := by rw [cell_of_row _ _ 1 _ _ _ hbx]; rfl
        have htk := take_one hx
        have hmem : (x, y) ∈ wordsL r := List.mem_of_getElem? hx
        have hxy := wTo_lt r r.size (x, y) hmem
        simp only at hxy
        have hxy1 : x ≤ y := by omega
        have hyr : y ≤ r.size := by omega
        have hsn := whL_snoc s K f r ((wordsL r).take k) (x, y)
        rw [← htk] at hsn
        have hlw2 := whL_len s K f r ((wordsL r).take k)
        have hn3 : n ≤ 101 := by have := hO.len; rw [List.length_take] at hlw2; omega
        have hXZ : (r.extract x y).size ≤ 1048576 := by rw [ByteArray.size_extract]; omega
        have hone : whOne s K f r (x, y) = if distI s (r.extract x y) f ≤ K then [(y : Int), distI s (r.extract x y) f] else [] := rfl
        rw [hone] at hsn
        obtain ⟨X, hX⟩ : ∃ X, r.extract x y = X := ⟨_, rfl⟩
        rw [hX] at hsn hXZ
        obtain ⟨d, hd⟩ : ∃ d, distI s X f = d := ⟨_, rfl⟩
        rw [hd] at hsn
        have HX := Lib.hid hX; have HD := Lib.hid hd
        have HSN := Lib.hid hsn
        have HLO := Lib.hid hO.len
        have hx1 : (x : Int) ≤ (y : Int) := by omega
        have hy1 : (y : Int) ≤ (r.size : Int) := by omega
        have hmx : Try.prog.follows .mixedOrders = true := by kernel_rfl
        have hbW : b < W.heap.size := by omega
        clear htk hmem hxy hlw2 hone hX hd hsn hk
        gi_wp2
        gi_cut [7] from 19 (fun D wr => D = .int .i64 d ∧ Below W.heap.size W wr)
        case first =>
          have hSS : (fun W' => W'.cell? ⟨w.heap.size, 0, none⟩ = some (.string s) ∧ W'.cell? ⟨w.heap.size, 2, none⟩ = some (.bool f) ∧ W'.cell? ⟨w.heap.size + 1, 0, none⟩ = some (.string r) ∧ W'.cell? ⟨b, 0, none⟩ = some (.int .i64 (x : Int)) ∧ W'.cell? ⟨b, 1, none⟩ = some (.int .i64 (y : Int))) W.drew := ⟨by go_simp, by go_simp, by go_simp, by go_simp, by go_simp⟩
          refine regionL (fun W' => W'.cell? ⟨w.heap.size, 0, none⟩ = some (.string s) ∧ W'.cell? ⟨w.heap.size, 2, none⟩ = some (.bool f) ∧ W'.cell? ⟨w.heap.size + 1, 0, none⟩ = some (.string r) ∧ W'.cell? ⟨b, 0, none⟩ = some (.int .i64 (x : Int)) ∧ W'.cell? ⟨b, 1, none⟩ = some (.int .i64 (y : Int))) [10, 11] hmx ?_
          refine takeL (i := 0) (v := ?_) rfl (by kernel_rfl) (by kernel_rfl) (by kernel_rfl) (by kernel_rfl) (by kernel_rfl) (by kernel_rfl) (fun _ _ _ h => h) hSS ⟨.inl ⟨by rfl, ?_⟩, fun _ => rfl⟩ ?_
          rotate_left
          · intro W1 h1; obtain ⟨s0, s1, s2, s3, s4⟩ := h1; go_simp; try with_reducible rfl
          (try simp only [Act.put, List.setIfInBounds_toArray, List.set_cons_zero, List.set_cons_succ])
          refine takeL (i := 1) (v := ?_) rfl (by kernel_rfl) (by kernel_rfl) (by kernel_rfl) (by kernel_rfl) (by kernel_rfl) (by kernel_rfl) (fun _ _ _ h => h) hSS ⟨.inl ⟨by rfl, ?_⟩, fun _ => rfl⟩ ?_
          rotate_left
          · intro W1 h1; obtain ⟨s0, s1, s2, s3, s4⟩ := h1; go_simp; try with_reducible rfl
          (try simp only [Act.put, List.setIfInBounds_toArray, List.set_cons_zero, List.set_cons_succ])
          refine takeL (i := 2) (v := ?_) rfl (by kernel_rfl) (by kernel_rfl) (by kernel_rfl) (by kernel_rfl) (by kernel_rfl) (by kernel_rfl) (fun _ _ _ h => h) hSS ⟨.inl ⟨by rfl, ?_⟩, fun _ => rfl⟩ ?_
          rotate_left
          · intro W1 h1; obtain ⟨s0, s1, s2, s3, s4⟩ := h1; go_simp; try with_reducible rfl
          (try simp only [Act.put, List.setIfInBounds_toArray, List.set_cons_zero, List.set_cons_succ])
          refine takeL (i := 3) (v := ?_) rfl (by kernel_rfl) (by kernel_rfl) (by kernel_rfl) (by kernel_rfl) (by kernel_rfl) (by kernel_rfl) (fun _ _ _ h => h) hSS ⟨.inl ⟨by rfl, ?_⟩, fun _ => rfl⟩ ?_
          rotate_left
          · intro W1 h1; obtain ⟨s0, s1, s2, s3, s4⟩ := h1; go_simp; try with_reducible rfl
          (try simp only [Act.put, List.setIfInBounds_toArray, List.set_cons_zero, List.set_cons_succ])
          refine takeL (i := 4) (v := ?_) rfl (by kernel_rfl) (by kernel_rfl) (by kernel_rfl) (by kernel_rfl) (by kernel_rfl) (by kernel_rfl) (fun _ _ _ h => h) hSS ⟨.inl ⟨by rfl, ?_⟩, fun _ => rfl⟩ ?_
          rotate_left
          · intro W1 h1; obtain ⟨s0, s1, s2, s3, s4⟩ := h1; go_simp; try with_reducible rfl
          (try simp only [Act.put, List.setIfInBounds_toArray, List.set_cons_zero, List.set_cons_succ])
          refine takeL (i := 5) (v := ?_) rfl (by kernel_rfl) (by kernel_rfl) (by kernel_rfl) (by kernel_rfl) (by kernel_rfl) (by kernel_rfl) (fun _ _ _ h => h) hSS ⟨.inl ⟨by rfl, ?_⟩, fun _ => rfl⟩ ?_
          rotate_left
          · intro W1 h1; obtain ⟨s0, s1, s2, s3, s4⟩ := h1; go_simp; try with_reducible rfl
          (try simp only [Act.put, List.setIfInBounds_toArray, List.set_cons_zero, List.set_cons_succ])
          refine takeL (i := 6) (v := ?_) rfl (by kernel_rfl) (by kernel_rfl) (by kernel_rfl) (by kernel_rfl) (by kernel_rfl) (by kernel_rfl) (fun _ _ _ h => h) hSS ⟨.inl ⟨by rfl, ?_⟩, fun _ => rfl⟩ ?_
          rotate_left
          · intro W1 h1; obtain ⟨s0, s1, s2, s3, s4⟩ := h1; go_simp; try with_reducible rfl
          (try simp only [Act.put, List.setIfInBounds_toArray, List.set_cons_zero, List.set_cons_succ])
          refine takeL (i := 7) (v := ?_) rfl (by kernel_rfl) (by kernel_rfl) (by kernel_rfl) (by kernel_rfl) (by kernel_rfl) (by kernel_rfl) (fun _ _ _ h => h) hSS ⟨.inl ⟨by rfl, ?_⟩, fun _ => rfl⟩ ?_
          rotate_left
          · intro W1 h1; obtain ⟨s0, s1, s2, s3, s4⟩ := h1; go_simp; try with_reducible rfl
          (try simp only [Act.put, List.setIfInBounds_toArray, List.set_cons_zero, List.set_cons_succ])
          refine takeL (i := 8) (v := ?_) rfl (by kernel_rfl) (by kernel_rfl) (by kernel_rfl) (by kernel_rfl) (by kernel_rfl) (by kernel_rfl) (fun _ _ _ h => h) hSS ⟨.inl ⟨by rfl, ?_⟩, fun _ => rfl⟩ ?_
          rotate_left
          · intro W1 h1; obtain ⟨s0, s1, s2, s3, s4⟩ := h1; go_simp; try with_reducible rfl
          (try simp only [Act.put, List.setIfInBounds_toArray, List.set_cons_zero, List.set_cons_succ])
          refine takeL (i := 9) (v := ?_) rfl (by kernel_rfl) (by kernel_rfl) (by kernel_rfl) (by kernel_rfl) (by kernel_rfl) (by kernel_rfl) (fun _ _ _ h => h) hSS ⟨.inl ⟨by rfl, ?_⟩, fun _ => rfl⟩ ?_
          rotate_left
          · intro W1 h1; obtain ⟨s0, s1, s2, s3, s4⟩ := h1; go_simp; try with_reducible rfl
          (try simp only [Act.put, List.setIfInBounds_toArray, List.set_cons_zero, List.set_cons_succ])
          refine oneL (i := 10) (by kernel_rfl) rfl (fun K1 hK1 => ?_)
          go_simp
          refine ⟨trivial, ?_⟩
          rw [HX.out]
          refine (CallsIn.inRound l (callsIn_wide.2 (impl_distance s X f _ (by omega) hXZ))).mono ?_
          rintro e w4 ⟨rfl, hb4⟩
          rw [HD.out]
          refine hK1 _ _ (fun h => by cases h) ?_
          clear hK1 K1
          refine oneL (i := 11) (by kernel_rfl) rfl (fun K1 hK1 => ?_)
          go_simp
          refine hK1 _ _ (fun h => by cases h) ?_
          clear hK1 K1
          refine doneL (by kernel_rfl) ?_ _
          gi_wp2
          gi_meet
          case rel => exact ⟨rfl, below_undrew hb4⟩
        case rest =>
          obtain ⟨rfl, hbc⟩ := hcut
          have C1 := (hbc.cell (p := ⟨bE, 0, none⟩) (by show bE < _; omega)).trans c1
          have F1 := (hbc.frozen (p := ⟨bE, 0, none⟩) (by show bE < _; omega)).trans f1
          have Q0 := (hbc.cell (p := ⟨w.heap.size, 0, none⟩) (by show w.heap.size < _; omega)).trans q0
          have Q1 := (hbc.cell (p := ⟨w.heap.size, 1, none⟩) (by show w.heap.size < _; omega)).trans q1
          have Q2 := (hbc.cell (p := ⟨w.heap.size, 2, none⟩) (by show w.heap.size < _; omega)).trans q2
          have Q3 := (hbc.cell (p := ⟨w.heap.size + 1, 0, none⟩) (by show w.heap.size + 1 < _; omega)).trans q3
          have E1 := (hbc.cell (p := ⟨b, 1, none⟩) (by show b < _; omega)).trans e1
          have hbw1 : Below w.heap.size w wc := hb.trans (hbc.mono (by omega))
          have hsz2 := hbc.size
          have hO1 := hO.kept hbc
          have hEb : ∀ q, (Value.slice a n cap).ownBlock = some q → V.heap.size ≤ q ∧ q < W.heap.size := fun q hq => hO.2.lt q hq
          have HTT := Lib.hid hT
          have HBC := Lib.hid hbc
          have HSZ2 := Lib.hid hsz2
          have HBZ := Lib.hid hbz
          have hlc : bE < wc.heap.size := by omega
          have hbwc : b < wc.heap.size := by omega
          have hTbE : ∀ q, (Value.slice a n cap).ownBlock = some q → q ≠ bE := fun q hq => by have := (hEb q hq).1; omega
          have hVc : V.heap.size ≤ wc.heap.size := by omega
          clear c1 f1 q0 q1 q2 q3 e0 e1 hO hT hbx hbc hsz2 hbz hb hbW
          by_cases hdk : d ≤ K
          · have hdk2 : decide (d ≤ K) = true := by simpa using hdk
            have hsn := HSN.out
            rw [if_pos hdk] at hsn
            have HTK := Lib.hid hsn
            have HLEN := Lib.hid (show (whL s K f r ((wordsL r).take (k + 1))).length = (n + 1) * 2 by rw [hsn, List.length_append, HLO.out]; simp; omega)
            have HO := Lib.hid hO1
            clear hsn hdk hO1 HSN
            gi_wp2_with (gi_at_builtin; refine wpListIn_append_own_at _ rfl _ _ 39 rfl V.heap.size 44 i0 (.agg #[.int .i64 0, .int .i64 0]) 2 16 Try.underlying39 hi hz0 hz1 hz2 rfl (by decide) _ _ _ rfl (HO.out.kept ((Below.refl wc.heap.size wc).alloc (Nat.le_refl _) (.cells #[.int .i64 (y : Int), .int .i64 d] 44))).2 ⟨wc.heap.size, 0, none⟩ 1 1 [.int .i64 (y : Int), .int .i64 d] rfl rfl (fun j u h => cells_new wc _ _ j u h) (by simp [Value.oneCell']) (by unfold maxLen; omega) (by omega) (by simp; omega) ?_; intro v' w1' hown' hg _ hat; obtain ⟨a', cap', rfl, hO'⟩ := OwnM.shape HLEN.out (by rw [HTK.out, List.map_append]; exact hown'); have hgs := hg.size; have hk2 : ∀ c, c < wc.heap.size → some c ≠ (Value.slice a n cap).ownBlock → w1'.heap[c]? = wc.heap[c]? := (fun c h1 h2 => (hg.block c (by simp; omega) h2).trans (Below.heap_alloc wc (.cells #[.int .i64 (y : Int), .int .i64 d] 44) c h1)); have hcE := (World.cell?_of_block (w := wc) (hk2 bE (by omega) (fun e => hTbE bE e.symm rfl))).trans C1; have hfE := (World.frozen?_of_block (w := wc) (hk2 bE (by omega) (fun e => hTbE bE e.symm rfl))).trans F1)
            have hk3 : ∀ c, c < wc.heap.size → some c ≠ (Value.slice a n cap).ownBlock → c ≠ bE → (w1'.setCell ⟨bE, 0, none⟩ (.slice a' (n + 1) cap')).heap[c]? = wc.heap[c]? := fun c h1 h2 h3 => (Below.heap_setCell w1' ⟨bE, 0, none⟩ _ c h3).trans (hk2 c h1 h2)
            have hVo : ∀ c, c < V.heap.size → some c ≠ (Value.slice a n cap).ownBlock := fun c h1 h2 => by have := (hEb c h2.symm).1; omega
            simp only [World.size_alloc] at hgs
            have hs3 : (w1'.setCell ⟨bE, 0, none⟩ (.slice a' (n + 1) cap')).heap.size = w1'.heap.size := by simp [World.setCell]
            have hWz := HVS.out
            have hz3 := HSZ2.out
            have hbc := HBC.out
            have hcell3 : ∀ p : Addr, p.block < bE → (w1'.setCell ⟨bE, 0, none⟩ (.slice a' (n + 1) cap')).cell? p = wc.cell? p := fun p hp => World.cell?_of_block (hk3 p.block (by omega) (hVo _ (by omega)) (by omega))
            refine ⟨fun c => c < V.heap.size ∨ (Value.slice a' (n + 1) cap').ownBlock = some c, ⟨a', n + 1, cap', fun c => Iff.rfl, World.cell?_setCell_same' _ _ _ (by rw [hcE]; rfl), by rw [World.frozen?_setCell]; exact hfE, hO'.on fun g hg' => Below.heap_setCell w1' ⟨bE, 0, none⟩ _ g (by have := (hO'.2.lt g hg').1; show g ≠ bE; omega), ⟨(hcell3 ⟨w.heap.size, 0, none⟩ (by show w.heap.size < _; omega)).trans Q0, (hcell3 ⟨w.heap.size, 1, none⟩ (by show w.heap.size < _; omega)).trans Q1, (hcell3 ⟨w.heap.size, 2, none⟩ (by show w.heap.size < _; omega)).trans Q2, (hcell3 ⟨w.heap.size + 1, 0, none⟩ (by show w.heap.size + 1 < _; omega)).trans Q3⟩, ?_, by omega⟩, ?_, ?_⟩
            · exact hbw1.trans ⟨hg.os, hg.tape, hg.output, by omega, fun c h => hk3 c (by omega) (hVo c (by omega)) (by omega)⟩
            · exact ⟨hg.os.trans hbc.os, hg.tape.trans hbc.tape, hg.output.trans hbc.output, by omega, fun c h1 h2 => (hk3 c (by omega) (fun e => h1 ((HTT.out c).2 (.inr e.symm))) (fun e => h1 ((HTT.out c).2 (.inl (by omega))))).trans (hbc.block c h2)⟩
            · rintro c (h | h)
              · exact ⟨.inl ((HTT.out c).2 (.inl h)), by omega⟩
              · refine ⟨?_, by have := hO'.turn_lt c h; omega⟩
                rcases hat with e | e
                · exact .inl ((HTT.out c).2 (.inr (e.symm.trans h)))
                · rw [h] at e
                  simp only [Option.some.injEq] at e
                  exact .inr (by rw [e]; simp; omega)
          · have hdk2 : decide (d ≤ K) = false := by simpa using hdk
            have hsn := HSN.out
            rw [if_neg hdk, List.append_nil] at hsn
            have HTK := Lib.hid hsn
            have HO := Lib.hid hO1
            clear hsn hdk hO1 HSN
            gi_wp2
            have hbc := HBC.out
            have hz3 := HSZ2.out
            refine ⟨T, ⟨a, n, cap, HTT.out, C1, F1, by rw [HTK.out]; exact HO.out, ⟨Q0, Q1, Q2, Q3⟩, hbw1, by omega⟩, ⟨hbc.os, hbc.tape, hbc.output, hbc.size, fun c h1 h2 => hbc.block c h2⟩, fun c h => ⟨.inl h, ?_⟩⟩
            rcases (HTT.out c).1 h with h | h
            · omega
            · have := (hEb c h).2; omega
      case done =>
        rintro D T W hD hTD ⟨a, n, cap, hT, c1, f1, hO, _, hb, hl⟩ hK
        rw [List.take_length] at hO
        gi_wp2
        refine ⟨by simp, .inl ⟨_, _, rfl, run_takeDeferred hK, ?_⟩⟩
        refine ⟨_, results_tmp rfl _ _ _, _, _, _, rfl, ?_, hb.trans (belowK_b (w := w) (Nat.le_refl _) W D _ _ (by omega) hK rfl rfl)⟩
        rw [HR.out]
        refine (hO.mono (C := w.heap.size) (by omega)).on fun q hq => World.putObj_heap_other ?_
        rintro rfl
        exact hTD ((hT q).2 (.inr hq))
    · have HR := Lib.hid (show wholeV s K f r = [] from if_neg fun h => h2 h.2)
      have HP := Lib.hid hp; clear hp
      have hd2 : decide (200 < (r.size : Int)) = true := by simp; omega
      gi_wp2
      (first | refine ⟨trivial, fun h => (Bool.false_ne_true h).elim, ?_⟩ | refine ⟨trivial, ?_⟩)
      refine (callsIn_wide.2 (impl_patternOk s K f _ (by omega))).mono ?_
      rintro e w1 ⟨rfl, hb1⟩
      rw [HP.out]
      have HT : Below w.heap.size w w1 := below_step (by repeat (first | exact Below.refl _ _ | assumption | (refine Below.drew ?_) | (refine below_drewN ?_ _) | (refine Below.alloc ?_ (by first | omega | (simp; done) | (simp; omega)) _) | (refine Below.setCell ?_ (by first | omega | (simp; done) | (simp; omega)) _))) hb1
      have p3 : w1.cell? ⟨w.heap.size + 1, 0, none⟩ = some (.string r) := by rw [hb1.cell (p := ⟨w.heap.size + 1, 0, none⟩) (by simp)]; go_simp
      gi_wp2
      exact ⟨_, results_tmp rfl _ _ _, _, _, _, rfl, by rw [HR.out]; exact OwnM.nil _ _, HT⟩
end Go.Proofs.Ytgikjopmijomgab

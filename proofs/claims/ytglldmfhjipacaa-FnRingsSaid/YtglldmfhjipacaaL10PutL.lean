/-
  Chapter 10: rings: contracts of RingPut and RingCut, in the program and in its model.
-/
import Derived.Test.YtglldmfhjipacaaL10Put
import Derived.Deep.RegionHeld3
import Derived.Test.YtglldmfhjipacaaL3Draw
namespace Go.Proofs.Ytglldmfhjipacaa
open Go.RowKit
set_option linter.unusedVariables false
set_option maxRecDepth 100000
def zeros200 : Array Value := (List.replicate 200 (Value.int .u8 0)).toArray
theorem wheel_zero (w : World) : (zeroValue 96).run Try.prog w = .ok (.agg zeros200) w := by kernel_rfl
theorem zeros200_size : zeros200.size = 200 := by simp [zeros200]
theorem start_is (z : Int) (e st : Nat) (d : ByteArray) (w : World) (h : e = st + d.size) (hd : d.size ≤ 1048576) (h1 : e ≤ 1000000) :
    Calls Try.prog 78 #[.agg #[.int .i64 z, .int .i64 (e : Int), .string d]] w fun r w' => r = .returned (.int .i64 (st : Int)) ∧ Below w.heap.size w w' :=
  (impl_start z (e : Int) d w hd (by omega) (by omega)).mono fun _ _ h2 => ⟨by rw [h2.1, show (e : Int) - (d.size : Int) = (st : Int) by omega], h2.2⟩
theorem cut_is (g : Nat) (cs : Array Value) (x y : Int) (lo n : Nat) (f : Nat → UInt8) (D : ByteArray) (w : World) (hg : w.heap[g]? = some (.cells cs 96 (0, 0))) (hx : x = (lo : Int)) (hy : y = (lo : Int) + (n : Int)) (hlo : lo + n ≤ 1000000) (hw : Wh cs lo (lo + n) f) (hn2 : n ≤ 200) (hD : (⟨(cutL f lo n).toArray⟩ : ByteArray) = D) :
    Calls Try.prog 79 #[.pointer (some ⟨g, 0, none⟩), .int .i64 x, .int .i64 y] w fun r w' => r = .returned (.string D) ∧ Below w.heap.size w w' := by
  subst hx hy
  rw [← hD]
  exact wheel_cut g cs lo n f w hg hlo (by omega) hw hn2
theorem Wh.from {cs : Array Value} {lo lo2 hi : Nat} {f : Nat → UInt8} (h : Wh cs lo hi f) (hl : lo ≤ lo2) : Wh cs lo2 hi f := fun p h1 h2 h3 => h p (by omega) h2 h3
/-- what is put: all of it, or its last bytes -/
def tailB (z : Int) (t : ByteArray) : ByteArray := t.extract (t.size - min t.size z.toNat) t.size
def putB (z e : Int) (d s : ByteArray) : Bool := ringB z e d.size && decide (e + s.size ≤ 1000000)
def rpZ (z e : Int) (d s : ByteArray) : Int := if putB z e d s then z else 0
def rpE (z e : Int) (d s : ByteArray) : Int := if putB z e d s then e + s.size else 0
def rpD (z e : Int) (d s : ByteArray) : ByteArray := if putB z e d s then tailB z (d ++ s) else ⟨#[]⟩
theorem box3r {W : World} {B : Nat} {x y v : Value} {t : TypeId} {fr : Nat × Nat} (h : W.heap[B]? = some (.cells #[x, y, v] t fr)) : W.cell? ⟨B, 0, none⟩ = some x ∧ W.cell? ⟨B, 1, none⟩ = some y ∧ W.cell? ⟨B, 2, none⟩ = some v :=
  ⟨by rw [cell_of_row _ _ 0 _ _ _ h]; rfl, by rw [cell_of_row _ _ 1 _ _ _ h]; rfl, by rw [cell_of_row _ _ 2 _ _ _ h]; rfl⟩
set_option maxHeartbeats 4000000 in
theorem impl_ringPut_yes (z : Int) (e st : Nat) (d s : ByteArray) (w : World) (hr : ringB z (e : Int) d.size = true) (hst : e = st + d.size) (hes : (e : Int) + s.size ≤ 1000000) :
    Calls Try.prog 17 #[.agg #[.int .i64 z, .int .i64 (e : Int), .string d], .string s] w fun r w' => r = .returned (.tuple #[.agg #[.int .i64 z, .int .i64 ((e : Int) + s.size), .string (tailB z (d ++ s))], .bool true]) ∧ Below w.heap.size w w' := by
  obtain ⟨r0, r1, r2, r3, r4, r5⟩ := (ringB_iff _ _ _).1 hr
  have HP := Lib.hid hr; clear hr
  have hz := wheel_zero
  obtain ⟨lo, n, hlo, hn, hln, hmx⟩ : ∃ lo n : Nat, lo + n = e + s.size ∧ st ≤ lo ∧ n ≤ 200 ∧ ((((st : Int) < (e : Int) + s.size - z) ∧ (lo : Int) = (e : Int) + s.size - z) ∨ (¬ ((st : Int) < (e : Int) + s.size - z) ∧ lo = st)) ∧ lo - st + n = d.size + s.size ∧ n = min (d.size + s.size) z.toNat := by
    by_cases h : (st : Int) < (e : Int) + s.size - z
    · exact ⟨((e : Int) + s.size - z).toNat, z.toNat, by omega, by omega, by omega, .inl ⟨h, by omega⟩, by omega, by omega⟩
    · exact ⟨st, d.size + s.size, by omega, by omega, by omega, .inr ⟨h, rfl⟩, by omega, by omega⟩
  obtain ⟨hmx, hl2, hl3⟩ := hmx
  have hdz : (d ++ s).size = d.size + s.size := by simp
  have hD : (⟨(cutL (ringF d s st) lo n).toArray⟩ : ByteArray) = tailB z (d ++ s) := by
    rw [cutL_ring d s st lo n (by omega) (by omega)]
    unfold tailB
    rw [hdz, show lo - st = d.size + s.size - min (d.size + s.size) z.toNat by omega, show d.size + s.size - min (d.size + s.size) z.toNat + n = d.size + s.size by omega]
  have hW := wh_two (cs := zeros200) d s st zeros200_size
  have HC := Lib.hid (show Wh (putC (putC zeros200 st d d.size) e s s.size) lo (lo + n) (ringF d s st) by rw [hlo, hst]; exact hW.from (by omega))
  have HD := Lib.hid hD
  have hd2 : d.size ≤ 1048576 := by omega
  have hs2 : s.size ≤ 1048576 := by omega
  have he2 : e ≤ 1000000 := by omega
  have hst2 : st ≤ 1000000 := by omega
  generalize tailB z (d ++ s) = D at *
  have HL := Lib.hid (show lo + n ≤ 1000000 by omega)
  have HN := Lib.hid hln
  have hY := Lib.hid (show (e : Int) + (s.size : Int) = (lo : Int) + (n : Int) by omega)
  have HST := Lib.hid hst
  clear hW hD hl2 hl3 hln hst hlo hdz hn
  go_enter Try.func17, Try.ntmps17
  go_wp2_with fail
  refine (impl_ringOk _ _ _ _ (by omega)).mono ?_
  rintro r w1 ⟨rfl, hb1⟩
  rw [HP.out]
  have rR := (hb1.block w.heap.size (by simp; omega)).trans (heap_alloc2_old w _ _)
  have rQ := (hb1.block (w.heap.size + 1) (by simp)).trans (heap_alloc2_new w _ _)
  have HB : Below w.heap.size w w1 := below_step (by repeat (first | exact Below.refl _ _ | assumption | (refine Below.drew ?_) | (refine below_drewN ?_ _) | (refine Below.alloc ?_ (by first | omega | (simp; done) | (simp; omega)) _) | (refine Below.setCell ?_ (by first | omega | (simp; done) | (simp; omega)) _))) hb1
  have hz1 : w.heap.size + 1 < w1.heap.size := by have h1 := hb1.size; (try simp at h1); omega
  obtain ⟨a0, a1, a2⟩ := box3r rR
  clear hb1
  have i0 : ¬ ((1000000 : Int) - (e : Int) < (s.size : Int)) := by omega
  go_wp2_with fail
  have rW := heap_alloc_new w1 (.cells zeros200 96)
  replace rR := (Below.heap_alloc w1 (.cells zeros200 96) w.heap.size (by omega)).trans rR
  replace rQ := (Below.heap_alloc w1 (.cells zeros200 96) (w.heap.size + 1) (by omega)).trans rQ
  replace HB := HB.alloc HB.size (.cells zeros200 96)
  have hz2 : w1.heap.size < (w1.alloc (.cells zeros200 96)).heap.size := by simp
  generalize w1.alloc (.cells zeros200 96) = w2 at *
  generalize w1.heap.size = g at *
  have hwg : w.heap.size + 1 < g := hz1
  have rRd : w2.drew.heap[w.heap.size]? = some (.cells #[.int .i64 z, .int .i64 (e : Int), .string d] 25 (0, 0)) := rR
  have rQd : w2.drew.heap[w.heap.size + 1]? = some (.cells #[.int .i64 0, .int .i64 0, .string ⟨#[]⟩] 25 (0, 0)) := rQ
  have rWd : w2.drew.heap[g]? = some (.cells zeros200 96 (0, 0)) := rW
  have HBd := HB.drew
  have hzd : g < w2.drew.heap.size := hz2
  have hS0 : w2.drew.cell? ⟨w.heap.size, 0, none⟩ = some (.int .i64 z) ∧ w2.drew.cell? ⟨w.heap.size, 1, none⟩ = some (.int .i64 (e : Int)) ∧ w2.drew.cell? ⟨w.heap.size, 2, none⟩ = some (.string d) := box3r rRd
  clear rR rQ rW HB hz2 a0 a1 a2 hz1
  go_region_held3 (fun W => W.cell? ⟨w.heap.size, 0, none⟩ = some (.int .i64 z) ∧ W.cell? ⟨w.heap.size, 1, none⟩ = some (.int .i64 (e : Int)) ∧ W.cell? ⟨w.heap.size, 2, none⟩ = some (.string d)) (first | with_reducible exact hS0 | with_reducible exact hS1 | with_reducible exact hS2 | go_keep)
    (first
      | (go_at_call 78; (with_reducible refine (start_is z e st d _ HST.out hd2 he2).mono ?_); rintro r w3 ⟨rfl, hb3⟩; have hz3 : g < w3.heap.size := (Nat.lt_of_lt_of_le hzd hb3.size); have rW3 := (hb3.block g hzd).trans rWd; have rR3 := (hb3.block w.heap.size (by omega)).trans rRd; have rQ3 := (hb3.block (w.heap.size + 1) (by omega)).trans rQd; have HB3 := HBd.trans (hb3.mono HBd.size); have hS1 : w3.cell? ⟨w.heap.size, 0, none⟩ = some (.int .i64 z) ∧ w3.cell? ⟨w.heap.size, 1, none⟩ = some (.int .i64 (e : Int)) ∧ w3.cell? ⟨w.heap.size, 2, none⟩ = some (.string d) := box3r rR3)
      | (go_at_call 77; (with_reducible refine (wheel_put g zeros200 st d _ rW3 zeros200_size hst2 hd2).mono ?_); rintro r w4 ⟨rfl, rW4, hg4⟩; have rR4 := (hg4.block w.heap.size (by omega) (by simp; omega)).trans rR3; have rQ4 := (hg4.block (w.heap.size + 1) (by omega) (by simp; omega)).trans rQ3; have HB4 := HB3.grown hg4 HB3.size (fun q e => by cases e; omega); have hz4 : g < w4.heap.size := Nat.lt_of_lt_of_le hz3 hg4.size; have hS2 : w4.cell? ⟨w.heap.size, 0, none⟩ = some (.int .i64 z) ∧ w4.cell? ⟨w.heap.size, 1, none⟩ = some (.int .i64 (e : Int)) ∧ w4.cell? ⟨w.heap.size, 2, none⟩ = some (.string d) := box3r rR4))
  obtain ⟨b0, b1, b2⟩ := hS2
  clear hS0 hS1 rRd rQd rWd HBd hzd rW3 rR3 rQ3 HB3 hz3 hb3 hg4
  go_wp2_with fail
  refine (wheel_put g _ e s _ rW4 (by rw [putC_size, zeros200_size]) he2 hs2).mono ?_
  rintro r w5 ⟨rfl, rW5, hg5⟩
  have rR5 := (hg5.block w.heap.size (by omega) (by simp; omega)).trans rR4
  have rQ5 := (hg5.block (w.heap.size + 1) (by omega) (by simp; omega)).trans rQ4
  have HB5 := HB4.grown hg5 HB4.size (fun q e => by cases e; omega)
  have hz5 : g < w5.heap.size := Nat.lt_of_lt_of_le hz4 hg5.size
  obtain ⟨b0, b1, b2⟩ := box3r rR5
  clear rR4 rQ4 rW4 HB4 hz4 hg5
  go_wp2_with fail
  have rRd : w5.drew.heap[w.heap.size]? = some (.cells #[.int .i64 z, .int .i64 (e : Int), .string d] 25 (0, 0)) := rR5
  have rQd : w5.drew.heap[w.heap.size + 1]? = some (.cells #[.int .i64 0, .int .i64 0, .string ⟨#[]⟩] 25 (0, 0)) := rQ5
  have rWd : w5.drew.heap[g]? = some (.cells (putC (putC zeros200 st d d.size) e s s.size) 96 (0, 0)) := rW5
  have HBd := HB5.drew
  have hzd : g < w5.drew.heap.size := hz5
  have hS0 : w5.drew.cell? ⟨w.heap.size, 0, none⟩ = some (.int .i64 z) ∧ w5.drew.cell? ⟨w.heap.size, 1, none⟩ = some (.int .i64 (e : Int)) ∧ w5.drew.cell? ⟨w.heap.size, 2, none⟩ = some (.string d) := box3r rRd
  clear rR5 rQ5 rW5 HB5 hz5 b0 b1 b2
  have hww : IntKind.i64.wrap ((e : Int) + (s.size : Int) - z) = (e : Int) + (s.size : Int) - z := by rw [IntKind.wrap_i64]; omega
  rcases hmx with ⟨hm1, hm2⟩ | ⟨hm1, hm2⟩
  all_goals
    go_region_held3 (fun W => W.cell? ⟨w.heap.size, 0, none⟩ = some (.int .i64 z) ∧ W.cell? ⟨w.heap.size, 1, none⟩ = some (.int .i64 (e : Int)) ∧ W.cell? ⟨w.heap.size, 2, none⟩ = some (.string d)) (first | with_reducible exact hS0 | with_reducible exact hS1 | go_keep)
      (first
        | (go_at_call 78; (with_reducible refine (start_is z e st d _ HST.out hd2 he2).mono ?_); rintro r w6 ⟨rfl, hb6⟩; have hz6 : g < w6.heap.size := (Nat.lt_of_lt_of_le hzd hb6.size); have rW6 := (hb6.block g hzd).trans rWd; have rR6 := (hb6.block w.heap.size (by omega)).trans rRd; have rQ6 := (hb6.block (w.heap.size + 1) (by omega)).trans rQd; have HB6 := HBd.trans (hb6.mono HBd.size); have hS1 : w6.cell? ⟨w.heap.size, 0, none⟩ = some (.int .i64 z) ∧ w6.cell? ⟨w.heap.size, 1, none⟩ = some (.int .i64 (e : Int)) ∧ w6.cell? ⟨w.heap.size, 2, none⟩ = some (.string d) := box3r rR6))
    have rRe : w6.drew.heap[w.heap.size]? = some (.cells #[.int .i64 z, .int .i64 (e : Int), .string d] 25 (0, 0)) := rR6
    have rQe : w6.drew.heap[w.heap.size + 1]? = some (.cells #[.int .i64 0, .int .i64 0, .string ⟨#[]⟩] 25 (0, 0)) := rQ6
    have rWe : w6.drew.heap[g]? = some (.cells (putC (putC zeros200 st d d.size) e s s.size) 96 (0, 0)) := rW6
    have HBe := HB6.drew
    have hze : g < w6.drew.heap.size := hz6
    have hS2 : w6.drew.cell? ⟨w.heap.size, 0, none⟩ = some (.int .i64 z) ∧ w6.drew.cell? ⟨w.heap.size, 1, none⟩ = some (.int .i64 (e : Int)) ∧ w6.drew.cell? ⟨w.heap.size, 2, none⟩ = some (.string d) := box3r rRe
    clear rRd rQd rWd HBd hzd hS0 hS1 rW6 rR6 rQ6 HB6 hz6 hb6
    go_wp2_with fail
    go_region_held3 (fun W => W.cell? ⟨w.heap.size, 0, none⟩ = some (.int .i64 z) ∧ W.cell? ⟨w.heap.size, 1, none⟩ = some (.int .i64 (e : Int)) ∧ W.cell? ⟨w.heap.size, 2, none⟩ = some (.string d)) (first | with_reducible exact hS2 | with_reducible exact hS3 | with_reducible exact hS4 | go_keep)
      (first
        | (go_at_call 79; (with_reducible refine (cut_is g _ _ _ lo n (ringF d s st) D _ rWe (by omega) hY.out HL.out HC.out HN.out HD.out).mono ?_); rintro r w7 ⟨rfl, hb7⟩; have rR7 := (hb7.block w.heap.size (by omega)).trans rRe; have rQ7 := (hb7.block (w.heap.size + 1) (by omega)).trans rQe; have HB7 := HBe.trans (hb7.mono HBe.size); have hS3 : w7.cell? ⟨w.heap.size, 0, none⟩ = some (.int .i64 z) ∧ w7.cell? ⟨w.heap.size, 1, none⟩ = some (.int .i64 (e : Int)) ∧ w7.cell? ⟨w.heap.size, 2, none⟩ = some (.string d) := box3r rR7; have hS4 : (((w7.setCell ⟨w.heap.size + 1, 0, none⟩ (.int .i64 z)).setCell ⟨w.heap.size + 1, 1, none⟩ (.int .i64 ((e : Int) + (s.size : Int)))).setCell ⟨w.heap.size + 1, 2, none⟩ (.string D)).cell? ⟨w.heap.size, 0, none⟩ = some (.int .i64 z) ∧ (((w7.setCell ⟨w.heap.size + 1, 0, none⟩ (.int .i64 z)).setCell ⟨w.heap.size + 1, 1, none⟩ (.int .i64 ((e : Int) + (s.size : Int)))).setCell ⟨w.heap.size + 1, 2, none⟩ (.string D)).cell? ⟨w.heap.size, 1, none⟩ = some (.int .i64 (e : Int)) ∧ (((w7.setCell ⟨w.heap.size + 1, 0, none⟩ (.int .i64 z)).setCell ⟨w.heap.size + 1, 1, none⟩ (.int .i64 ((e : Int) + (s.size : Int)))).setCell ⟨w.heap.size + 1, 2, none⟩ (.string D)).cell? ⟨w.heap.size, 2, none⟩ = some (.string d) := ⟨(set3_cell (by omega) _ _ _).trans hS3.1, (set3_cell (by omega) _ _ _).trans hS3.2.1, (set3_cell (by omega) _ _ _).trans hS3.2.2⟩; obtain ⟨p0, p1, p2⟩ := box3r rQ7; have g0 := frozen_of_row _ _ 0 _ _ rQ7; have g1 := frozen_of_row _ _ 1 _ _ rQ7; have g2 := frozen_of_row _ _ 2 _ _ rQ7))
    clear hS2 hS3 hS4 rRe rQe rWe rR7 rQ7
    go_wp2_with fail
    exact bodyPost_ret (v := .tuple #[.agg #[.int .i64 z, .int .i64 ((e : Int) + (s.size : Int)), .string D], .bool true]) (by simp [results, Try.results17, go_sem, p0, p1, p2]) rfl ⟨rfl, below_set3 HB7 (Nat.le_succ w.heap.size) _ _ _⟩
theorem putB_no {z e : Int} {d s : ByteArray} (h : putB z e d s = false) : rpZ z e d s = 0 ∧ rpE z e d s = 0 ∧ rpD z e d s = ⟨#[]⟩ := by
  unfold rpZ rpE rpD; rw [h]; exact ⟨rfl, rfl, rfl⟩
theorem putB_yes {z e : Int} {d s : ByteArray} (h : putB z e d s = true) : rpZ z e d s = z ∧ rpE z e d s = e + s.size ∧ rpD z e d s = tailB z (d ++ s) := by
  unfold rpZ rpE rpD; rw [h]; exact ⟨rfl, rfl, rfl⟩
set_option maxHeartbeats 2000000 in
theorem impl_ringPut (z e : Int) (d s : ByteArray) (w : World) (hd : d.size ≤ 1048576) (hs : s.size ≤ 1048576) (he : (Lit.int .i64 e).wf = true) :
    Calls Try.prog 17 #[.agg #[.int .i64 z, .int .i64 e, .string d], .string s] w fun r w' => r = .returned (.tuple #[.agg #[.int .i64 (rpZ z e d s), .int .i64 (rpE z e d s), .string (rpD z e d s)], .bool (putB z e d s)]) ∧ Below w.heap.size w w' := by
  cases hp : putB z e d s
  · obtain ⟨h1, h2, h3⟩ := putB_no hp
    rw [h1, h2, h3]
    cases hr : ringB z e d.size
    · have HP := Lib.hid hr; clear hr hp h1 h2 h3
      go_enter Try.func17, Try.ntmps17
      go_wp2_with fail
      refine (impl_ringOk _ _ _ _ (by omega)).mono ?_
      rintro r w1 ⟨rfl, hb1⟩
      rw [HP.out]
      have rQ := (hb1.block (w.heap.size + 1) (by simp)).trans (heap_alloc2_new w _ _)
      have HB : Below w.heap.size w w1 := below_step (by repeat (first | exact Below.refl _ _ | assumption | (refine Below.drew ?_) | (refine below_drewN ?_ _) | (refine Below.alloc ?_ (by first | omega | (simp; done) | (simp; omega)) _) | (refine Below.setCell ?_ (by first | omega | (simp; done) | (simp; omega)) _))) hb1
      obtain ⟨p0, p1, p2⟩ := box3r rQ
      have g0 := frozen_of_row _ _ 0 _ _ rQ; have g1 := frozen_of_row _ _ 1 _ _ rQ; have g2 := frozen_of_row _ _ 2 _ _ rQ
      clear hb1 rQ
      go_wp2_with fail
      exact bodyPost_ret (v := .tuple #[.agg #[.int .i64 0, .int .i64 0, .string ⟨#[]⟩], .bool false]) (by simp [results, Try.results17, go_sem, p0, p1, p2]) rfl ⟨rfl, below_set3 HB (Nat.le_succ w.heap.size) _ _ _⟩
    · obtain ⟨r0, r1, r2, r3, r4, r5⟩ := (ringB_iff _ _ _).1 hr
      have hn : ¬ (e + s.size ≤ 1000000) := by intro h; unfold putB at hp; rw [hr] at hp; simp at hp; omega
      have i0 : ((1000000 : Int) - e < (s.size : Int)) := by omega
      have HP := Lib.hid hr; clear hr hp h1 h2 h3
      go_enter Try.func17, Try.ntmps17
      go_wp2_with fail
      refine (impl_ringOk _ _ _ _ (by omega)).mono ?_
      rintro r w1 ⟨rfl, hb1⟩
      rw [HP.out]
      have rR := (hb1.block w.heap.size (by simp; omega)).trans (heap_alloc2_old w _ _)
      have rQ := (hb1.block (w.heap.size + 1) (by simp)).trans (heap_alloc2_new w _ _)
      have HB : Below w.heap.size w w1 := below_step (by repeat (first | exact Below.refl _ _ | assumption | (refine Below.drew ?_) | (refine below_drewN ?_ _) | (refine Below.alloc ?_ (by first | omega | (simp; done) | (simp; omega)) _) | (refine Below.setCell ?_ (by first | omega | (simp; done) | (simp; omega)) _))) hb1
      obtain ⟨a0, a1, a2⟩ := box3r rR
      obtain ⟨p0, p1, p2⟩ := box3r rQ
      have g0 := frozen_of_row _ _ 0 _ _ rQ; have g1 := frozen_of_row _ _ 1 _ _ rQ; have g2 := frozen_of_row _ _ 2 _ _ rQ
      clear hb1 rQ rR
      go_wp2_with fail
      exact bodyPost_ret (v := .tuple #[.agg #[.int .i64 0, .int .i64 0, .string ⟨#[]⟩], .bool false]) (by simp [results, Try.results17, go_sem, p0, p1, p2]) rfl ⟨rfl, below_set3 HB (Nat.le_succ w.heap.size) _ _ _⟩
  · obtain ⟨h1, h2, h3⟩ := putB_yes hp
    rw [h1, h2, h3]
    unfold putB at hp
    simp only [Bool.and_eq_true, decide_eq_true_eq] at hp
    obtain ⟨hr, hes⟩ := hp
    obtain ⟨r0, r1, r2, r3, r4, r5⟩ := (ringB_iff _ _ _).1 hr
    obtain ⟨E, rfl⟩ := Int.eq_ofNat_of_zero_le r2
    exact impl_ringPut_yes z E (E - d.size) d s w hr (by omega) hes
theorem tail_whole {z : Int} {t : ByteArray} (h0 : 0 ≤ z) (h : (t.size : Int) ≤ z) : tailB z t = t := by
  unfold tailB
  rw [show t.size - min t.size z.toNat = 0 by omega]
  exact ByteArray.extract_zero_size
set_option maxHeartbeats 2000000 in
theorem spec_ringPut (z e : Int) (d s : ByteArray) (w : World) (hd : d.size ≤ 1048576) (hs : s.size ≤ 1048576) (he : (Lit.int .i64 e).wf = true) :
    Calls Try.prog 18 #[.agg #[.int .i64 z, .int .i64 e, .string d], .string s] w fun r w' => r = .returned (.tuple #[.agg #[.int .i64 (rpZ z e d s), .int .i64 (rpE z e d s), .string (rpD z e d s)], .bool (putB z e d s)]) ∧ Below w.heap.size w w' := by
  cases hp : putB z e d s
  · obtain ⟨h1, h2, h3⟩ := putB_no hp
    rw [h1, h2, h3]
    cases hr : ringB z e d.size
    · have HP := Lib.hid hr; clear hr hp h1 h2 h3
      go_enter Try.func18, Try.ntmps18
      go_wp2_with fail
      refine (spec_ringOk _ _ _ _ (by omega)).mono ?_
      rintro r w1 ⟨rfl, hb1⟩
      rw [HP.out]
      have rQ := (hb1.block (w.heap.size + 1) (by simp)).trans (heap_alloc2_new w _ _)
      have HB : Below w.heap.size w w1 := below_step (by repeat (first | exact Below.refl _ _ | assumption | (refine Below.drew ?_) | (refine below_drewN ?_ _) | (refine Below.alloc ?_ (by first | omega | (simp; done) | (simp; omega)) _) | (refine Below.setCell ?_ (by first | omega | (simp; done) | (simp; omega)) _))) hb1
      obtain ⟨p0, p1, p2⟩ := box3r rQ
      have g0 := frozen_of_row _ _ 0 _ _ rQ; have g1 := frozen_of_row _ _ 1 _ _ rQ; have g2 := frozen_of_row _ _ 2 _ _ rQ
      clear hb1 rQ
      go_wp2_with fail
      exact bodyPost_ret (v := .tuple #[.agg #[.int .i64 0, .int .i64 0, .string ⟨#[]⟩], .bool false]) (by simp [results, Try.results18, go_sem, p0, p1, p2]) rfl ⟨rfl, below_set3 HB (Nat.le_succ w.heap.size) _ _ _⟩
    · obtain ⟨r0, r1, r2, r3, r4, r5⟩ := (ringB_iff _ _ _).1 hr
      have hn : ¬ (e + s.size ≤ 1000000) := by intro h; unfold putB at hp; rw [hr] at hp; simp at hp; omega
      have i0 : ((1000000 : Int) < e + (s.size : Int)) := by omega
      have hww : IntKind.i64.wrap (e + (s.size : Int)) = e + (s.size : Int) := by rw [IntKind.wrap_i64]; omega
      have HP := Lib.hid hr; clear hr hp h1 h2 h3
      go_enter Try.func18, Try.ntmps18
      go_wp2_with fail
      refine (spec_ringOk _ _ _ _ (by omega)).mono ?_
      rintro r w1 ⟨rfl, hb1⟩
      rw [HP.out]
      have rR := (hb1.block w.heap.size (by simp; omega)).trans (heap_alloc2_old w _ _)
      have rQ := (hb1.block (w.heap.size + 1) (by simp)).trans (heap_alloc2_new w _ _)
      have HB : Below w.heap.size w w1 := below_step (by repeat (first | exact Below.refl _ _ | assumption | (refine Below.drew ?_) | (refine below_drewN ?_ _) | (refine Below.alloc ?_ (by first | omega | (simp; done) | (simp; omega)) _) | (refine Below.setCell ?_ (by first | omega | (simp; done) | (simp; omega)) _))) hb1
      obtain ⟨a0, a1, a2⟩ := box3r rR
      obtain ⟨p0, p1, p2⟩ := box3r rQ
      have g0 := frozen_of_row _ _ 0 _ _ rQ; have g1 := frozen_of_row _ _ 1 _ _ rQ; have g2 := frozen_of_row _ _ 2 _ _ rQ
      clear hb1 rQ rR
      go_wp2_with fail
      exact bodyPost_ret (v := .tuple #[.agg #[.int .i64 0, .int .i64 0, .string ⟨#[]⟩], .bool false]) (by simp [results, Try.results18, go_sem, p0, p1, p2]) rfl ⟨rfl, below_set3 HB (Nat.le_succ w.heap.size) _ _ _⟩
  · obtain ⟨h1, h2, h3⟩ := putB_yes hp
    rw [h1, h2, h3]
    unfold putB at hp
    simp only [Bool.and_eq_true, decide_eq_true_eq] at hp
    obtain ⟨hr, hes⟩ := hp
    obtain ⟨r0, r1, r2, r3, r4, r5⟩ := (ringB_iff _ _ _).1 hr
    have hds : (d ++ s).size = d.size + s.size := by simp
    obtain ⟨T, hT⟩ : ∃ T, d ++ s = T := ⟨_, rfl⟩
    rw [hT] at hds
    have HT := Lib.hid hT
    have i0 : ¬ ((1000000 : Int) < e + (s.size : Int)) := by omega
    have hww : IntKind.i64.wrap (e + (s.size : Int)) = e + (s.size : Int) := by rw [IntKind.wrap_i64]; omega
    have HP := Lib.hid hr; clear hr h1 h2 h3
    have hT2 : T.size ≤ 2097152 := by omega
    have hcat : d ++ s = T := hT
    go_enter Try.func18, Try.ntmps18
    go_wp2_with fail
    refine (spec_ringOk _ _ _ _ (by omega)).mono ?_
    rintro r w1 ⟨rfl, hb1⟩
    rw [HP.out]
    have rR := (hb1.block w.heap.size (by simp; omega)).trans (heap_alloc2_old w _ _)
    have rQ := (hb1.block (w.heap.size + 1) (by simp)).trans (heap_alloc2_new w _ _)
    have HB : Below w.heap.size w w1 := below_step (by repeat (first | exact Below.refl _ _ | assumption | (refine Below.drew ?_) | (refine below_drewN ?_ _) | (refine Below.alloc ?_ (by first | omega | (simp; done) | (simp; omega)) _) | (refine Below.setCell ?_ (by first | omega | (simp; done) | (simp; omega)) _))) hb1
    obtain ⟨a0, a1, a2⟩ := box3r rR
    obtain ⟨p0, p1, p2⟩ := box3r rQ
    have g0 := frozen_of_row _ _ 0 _ _ rQ; have g1 := frozen_of_row _ _ 1 _ _ rQ; have g2 := frozen_of_row _ _ 2 _ _ rQ
    clear hb1 rQ rR hds
    by_cases hl : (T.size : Int) ≤ z
    · have HW := Lib.hid (tail_whole r0 hl)
      go_wp2_with fail
      exact bodyPost_ret (v := .tuple #[.agg #[.int .i64 z, .int .i64 (e + (s.size : Int)), .string T], .bool true]) (by simp [results, Try.results18, go_sem, p0, p1, p2]) rfl ⟨by rw [hT, HW.out], below_set3 HB (Nat.le_succ w.heap.size) _ _ _⟩
    · have hw2 : IntKind.i64.wrap ((T.size : Int) - z) = ((T.size - z.toNat : Nat) : Int) := by rw [IntKind.wrap_i64]; omega
      obtain ⟨q, hq⟩ : ∃ q, T.size - z.toNat = q := ⟨_, rfl⟩
      rw [hq] at hw2
      have hq2 : q ≤ T.size := by omega
      have HW := Lib.hid (show tailB z T = T.extract q T.size by unfold tailB; rw [show T.size - min T.size z.toNat = q by omega])
      go_wp2_with fail
      exact bodyPost_ret (v := .tuple #[.agg #[.int .i64 z, .int .i64 (e + (s.size : Int)), .string (T.extract q T.size)], .bool true]) (by simp [results, Try.results18, go_sem, p0, p1, p2]) rfl ⟨by rw [hT, HW.out], below_set3 HB (Nat.le_succ w.heap.size) _ _ _⟩
end Go.Proofs.Ytglldmfhjipacaa

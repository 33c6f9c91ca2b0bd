/-
  A slice of nodes of a tree of words that came in: opened; its size; the law's copy of it.
-/
import Derived.Deep.Slices
import Derived.Deep.Strs
import Derived.Lib.SmallJoins
import Derived.ProofKit
import Derived.Test.YtgikjopmijomgaaBkLaw
import Derived.Deep.RegionLaw
namespace Go.Proofs.Ytgikjopmijomgaa
open Go.ChangeShapes Go.WideShapes Go.Deep Go.Joins Go.ChangeAt Go.RowKit
set_option linter.unusedVariables false
set_option maxRecDepth 100000
instance bkInh : Inhabited BkN := ⟨⟨⟨#[]⟩, 0, 0⟩⟩
section
variable {H : Type} {enc : TypeId × Value → H} {w : World} {base : Nat} {held : Bool}
theorem open_bks {t e : TypeId} {f0 f1 f2 : Field} {fuel : Nat} {a0 : Option Addr} {len0 cap0 : Nat} {x : DataW H × List MemPlace} (ht : Try.prog.underlying t = some (.slice e)) (he : Try.prog.underlying e = some (.struct #[f0, f1, f2])) (hone : oneCellFields Try.prog #[f0, f1, f2] = true) (hC : Try.prog.cellsOf e = 3)
    (ht0 : Try.prog.underlying f0.type = some .string) (ht1 : Try.prog.underlying f1.type = some (.int .i64)) (ht2 : Try.prog.underlying f2.type = some (.int .i64))
    (h : DataW.trod enc Try.prog w base (fun _ => true) held fuel t [.slice a0 len0 cap0] = some x) :
    ∃ T : List BkN, T.length = len0 ∧ Vals w a0 (bks T) ∧ len0 ≤ maxLen ∧ ∀ i, i < len0 → (bkAt T i).t.size ≤ maxLen := by
  rcases open_slice ht h with ⟨hcs, _⟩ | ⟨a, len, cap, m, n, D, Pl, hcs, hb, hl, hm, hmm, hx, hit⟩
  · simp only [List.cons.injEq, Value.slice.injEq, and_true] at hcs
    obtain ⟨rfl, rfl, rfl⟩ := hcs
    exact ⟨[], rfl, .inl rfl, by omega, fun i hi => by omega⟩
  · simp only [List.cons.injEq, Value.slice.injEq, and_true] at hcs
    obtain ⟨rfl, rfl, rfl⟩ := hcs
    have hlm : len0 ≤ m := by rw [hmm]; split <;> omega
    have one : ∀ i, i < len0 → ∃ p : BkN, (w.cell? ((a.add (i * 3)).add 0) = some (.string p.t) ∧ w.cell? ((a.add (i * 3)).add 1) = some (.int .i64 p.d) ∧ w.cell? ((a.add (i * 3)).add 2) = some (.int .i64 p.u)) ∧ p.t.size ≤ maxLen := by
      intro i hi0
      obtain ⟨cs', hcc, ht'⟩ := hit i (by omega)
      rw [hC] at hcc
      obtain ⟨_, hlen, hat⟩ := World.cells?_some hcc
      obtain ⟨y0, y1, y2, n', hx', _, h0, h1, h2⟩ := trod_struct3 he ht'
      obtain ⟨o0, k0⟩ := hone_of hone 0 f0 rfl
      obtain ⟨o1, k1⟩ := hone_of hone 1 f1 rfl
      obtain ⟨o2, k2⟩ := hone_of hone 2 f2 rfl
      match cs', hlen with
      | [v0, v1, v2], _ =>
        have g0 : DataW.trod enc Try.prog w base (fun _ => true) held n' f0.type [v0] = some y0 := by simpa [o0, k0] using h0
        have g1 : DataW.trod enc Try.prog w base (fun _ => true) held n' f1.type [v1] = some y1 := by simpa [o1, k1] using h1
        have g2 : DataW.trod enc Try.prog w base (fun _ => true) held n' f2.type [v2] = some y2 := by simpa [o2, k2] using h2
        obtain ⟨p, e0, _, hp⟩ := DataW.trod_string ht0 g0
        obtain ⟨q, e1, _, _⟩ := DataW.trod_int ht1 g1
        obtain ⟨d, e2, _, _⟩ := DataW.trod_int ht2 g2
        simp only [List.cons.injEq, and_true] at e0 e1 e2
        subst e0 e1 e2
        exact ⟨⟨p, q, d⟩, ⟨by rw [hat 0 (by omega)]; rfl, by rw [hat 1 (by omega)]; rfl, by rw [hat 2 (by omega)]; rfl⟩, hp⟩
    obtain ⟨V, hV⟩ := choose_lt one
    have hpt : ∀ i, i < len0 → bkAt ((List.range len0).map V) i = V i := by
      intro i hi0
      simp [bkAt, List.getD_eq_getElem?_getD, hi0]
    refine ⟨(List.range len0).map V, by simp, ?_, by omega, fun i hi0 => by rw [hpt i hi0]; exact (hV i hi0).2⟩
    by_cases h0 : len0 = 0
    · left; subst h0; rfl
    · right
      obtain ⟨b, off, spot⟩ := a
      have hspot : spot = none := by
        have := World.cell?_spot (hV 0 (by omega)).1.1
        simpa [Addr.add] using this
      subst hspot
      refine ⟨b, off, rfl, fun i hi0 => ?_⟩
      rw [bks_length] at hi0
      have hi1 : i < len0 * 3 := by simpa using hi0
      have hi3 : i / 3 < len0 := by omega
      obtain ⟨⟨q0, q1, q2⟩, _⟩ := hV (i / 3) hi3
      obtain ⟨r0, r1, r2⟩ := bks_at ((List.range len0).map V) (i / 3) (by simpa using hi3)
      rw [hpt _ hi3] at r0 r1 r2
      rw [Addr.add_lit, Addr.add_lit] at q0 q1 q2
      have hm3 : i % 3 = 0 ∨ i % 3 = 1 ∨ i % 3 = 2 := by omega
      rcases hm3 with hm3 | hm3 | hm3
      · rw [show i = i / 3 * 3 by omega, r0, ← q0]; rfl
      · rw [show i = i / 3 * 3 + 1 by omega, r1, ← q1]; rfl
      · rw [show i = i / 3 * 3 + 2 by omega, r2, ← q2]; rfl
end
theorem laws_szBk (x : ByteArray) (y z m : Int) (w : World) (hx : x.size ≤ 9223372036854775807) (h0 : 0 ≤ m) (h1 : m ≤ 1048576) :
    Calls Try.prog 49 #[.agg #[.string x, .int .i64 y, .int .i64 z], .int .i64 m] w fun e w' => e = .returned (.int .i64 (if m < (x.size : Int) then -1 else m - (x.size : Int))) ∧ Below w.heap.size w w' := by
  have hw : IntKind.i64.wrap (m - (x.size : Int)) = m - (x.size : Int) := by rw [IntKind.wrap_i64]; omega
  by_cases h : m < (x.size : Int)
  · have h2 : m - (x.size : Int) < 0 := by omega
    rw [if_pos h]
    go_enter Try.func49, Try.ntmps49
    go_wp2
    go_ret
    exact ⟨rfl, (by repeat (first | exact Below.refl _ _ | assumption | (refine Below.drew ?_) | (refine below_drewN ?_ _) | (refine Below.alloc ?_ (by first | omega | (simp; done) | (simp; omega)) _) | (refine Below.setCell ?_ (by first | omega | (simp; done) | (simp; omega)) _)))⟩
  · have h2 : ¬ m - (x.size : Int) < 0 := by omega
    rw [if_neg h]
    go_enter Try.func49, Try.ntmps49
    go_wp2
    go_ret
    exact ⟨rfl, (by repeat (first | exact Below.refl _ _ | assumption | (refine Below.drew ?_) | (refine below_drewN ?_ _) | (refine Below.alloc ?_ (by first | omega | (simp; done) | (simp; omega)) _) | (refine Below.setCell ?_ (by first | omega | (simp; done) | (simp; omega)) _)))⟩
set_option maxHeartbeats 1000000 in
theorem laws_szBkS (T : List BkN) (len : Nat) (a : Option Addr) (cap : Nat) (n : Int) (w : World) (hn : T.length = len) (h : Vals w a (bks T)) (hlen : len ≤ 9223372036854775807) (hts : ∀ i, i < len → (bkAt T i).t.size ≤ 9223372036854775807) (h0 : 0 ≤ n) (h1 : n ≤ 1048576) :
    Calls Try.prog 20 #[.slice a len cap, .int .i64 n] w fun e w' => ∃ r : Int, e = .returned (.int .i64 r) ∧ (r = -1 ∨ (0 ≤ r ∧ r ≤ n ∧ (len : Int) ≤ n ∧ ∀ i, i < len → ((bkAt T i).t.size : Int) ≤ n)) ∧ Below w.heap.size w w' := by
  have HL := Lib.hid (show (bks T).length = len * 3 by rw [bks_length, hn])
  have HN := Lib.hid hn
  clear hn
  by_cases hl : (len : Int) ≤ n
  · go_enter Try.func20, Try.ntmps20
    go_wp2
    go_loopw [1, 5] (fun v i wr => ∃ (k : Nat) (m : Int), k ≤ len ∧ i = .int .i64 k ∧ v = .int .i64 m ∧ (0 ≤ m ∧ m ≤ n) ∧ (∀ j, j < k → ((bkAt T j).t.size : Int) ≤ n) ∧ Below w.heap.size w wr)
      (fun _ i _ => len - (intOf i).toNat)
    case atStart => exact ⟨0, _, by omega, rfl, rfl, by omega, fun i hi => by omega, Below.refl _ _⟩
    case round =>
      obtain ⟨k, m, hk, rfl, rfl, ⟨hm0, hm1⟩, hall, hb⟩ := hrel
      by_cases hlt : k < len
      · obtain ⟨b, off, rfl, hp⟩ := (h.kept hb).at (k * 3) (by rw [HL.out]; omega)
        have c0 := hp (k * 3) (by rw [HL.out]; omega)
        have c1 := hp (k * 3 + 1) (by rw [HL.out]; omega)
        have c2 := hp (k * 3 + 2) (by rw [HL.out]; omega)
        obtain ⟨q1, q2, q3⟩ := bks_at T k (by rw [HN.out]; exact hlt)
        rw [← Nat.add_assoc] at c1 c2
        rw [q1] at c0; rw [q2] at c1; rw [q3] at c2
        have hsz := hts k hlt
        have HYES : Hid (((bkAt T k).t.size : Int) ≤ n → ∀ j, j < k + 1 → ((bkAt T j).t.size : Int) ≤ n) := fun h2 j hj => by
          by_cases e : j = k
          · subst e; exact h2
          · exact hall j (by omega)
        clear hall h hp hts q1 q2 q3
        generalize (bkAt T k).t = x at *
        generalize (bkAt T k).d = y at *
        generalize (bkAt T k).u = z at *
        by_cases hle : m < (x.size : Int)
        · have HC := Lib.hid (show (if m < (x.size : Int) then (-1 : Int) else m - (x.size : Int)) = -1 from if_pos hle)
          go_wp2_with (go_at_call 49; refine (laws_szBk x y z m _ hsz hm0 (by omega)).mono ?_; rintro e w1 ⟨rfl, hb1⟩; rw [HC.out])
          go_ret
          exact ⟨-1, rfl, .inl rfl, below_step hb hb1⟩
        · have HC := Lib.hid (show (if m < (x.size : Int) then (-1 : Int) else m - (x.size : Int)) = m - (x.size : Int) from if_neg hle)
          have HA := Lib.hid (HYES.out (by omega))
          have hnn : ¬ m - (x.size : Int) < 0 := by omega
          go_wp2_with (go_at_call 49; refine (laws_szBk x y z m _ hsz hm0 (by omega)).mono ?_; rintro e w1 ⟨rfl, hb1⟩; rw [HC.out]; have hB1 := below_step hb hb1)
          go_roundw
          case rel => exact ⟨k + 1, m - x.size, by omega, by go_num, rfl, by omega, HA.out, hB1⟩
          case measure => simp [intOf]; omega
      · obtain rfl : k = len := by omega
        have HA := Lib.hid hall
        clear hall hts
        go_wp2
        go_ret
        exact ⟨m, rfl, .inr ⟨hm0, hm1, hl, HA.out⟩, hb⟩
  · clear hts
    go_enter Try.func20, Try.ntmps20
    go_wp2
    go_ret
    exact ⟨-1, rfl, .inl rfl, Below.refl _ _⟩
theorem laws_toBk (x : ByteArray) (y z : Int) (w : World) :
    Calls Try.prog 53 #[.agg #[.string x, .int .i64 y, .int .i64 z]] w fun e w' => e = .returned (.agg #[.string x, .int .i64 y, .int .i64 z]) ∧ Below w.heap.size w w' := by
  go_enter Try.func53, Try.ntmps53
  go_wp2
  exact bodyPost_ret (v := .agg #[.string x, .int .i64 y, .int .i64 z]) (by simp [results, Try.results53, go_sem]) rfl ⟨rfl, (by repeat (first | exact Below.refl _ _ | assumption | (refine Below.drew ?_) | (refine below_drewN ?_ _) | (refine Below.alloc ?_ (by first | omega | (simp; done) | (simp; omega)) _) | (refine Below.setCell ?_ (by first | omega | (simp; done) | (simp; omega)) _)))⟩
theorem bkz_info : (Try.prog.info? 75).map (fun i => (i.zero, i.size, i.bytes)) = some (some (.agg #[.string ⟨#[]⟩, .int .i64 0, .int .i64 0]), 3, 32) := by kernel_rfl
def bkZ : BkN := ⟨⟨#[]⟩, 0, 0⟩
theorem made_bks (n : Nat) : (madeCells (Value.agg #[.string ⟨#[]⟩, .int .i64 0, .int .i64 0]).cells (n * 3)).toList = bks (List.replicate n bkZ) := by
  apply List.ext_getElem?
  intro i
  by_cases hi : i < n * 3
  · have e1 : (bks (List.replicate n bkZ))[i]? = some (valAt (bks (List.replicate n bkZ)) i) := by
      have : i < (bks (List.replicate n bkZ)).length := by rw [bks_length, List.length_replicate]; exact hi
      simp [valAt, List.getD_eq_getElem?_getD, List.getElem?_eq_getElem this]
    have hz : bkAt (List.replicate n bkZ) (i / 3) = bkZ := by
      simp [bkAt, List.getD_eq_getElem?_getD, show i / 3 < n by omega]
    obtain ⟨r0, r1, r2⟩ := bks_at (List.replicate n bkZ) (i / 3) (by rw [List.length_replicate]; omega)
    rw [hz] at r0 r1 r2
    have hm : i % 3 = 0 ∨ i % 3 = 1 ∨ i % 3 = 2 := by omega
    rw [e1]
    rcases hm with hm | hm | hm
    · rw [show valAt (bks (List.replicate n bkZ)) i = .string bkZ.t by rw [← r0]; congr 1; omega]
      simp [madeCells, Value.cells, hi, hm, bkZ]
    · rw [show valAt (bks (List.replicate n bkZ)) i = .int .i64 bkZ.d by rw [← r1]; congr 1; omega]
      simp [madeCells, Value.cells, hi, hm, bkZ]
    · rw [show valAt (bks (List.replicate n bkZ)) i = .int .i64 bkZ.u by rw [← r2]; congr 1; omega]
      simp [madeCells, Value.cells, hi, hm, bkZ]
  · rw [List.getElem?_eq_none (by simp [madeCells]; omega), List.getElem?_eq_none (by rw [bks_length, List.length_replicate]; omega)]
theorem bkT_step (T : List BkN) (n j : Nat) (h : j < n) (hn : T.length = n) : ∃ C, T.take j ++ List.replicate (n - j) bkZ = T.take j ++ bkZ :: C ∧ T.take (j + 1) ++ List.replicate (n - (j + 1)) bkZ = T.take j ++ bkAt T j :: C := by
  refine ⟨List.replicate (n - (j + 1)) bkZ, by rw [show n - j = (n - (j + 1)) + 1 by omega, List.replicate_succ], ?_⟩
  rw [List.take_succ_eq_append_getElem (by omega), List.append_assoc]
  have : bkAt T j = T[j] := by simp [bkAt, List.getD_eq_getElem?_getD, List.getElem?_eq_getElem (show j < T.length by omega)]
  rw [this]; rfl
set_option maxHeartbeats 2000000 in
theorem laws_toBkS (T : List BkN) (n : Nat) (a : Option Addr) (cap : Nat) (w : World) (hn : T.length = n) (h : Vals w a (bks T)) (hlen : n ≤ 1048576) :
    Calls Try.prog 22 #[.slice a n cap] w fun e w' => ∃ a' cap', e = .returned (.slice a' n cap') ∧ OwnV 75 3 w' w.heap.size a' n cap' (bks T) ∧ Below w.heap.size w w' := by
  obtain ⟨i0, hi, hz0, hz1, hz2⟩ := info_parts bkz_info
  have HL := Lib.hid (show (bks T).length = n * 3 by rw [bks_length, hn])
  have HN := Lib.hid hn; clear hn
  go_enter Try.func22, Try.ntmps22
  go_wp2_with (at_make; refine wpList_make_full _ rfl _ _ 39 rfl w.heap.size 75 i0 (.agg #[.string ⟨#[]⟩, .int .i64 0, .int .i64 0]) 3 Try.underlying39 hi hz0 hz1 _ _ _ _ n rfl rfl rfl rfl (by rw [hz2]; omega) (by unfold maxLen; omega) (Nat.le_refl _) ?_; intro w1 hown hg)
  have hB1 : Below w.heap.size w w1 := (Below.refl _ _).grown hg (Nat.le_refl _) (fun k hk => by cases hk)
  have hO : OwnV 75 3 w1 w.heap.size (some ⟨w.heap.size, 0, none⟩) n n (bks (T.take 0 ++ List.replicate (n - 0) bkZ)) := by
    rw [made_bks] at hown
    exact ⟨by rw [bks_length]; simp, hown⟩
  clear hown hg
  go_loopw [4] (fun i wr => ∃ (k : Nat), k ≤ n ∧ i = .int .i64 k ∧ OwnV 75 3 wr w.heap.size (some ⟨w.heap.size, 0, none⟩) n n (bks (T.take k ++ List.replicate (n - k) bkZ)) ∧ Below w.heap.size w wr)
    (fun i _ => n - (intOf i).toNat)
  case atStart => exact ⟨0, by omega, rfl, hO, hB1⟩
  case round =>
    obtain ⟨k, hk, rfl, hown, hb⟩ := hrel
    by_cases hlt : k < n
    · obtain ⟨b, off, rfl, hp⟩ := (h.kept hb).at (k * 3) (by rw [HL.out]; omega)
      have c0 := hp (k * 3) (by rw [HL.out]; omega)
      have c1 := hp (k * 3 + 1) (by rw [HL.out]; omega)
      have c2 := hp (k * 3 + 2) (by rw [HL.out]; omega)
      obtain ⟨q1, q2, q3⟩ := bks_at T k (by rw [HN.out]; exact hlt)
      rw [← Nat.add_assoc] at c1 c2
      rw [q1] at c0; rw [q2] at c1; rw [q3] at c2
      obtain ⟨C, hC1, hC2⟩ := bkT_step T n k hlt HN.out
      rw [hC1] at hown
      have hA : (T.take k).length = k := by rw [List.length_take, HN.out]; omega
      generalize T.take k = A at *
      have HA := Lib.hid hA
      have HC2 := Lib.hid hC2
      have HO := Lib.hid hown
      have hbk : bkAt T k = ⟨(bkAt T k).t, (bkAt T k).d, (bkAt T k).u⟩ := rfl
      rw [hbk] at hC2
      have HC2 := Lib.hid hC2
      clear hown h hp hO hA hC1 hC2 q1 q2 q3 hbk
      generalize (bkAt T k).t = x at *
      generalize (bkAt T k).d = y at *
      generalize (bkAt T k).u = z at *
      go_wp2_with fail
      refine (laws_toBk _ _ _ _).mono ?_
      rintro e w2 ⟨rfl, hb2⟩
      have hO2 := HO.out.kept hb2
      have d0 := hO2.cell (k * 3) (by omega)
      have d1 := hO2.cell (k * 3 + 1) (by omega)
      have d2 := hO2.cell (k * 3 + 2) (by omega)
      have f0 := hO2.frozen (k * 3)
      have f1 := hO2.frozen (k * 3 + 1)
      have f2 := hO2.frozen (k * 3 + 2)
      have hO3 := ((hO2.set (k * 3) (.string x)).set (k * 3 + 1) (.int .i64 y)).set (k * 3 + 2) (.int .i64 z)
      have hfin : (((bks (A ++ bkZ :: C)).set (k * 3) (.string x)).set (k * 3 + 1) (.int .i64 y)).set (k * 3 + 2) (.int .i64 z) = bks (A ++ ⟨x, y, z⟩ :: C) := by
        obtain rfl : k = A.length := HA.out.symm
        rw [bks_set0, bks_set1, bks_set2]
      rw [hfin, ← HC2.out] at hO3
      have HO3 := Lib.hid hO3
      have hB3 := (((hb.trans (hb2.mono hb.size)).setCell (p := ⟨w.heap.size, k * 3, none⟩) (Nat.le_refl _) (.string x)).setCell (p := ⟨w.heap.size, k * 3 + 1, none⟩) (Nat.le_refl _) (.int .i64 y)).setCell (p := ⟨w.heap.size, k * 3 + 2, none⟩) (Nat.le_refl _) (.int .i64 z)
      clear hO2 hO3 hb2 hfin
      go_wp2_with fail
      go_roundw
      case rel => exact ⟨k + 1, by omega, by go_num, HO3.out, hB3⟩
      case measure => simp [intOf]; omega
    · obtain rfl : k = n := by omega
      have hM : T.take k ++ List.replicate (k - k) bkZ = T := by rw [Nat.sub_self, List.take_of_length_le (by rw [HN.out]; exact Nat.le_refl _)]; simp
      rw [hM] at hown
      go_wp2
      go_ret
      exact ⟨_, _, rfl, hown, hb⟩
end Go.Proofs.Ytgikjopmijomgaa

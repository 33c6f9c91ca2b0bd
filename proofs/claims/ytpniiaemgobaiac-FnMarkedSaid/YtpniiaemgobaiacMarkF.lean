/-
  FnMarked: the walk.
-/
import Derived.Test.YtpniiaemgobaiacMarkI
import Derived.Test.YtpniiaemgobaiacLeftM
import Derived.Test.YtpniiaemgobaiacFoundDr
import Derived.Test.YtpniiaemgobaiacL3Draw
namespace Go.Proofs.Ytpniiaemgobaiac
open Go.RowKit
set_option linter.unusedVariables false
set_option maxRecDepth 100000
/-- neither bracket -/
def noBr (b : UInt8) : Bool := b != 91 && b != 93
def PlainL (l : List UInt8) : Prop := ∀ b ∈ l, noBr b = true
theorem filter_plain {l : List UInt8} (h : PlainL l) : l.filter noBr = l := List.filter_eq_self.2 h
theorem bytes_append (s t : ByteArray) : (s ++ t).data.toList = s.data.toList ++ t.data.toList := by simp
theorem bytes_extract (s : ByteArray) (i j : Nat) : (s.extract i j).data.toList = (s.data.toList.take j).drop i := by
  show (s.extract i j).data.toList = _
  rw [ByteArray.data_extract, Array.toList_extract, List.extract_eq_take_drop, List.drop_take]
theorem markS_all {s : ByteArray} (hp : PlainL s.data.toList) : ∀ (l : List Fd) (a : Nat) (o r : ByteArray), FineF l → a ≤ s.size → markS s l a o = some r →
    r.data.toList.filter noBr = o.data.toList.filter noBr ++ s.data.toList.drop a ∧ r.size = o.size + (s.size - a) + 2 * l.length ∧ ApartF (a : Int) l
  | [], a, o, r, _, ha, h => by
    rw [markS] at h
    injection h with h
    subst h
    refine ⟨?_, ?_, trivial⟩
    · rw [bytes_append, bytes_extract, List.filter_append, List.take_of_length_le (by simp)]
      rw [filter_plain fun b hb => hp b (List.mem_of_mem_drop hb)]
    · rw [ByteArray.size_append, ByteArray.size_extract, Nat.min_self]; simp
  | x :: xs, a, o, r, hf, ha, h => by
    obtain ⟨f0, f1, f2, _⟩ := hf x List.mem_cons_self
    rw [markS] at h
    split at h
    · cases h
    · rename_i hc
      have hc1 : ¬ x.f < (a : Int) := fun h => hc (.inl h)
      have hc2 : ¬ (s.size : Int) < x.t := fun h => hc (.inr h)
      obtain ⟨i1, i2, i3⟩ := markS_all hp xs x.t.toNat _ r (fun y hy => hf y (List.mem_cons_of_mem _ hy)) (by omega) h
      obtain ⟨fn, hfn⟩ : ∃ fn : Nat, x.f = (fn : Int) := ⟨x.f.toNat, by omega⟩
      obtain ⟨tn, htn⟩ : ∃ tn : Nat, x.t = (tn : Int) := ⟨x.t.toNat, by omega⟩
      rw [hfn, htn, Int.toNat_natCast, Int.toNat_natCast] at i1 i2
      rw [hfn] at hc1
      rw [htn] at hc2
      have hft : fn < tn := by omega
      refine ⟨?_, ?_, ⟨by omega, ?_⟩⟩
      · rw [i1]
        simp only [bytes_append, bytes_extract, List.filter_append]
        have e1 : openB.data.toList.filter noBr = [] := rfl
        have e2 : shutB.data.toList.filter noBr = [] := rfl
        rw [e1, e2, List.append_nil, List.append_nil]
        rw [filter_plain (l := ((s.data.toList.take fn).drop a)) fun b hb => hp b (List.mem_of_mem_take (List.mem_of_mem_drop hb))]
        rw [filter_plain (l := ((s.data.toList.take tn).drop fn)) fun b hb => hp b (List.mem_of_mem_take (List.mem_of_mem_drop hb))]
        have k1 : s.data.toList.drop a = (s.data.toList.take fn).drop a ++ s.data.toList.drop fn := by
          have := List.take_append_drop (fn - a) (s.data.toList.drop a)
          rw [← this, List.drop_drop, show a + (fn - a) = fn by omega, List.take_drop, show a + (fn - a) = fn by omega]
        have k2 : s.data.toList.drop fn = (s.data.toList.take tn).drop fn ++ s.data.toList.drop tn := by
          have := List.take_append_drop (tn - fn) (s.data.toList.drop fn)
          rw [← this, List.drop_drop, show fn + (tn - fn) = tn by omega, List.take_drop, show fn + (tn - fn) = tn by omega]
        rw [k1, k2]; simp
      · rw [i2]
        have z1 : (s.extract a fn).size = fn - a := by rw [ByteArray.size_extract]; omega
        have z2 : (s.extract fn tn).size = tn - fn := by rw [ByteArray.size_extract]; omega
        simp only [ByteArray.size_append, z1, z2, List.length_cons]
        show o.size + (fn - a) + 1 + (tn - fn) + 1 + (s.size - tn) + 2 * xs.length = _
        omega
      · rw [htn, Int.toNat_natCast] at i3; rw [htn]; exact i3
theorem mark_facts {s : ByteArray} {l : List Fd} {r : ByteArray} (hp : PlainL s.data.toList) (h : markO s l = some r) : r.data.toList.filter noBr = s.data.toList ∧ r.size = s.size + 2 * l.length ∧ ApartF 0 l := by
  unfold markO at h
  split at h
  · rename_i hc
    obtain ⟨hf, _⟩ := (found_fine l).1 hc.1
    obtain ⟨h1, h2, h3⟩ := markS_all hp l 0 _ r hf (Nat.zero_le _) h
    refine ⟨by rw [h1]; simp, ?_, h3⟩
    rw [h2]; show 0 + (s.size - 0) + 2 * l.length = _; omega
  · cases h
set_option maxHeartbeats 400000 in
theorem rd_term_plain (w : World) (R : Nat) (a : Option Addr) (len cap : Nat) (z : List Int) (h : RdOk w R a len cap z) (n : Nat) (hn : n ≤ 1000) :
    Calls Try.prog 55 #[.pointer (some ⟨R, 0, none⟩), .int .i64 n] w fun e w' => ∃ s : ByteArray, e = .returned (.string s) ∧ s.size ≤ n + 1 ∧ PlainL s.data.toList ∧ RdOk w' R a len cap z ∧ w.grownBy w' (some R) := by
  obtain ⟨i0, hi, hz0, hz1, hz2⟩ := info_parts byte_info
  go_enter Try.func55, Try.ntmps55
  go_wp2_with fail
  refine (rd_below _ _ _ _ _ _ (h.alloc _) _).mono ?_
  rintro e w1 ⟨m, rfl, ⟨hm0, hm3, hm1, _⟩, hok, hg⟩
  have hm2 : m ≤ n := by
    by_cases h1 : (n : Int) ≤ 1
    · have := hm3 h1; omega
    · have := hm1 (by omega); omega
  clear hm1 hm3
  obtain ⟨q, rfl⟩ := Int.eq_ofNat_of_zero_le hm0
  have hwz := h.lt
  have hg1 : w.grownBy w1 (some R) := grownBy_trans (World.grownBy_alloc w _ _) hg
  have hown0 := (World.ownsRow_made (e := 5) (size := 1) w #[] 0 (Nat.le_refl _) (by decide) rfl).kept hg (.inr (by simp [Value.ownBlock]; omega))
  go_wp2_with fail
  go_loopw [5, 6] (fun v i wr => ∃ (k : Nat) (L : List UInt8), L.length + k = 1 + q ∧ i = .int .i64 k ∧ PlainL L ∧ wr.ownsRow w.heap.size 5 1 v L.length (L.map byteVal) ∧ RdOk wr R a len cap z ∧ w.grownBy wr (some R))
    (fun _ i _ => (intOf i).toNat)
  case atStart => exact ⟨1 + q, [], by simp, by go_num, fun b hb => (by cases hb), hown0, hok, hg1⟩
  case round =>
    obtain ⟨k, L, hL, rfl, hPL, hown, hokr, hgr⟩ := hrel
    have HPL := Lib.hid hPL
    clear hPL
    by_cases hk0 : k = 0
    · subst hk0
      have hcv := run_owned_string (P := Try.prog) (w := wr) (src := 22) (dst := 9) (e := 5) Try.underlying22 Try.underlying5 Try.underlying9 _ hown
      go_wp2
      go_ret
      exact ⟨_, rfl, by show L.toArray.size ≤ _; simp; omega, by simpa using HPL.out, hokr, hgr⟩
    · go_wp2_with fail
      refine (rd_below _ _ _ _ _ _ hokr _).mono ?_
      rintro e w2 ⟨x, rfl, ⟨hx0, _, hx1, _⟩, hok2, hg2⟩
      have hx2 : x < 6 := hx1 (by omega)
      clear hx1
      obtain ⟨j, rfl⟩ := Int.eq_ofNat_of_zero_le hx0
      have hown2 := hown.kept hg2 (.inr (fun e => by have := (hown.lt R e).1; omega))
      have hsz := hgr.size
      have hsz2 := hg2.size
      go_wp2_with (at_builtin; refine wpList_append_own _ rfl _ _ 22 rfl w.heap.size 5 i0 (.int .u8 0) 1 1 Try.underlying22 hi hz0 hz1 hz2 rfl (by decide) _ _ _ rfl (hown2.alloc _) ⟨w2.heap.size, 0, none⟩ 1 1 _ rfl rfl (cells_new _ _ _) (one_all rfl) (by unfold maxLen; omega) (by omega) (by simp; omega) ?_; intro v' w1 hown' hg _)
      have hown3 := own_cat (X := [_]) hown' rfl rfl
      have hokw := (hok2.alloc _).grown hg (fun k hk => by have := (hown2.lt k hk).1; omega)
      have hgw := grownBy_own (grownBy_alloc (grownBy_trans hgr hg2) _) hg (fun k hk => (hown2.lt k hk).1)
      clear hown hown2 hown' hg hg2 hgr
      go_roundw
      case rel =>
        refine ⟨k - 1, _, by simp; omega, by congr 1; omega, fun b hb => ?_, hown3, hokw, hgw⟩
        rcases List.mem_append.1 hb with hb | hb
        · exact HPL.out b hb
        · rw [List.mem_singleton] at hb
          have h6 : j = 0 ∨ j = 1 ∨ j = 2 ∨ j = 3 ∨ j = 4 ∨ j = 5 := by omega
          rw [hb]
          rcases h6 with rfl | rfl | rfl | rfl | rfl | rfl <;> rfl
      case measure => simp [intOf]; omega
theorem PlainL.append {a b : List UInt8} (h : PlainL a) (k : PlainL b) : PlainL (a ++ b) := fun x hx => (List.mem_append.1 hx).elim (h x) (k x)
set_option maxHeartbeats 2000000 in
theorem drawMarked (a : Option Addr) (len cap : Nat) (z : List Int) (w : World) (hr : IsRow .u8 w a len cap z) (hl : len ≤ 1048576) :
    Calls Try.prog 21 #[.slice a len cap] w fun e w' => ∃ (s : ByteArray) (L : List Fd) (m : Nat) (a' : Option Addr) (cp : Nat), e = .returned (.tuple #[.string s, .slice a' m cp]) ∧ s.size ≤ 30 ∧ PlainL s.data.toList ∧ L.length = m ∧ m ≤ 7 ∧ OwnM 30 3 w' w.heap.size a' m cp (fdI L) ∧ Below w.heap.size w w' := by
  go_enter Try.func21, Try.ntmps21
  go_wp2_with fail
  refine (l1Open_any _ _ _ _ _ hr hl).mono ?_
  rintro e w1 ⟨rfl, hok, hb⟩
  have hR := hok.lt
  have hbz := hb.size
  go_wp2_with fail
  refine (rd_found _ _ _ _ _ _ hok 6 (by omega)).mono ?_
  rintro e w2 ⟨L, m, a', cp, rfl, hL, hm, hO, hok2, hg2⟩
  have HL := Lib.hid hL
  have hB2 := below_rd hb hg2
  clear hL hb hg2 hok
  go_wp2_with fail
  refine (rd_term_plain _ _ _ _ _ _ hok2 9 (by omega)).mono ?_
  rintro e w3 ⟨s1, rfl, hs1, hp1, hok3, hg3⟩
  replace hO := hO.rd hg3 hR
  have hB3 := below_rd hB2 hg3
  have HP1 := Lib.hid hp1
  clear hok2 hB2 hg3 hp1
  go_wp2_with fail
  refine (rd_term_plain _ _ _ _ _ _ hok3 9 (by omega)).mono ?_
  rintro e w4 ⟨s2, rfl, hs2, hp2, hok4, hg4⟩
  replace hO := hO.rd hg4 hR
  have hB4 := below_rd hB3 hg4
  have HP2 := Lib.hid hp2
  clear hok3 hB3 hg4 hp2
  go_wp2_with fail
  refine (rd_term_plain _ _ _ _ _ _ hok4 9 (by omega)).mono ?_
  rintro e w5 ⟨s3, rfl, hs3, hp3, hok5, hg5⟩
  replace hO := hO.rd hg5 hR
  have hB5 := below_rd hB4 hg5
  have HP3 := Lib.hid hp3
  clear hok4 hB4 hg5 hp3
  have HZ := Lib.hid (show (s1 ++ s2 ++ s3).size ≤ 30 by simp only [ByteArray.size_append]; omega)
  have HPA := Lib.hid (show PlainL (s1 ++ s2 ++ s3).data.toList by rw [bytes_append, bytes_append]; exact (HP1.out.append HP2.out).append HP3.out)
  go_wp2_with fail
  refine (rd_once _ _ _ _ _ _ hok5 _ (by omega) (by omega)).mono ?_
  rintro e w6 ⟨c, rfl, hok6, hg6⟩
  replace hO := hO.rd hg6 hR
  have hB6 := below_rd hB5 hg6
  clear hok5 hB5 hg6
  cases c
  · go_wp2_with fail
    refine (spec_leftmost L m a' cp _ HL.out hO.ints (by omega)).mono ?_
    rintro e w7 ⟨a7, c7, rfl, hO7, hb7⟩
    have hlv := leftV_len L
    rw [HL.out] at hlv
    go_wp2_with fail
    go_ret2
    exact ⟨_, leftV L, _, _, _, rfl, HZ.out, HPA.out, rfl, by omega, hO7.mono hB6.size, below_step hB6 hb7⟩
  · go_wp2_with fail
    go_ret2
    exact ⟨_, L, m, _, _, rfl, HZ.out, HPA.out, HL.out, by omega, hO.mono (by omega), hB6⟩
set_option maxHeartbeats 8000000 in
theorem law_FnMarked (a : Option Addr) (len cap : Nat) (z : List Int) (w : World) (hr : IsRow .u8 w a len cap z) :
    Calls Try.prog 5 #[.slice a len cap] w fun e w' => e = .returned (.bool true) ∧ Below w.heap.size w w' := by
  by_cases hl : len ≤ 1048576
  · have hbig : decide (1048576 < (len : Int)) = false := by simp; omega
    go_enter Try.func5, Try.ntmps5
    go_wp2_with (go_at_call 9; refine (laws_big _ _ _ _ (by omega)).mono ?_; rintro e w' ⟨rfl, rfl⟩)
    refine (drawMarked _ _ _ _ _ hr hl).mono ?_
    rintro e w1 ⟨s, l, m, a1, c1, rfl, hs, hp, hlm, hm, hO1, hb1⟩
    have HL := Lib.hid hlm
    have HV := Lib.hid hO1.ints
    have HB := hb1
    have hfa := fun r => mark_facts (s := s) (l := l) (r := r) hp
    rw [hlm] at hfa
    obtain ⟨mo, hmo⟩ : ∃ mo, markO s l = mo := ⟨_, rfl⟩
    rw [hmo] at hfa
    have HMO := Lib.hid hmo; have HFA := Lib.hid hfa
    have e2 : ((optT mo).toList == (optT mo).toList) = true := by simp
    have e4 : (mo.isSome == mo.isSome) = true := by simp
    have e5 : (mo.isSome != mo.isSome) = false := by simp
    clear hlm hO1 hb1 hp hmo hfa
    go_wp2_with fail
    refine (impl_marked s l m a1 c1 _ (by omega) HL.out HV.out (by omega)).mono ?_
    rintro e w2 ⟨rfl, hb2⟩
    rw [HMO.out]
    have HV2 := Lib.hid (HV.out.kept hb2)
    replace HB := below_step HB hb2
    clear hb2 HV
    go_wp2_with fail
    refine (spec_marked s l m a1 c1 _ (by omega) HL.out HV2.out (by omega)).mono ?_
    rintro e w3 ⟨rfl, hb3⟩
    rw [HMO.out]
    have HV3 := Lib.hid (HV2.out.kept hb3)
    replace HB := below_step HB hb3
    clear hb3 HV2
    cases mo with
    | none =>
      have g1 : optT none = ⟨#[]⟩ := rfl
      have g2 : (none : Option ByteArray).isSome = false := rfl
      rw [g1, g2]
      clear e2 e4 e5 g1 g2
      go_wp2_with fail
      go_ret
      exact ⟨rfl, HB⟩
    | some r =>
      have g1 : optT (some r) = r := rfl
      have g2 : (some r).isSome = true := rfl
      rw [g1] at e2 ⊢
      rw [g2]
      obtain ⟨F1, F2, F3⟩ := HFA.out r rfl
      have hr2 : r.size ≤ 100 := by omega
      have HF1 := Lib.hid F1; have HF2 := Lib.hid F2; have HF3 := Lib.hid F3
      clear F1 F2 F3 g1 g2 e4 e5 HFA
      go_wp2_with fail
      go_loopw [9, 10] (fun p i wr => ∃ (k : Nat) (P : ByteArray), k ≤ r.size ∧ i = .int .i64 (k : Int) ∧ p = .string P ∧ P.size ≤ k ∧ P.data.toList = (r.data.toList.take k).filter noBr ∧ Below w3.heap.size w3 wr)
        (fun _ i _ => r.size - (intOf i).toNat)
      case atStart => exact ⟨0, ⟨#[]⟩, by omega, rfl, rfl, by show 0 ≤ _; omega, rfl, Below.refl _ _⟩
      case round =>
        obtain ⟨k, P, hk, rfl, rfl, hPz, hPl, hb⟩ := hrel
        by_cases hlt : k < r.size
        · have htk : (r.data.toList.take (k + 1)).filter noBr = (r.data.toList.take k).filter noBr ++ [r[k]].filter noBr := by
            rw [List.take_succ_eq_append_getElem (by simpa using hlt), List.filter_append]; rfl
          have hX : (r.extract k (k + 1)).data.toList = [r[k]] := by
            rw [bytes_extract, List.take_succ_eq_append_getElem (by simpa using hlt), List.drop_append_of_le_length (by simp; omega), List.drop_eq_nil_of_le (by simp; omega)]; rfl
          have hXz : (r.extract k (k + 1)).size = 1 := by rw [ByteArray.size_extract]; omega
          obtain ⟨X, hXe⟩ : ∃ X, r.extract k (k + 1) = X := ⟨_, rfl⟩
          rw [hXe] at hX hXz
          have hbt := byte_range r[k]
          have hkk : IntKind.i64.wrap ((k : Int) + 1) = (k : Int) + 1 := by rw [IntKind.wrap_i64]; omega
          have HXE := Lib.hid hXe
          by_cases h91 : r[k] = 91
          · have q1 : (((r[k]).toNat : Int) != 91) = false := by rw [h91]; rfl
            have HN := Lib.hid (show P.data.toList = (r.data.toList.take (k + 1)).filter noBr by rw [htk, hPl, h91]; simp [noBr])
            clear htk hX hXe h91 hPl
            go_wp2_with fail
            go_roundw
            case rel => exact ⟨k + 1, P, by omega, by go_num, rfl, by omega, HN.out, hb⟩
            case measure => simp [intOf]; omega
          · have n91 : ¬ (r[k]).toNat = 91 := fun e => h91 (UInt8.toNat_inj.1 e)
            have q1 : (((r[k]).toNat : Int) != 91) = true := by simp; omega
            by_cases h93 : r[k] = 93
            · have q2 : (((r[k]).toNat : Int) != 93) = false := by rw [h93]; rfl
              have HN := Lib.hid (show P.data.toList = (r.data.toList.take (k + 1)).filter noBr by rw [htk, hPl, h93]; simp [noBr])
              clear htk hX hXe h91 h93 hPl
              go_wp2_with fail
              go_roundw
              case rel => exact ⟨k + 1, P, by omega, by go_num, rfl, by omega, HN.out, hb⟩
              case measure => simp [intOf]; omega
            · have n93 : ¬ (r[k]).toNat = 93 := fun e => h93 (UInt8.toNat_inj.1 e)
              have q2 : (((r[k]).toNat : Int) != 93) = true := by simp; omega
              have hnb : noBr r[k] = true := by unfold noBr; simp [h91, h93]
              have HN := Lib.hid (show (P ++ X).data.toList = (r.data.toList.take (k + 1)).filter noBr by rw [htk, bytes_append, hPl, hX, List.filter_cons_of_pos hnb, List.filter_nil])
              have HZ := Lib.hid (show (P ++ X).size ≤ k + 1 by rw [ByteArray.size_append]; omega)
              clear htk hX h91 h93 hPl n91 n93 hnb
              go_wp2_with fail
              go_roundw
              case rel => exact ⟨k + 1, P ++ X, by omega, by go_num, by first | rfl | rw [HXE.out], HZ.out, HN.out, hb⟩
              case measure => simp [intOf]; omega
        · obtain rfl : k = r.size := by omega
          have hP : P = s := by
            rw [List.take_of_length_le (by simp), HF1.out] at hPl
            apply ByteArray.ext; exact Array.toList_inj.1 hPl
          have hsz : (r.size : Int) = (s.size : Int) + 2 * (m : Int) := by have := HF2.out; omega
          subst hP
          have q1 : (P.toList == P.toList) = true := by simp
          have q2 : ((r.size : Int) == (P.size : Int) + 2 * (m : Int)) = true := by rw [hsz]; simp
          have k1 : IntKind.i64.wrap (2 * (m : Int)) = 2 * (m : Int) := by rw [IntKind.wrap_i64]; omega
          have k2 : IntKind.i64.wrap ((P.size : Int) + 2 * (m : Int)) = (P.size : Int) + 2 * (m : Int) := by rw [IntKind.wrap_i64]; omega
          have HBB := Lib.hid (below_step HB hb)
          have HV4 := Lib.hid (HV3.out.kept hb)
          clear hsz hPl hb
          go_wp2_with fail
          refine (laws_apart l 0 _ m _ _ HL.out HF3.out HV4.out (by omega)).mono ?_
          rintro e w9 ⟨rfl, hb9⟩
          go_wp2_with fail
          go_ret
          exact ⟨rfl, below_step HBB.out hb9⟩
  · have hbig : decide (1048576 < (len : Int)) = true := by simp; omega
    go_enter Try.func5, Try.ntmps5
    go_wp2_with (go_at_call 9; go_in)
    go_ret
    exact ⟨rfl, Below.refl _ _⟩
end Go.Proofs.Ytpniiaemgobaiac

/-
  Chapter 16: bags of pieces, in the program: maps from pieces to how often they are there.
-/
import Derived.Test.YtpniiaemgobaiabL16C
import Derived.Maps.OwnOps
import Derived.Maps.OwnSet
import Derived.Maps.RangeWalk
import Derived.StringKeys
import Derived.Sort.MapsRangeIn
namespace Go.Proofs.Ytpniiaemgobaiab
open Go.RowKit Go.WideMaps Go.Maps
set_option linter.unusedVariables false
set_option maxRecDepth 100000
theorem bag_law : Keyed Try.prog 9 := string_keyed Try.underlying9
theorem bag_zero (w : World) : (zeroValue 2).run Try.prog w = .ok (.int .i64 0) w := by kernel_rfl
/-- block b is a map that has each of G's texts, as often as it is there -/
def Bag (w : World) (b n : Nat) (D : DataW Unit) (G : List (List UInt8)) : Prop :=
  w.ownsMap Try.prog 9 (plainElem Try.prog 2) b n D ∧ ∀ x, D.atKey (.string x) (.lit (.int .i64 0)) = .lit (.int .i64 (G.count x : Nat))
theorem bag_key (s : ByteArray) (hs : s.size ≤ maxLen) : keyOf Try.prog 9 (.string s) = some (.string (bl s)) := keyOf_string_mk Try.underlying9 hs
theorem Bag.kept {w w1 : World} {b n : Nat} {D : DataW Unit} {G : List (List UInt8)} {row : Option Nat} (h : Bag w b n D G) (hg : w.grownBy w1 row) (hne : some b ≠ row) : Bag w1 b n D G := ⟨h.1.kept hg hne, h.2⟩
theorem Bag.below {w w1 : World} {b n : Nat} {D : DataW Unit} {G : List (List UInt8)} (h : Bag w b n D G) (hb : Below w.heap.size w w1) : Bag w1 b n D G := h.kept (grown_of_below hb none) (by simp)
theorem Bag.made (w : World) : Bag (w.alloc (.map #[] 0)) w.heap.size 0 (.map []) [] := ⟨World.ownsMap_made _ _ _ _, fun x => rfl⟩
theorem Bag.put {w w1 : World} {b n m : Nat} {D : DataW Unit} {G : List (List UInt8)} {x : List UInt8} (h : Bag w b n D G) (h1 : w1.ownsMap Try.prog 9 (plainElem Try.prog 2) b m (D.put (.string x) (.lit (.int .i64 ((G.count x : Nat) + 1))))) : Bag w1 b m (D.put (.string x) (.lit (.int .i64 ((G.count x : Nat) + 1)))) (G ++ [x]) := by
  refine ⟨h1, fun y => ?_⟩
  by_cases e : y = x
  · subst e
    rw [atKey_put_same (k := .string y) h.1.isMap trivial, List.count_append, List.count_singleton]
    simp
  · rw [atKey_put_other (fun e2 => e (by injection e2)), h.2 y, List.count_append, List.count_singleton]
    have : ¬ x = y := fun e2 => e e2.symm
    simp [this]
set_option maxHeartbeats 2000000 in
theorem impl_add (b n : Nat) (D : DataW Unit) (G : List (List UInt8)) (s : ByteArray) (w : World) (h : Bag w b n D G) (hn : n ≤ 10000) (hG : G.length ≤ 10000) (hs : s.size ≤ 1000) :
    Calls Try.prog 117 #[.map (some b), .string s] w fun e w' => e = .returned (.tuple #[]) ∧ (∃ D', Bag w' b (n + 1) D' (G ++ [bl s])) ∧ w.grownBy w' (some b) := by
  have hkey := bag_key s (by unfold maxLen; omega)
  have hcl : (G.count (bl s)) ≤ 10000 := Nat.le_trans List.count_le_length hG
  have HB := Lib.hid h
  have hown := h.1
  have hat0 := h.2 (bl s)
  clear h
  go_enter Try.func117, Try.ntmps117
  go_wp2_with (first
    | (at_lookup; refine wpList_lookup_own_int _ rfl _ _ 109 rfl 9 2 .i64 bag_law Try.underlying109 Try.underlying2 (bag_zero _) b n _ rfl hown _ _ rfl hkey ?_; intro c hat hwc; rw [hat0] at hat; have hc9 : (G.count (bl s) : Nat) = c := (by injection hat with h1; injection h1); subst hc9)
    | (at_mapUpdate; refine wpList_mapUpdate_own _ rfl _ _ _ 109 rfl 9 2 bag_law Try.underlying109 _ b n _ rfl hown (by unfold maxLen; omega) _ _ _ rfl rfl hkey _ [] (plainElem_int Try.underlying2 (WalkArith.wf_i64 (by omega))) ?_; intro w1 hown1 hgrow1))
  go_end0
  exact ⟨rfl, ⟨_, HB.out.put hown1⟩, hgrow1⟩
def BagIn (w : World) (b : Nat) (G : List (List UInt8)) : Prop := ∃ n D, n ≤ 1001 ∧ Bag w b n D G
set_option maxHeartbeats 2000000 in
theorem impl_gramsIn (s : ByteArray) (q : Nat) (w : World) (hs : s.size ≤ 1000) (hq1 : 1 ≤ q) (hq2 : q ≤ 10) :
    Calls Try.prog 92 #[.string s, .int .i64 (q : Int)] w fun e w' => e = .returned (.map (some w.heap.size)) ∧ BagIn w' w.heap.size (gramsL q (bl s)) ∧ Below w.heap.size w w' := by
  have hmm := @run_makeMap Try.prog
  have HM := Lib.hid (Bag.made w)
  have hB0 : Below w.heap.size w (w.alloc (.map #[] 0)) := (Below.refl _ _).alloc (Nat.le_refl _) _
  have HB0 := Lib.hid hB0
  have HA := Lib.hid (gramsTo_all hq1 (bl s))
  have HL := Lib.hid (bl_len s)
  clear hB0
  go_enter Try.func92, Try.ntmps92
  go_wp2
  generalize (w.alloc (.map #[] 0)) = V at *
  go_loopw [6] (fun i wr => ∃ (m n : Nat) (D : DataW Unit), m ≤ s.size + 1 - q ∧ i = .int .i64 ((q + m : Nat) : Int) ∧ n ≤ m ∧ Bag wr w.heap.size n D (gramsTo q (bl s) m) ∧ Below w.heap.size w wr)
    (fun i _ => s.size + 1 - (intOf i).toNat)
  case atStart => exact ⟨0, 0, _, by omega, rfl, by omega, HM.out, HB0.out⟩
  case round =>
    obtain ⟨m, n, D, hm, rfl, hnm, hbag, hb⟩ := hrel
    by_cases hlt : q + m ≤ s.size
    · have l0 : ((q + m : Nat) : Int) ≤ (s.size : Int) := by omega
      have l1 : ((q + m : Nat) : Int) - (q : Int) = (m : Int) := by omega
      have l2 : (m : Int) ≤ ((q + m : Nat) : Int) := by omega
      have l3 : (0 : Int) ≤ (m : Int) := by omega
      have hw : IntKind.i64.wrap (((q + m : Nat) : Int) - (q : Int)) = (m : Int) := by rw [IntKind.wrap_i64]; omega
      have hx : bl (s.extract m (q + m)) = gramAt q (bl s) m := by rw [Nat.add_comm]; exact gramAt_extract s q m
      have hz : (s.extract m (q + m)).size ≤ 1000 := by rw [ByteArray.size_extract]; omega
      obtain ⟨X, hX⟩ : ∃ X, s.extract m (q + m) = X := ⟨_, rfl⟩
      rw [hX] at hx hz
      have HX := Lib.hid hX
      have HS := Lib.hid (gramsTo_succ q (bl s) m)
      have hgl : (gramsTo q (bl s) m).length ≤ 10000 := by rw [gramsTo_length]; omega
      have HC := Lib.hid (fun W (hW : Bag W w.heap.size n D (gramsTo q (bl s) m)) => impl_add w.heap.size n D _ X W hW (by omega) hgl hz)
      have HG := Lib.hid hx
      have hkm : q + m = m + q := Nat.add_comm _ _
      clear hx hX HM HB0 hgl
      obtain ⟨e, he⟩ : ∃ e : Nat, q + m = e := ⟨_, rfl⟩
      have HE := Lib.hid he
      rw [he] at l0 l1 l2 hw hlt HX ⊢
      clear he hkm
      go_wp2_with fail
      rw [HX.out]
      refine (HC.out _ hbag).mono ?_
      rintro e1 w1 ⟨rfl, ⟨D1, hbag1⟩, hg1⟩
      have hb1 := hb.grown hg1 hb.size (fun j hj => by cases hj; exact Nat.le_refl _)
      have HB1 := Lib.hid hbag1
      clear hbag hbag1 hg1 hb
      go_wp2
      go_roundw
      case rel => exact ⟨m + 1, n + 1, D1, by omega, by rw [← Nat.add_assoc, HE.out]; go_num, by omega, by rw [HS.out, ← HG.out]; exact HB1.out, hb1⟩
      case measure => simp [intOf]; omega
    · have HN := Lib.hid (show m = s.size + 1 - q by omega)
      have l0 : ¬ ((q + m : Nat) : Int) ≤ (s.size : Int) := by omega
      have HBG := Lib.hid hbag
      clear hbag HM HB0
      go_wp2
      go_ret
      exact ⟨rfl, ⟨n, D, by omega, by have := HBG.out; rw [HN.out] at this; rw [← HA.out, HL.out]; exact this⟩, hb⟩
theorem bag_key_inv {X : ByteArray} {kl : Lit} (h : keyOf Try.prog 9 (.string X) = some kl) : X.size ≤ maxLen ∧ kl = .string (bl X) := by
  obtain ⟨s, h1, h2, h3⟩ := string_of_keyOf Try.underlying9 h
  injection h1 with h1
  subst h1
  exact ⟨h3, h2⟩
def rangeM (w : World) (b r : Nat) : Nat := w.rangeLeft b r
/-- the pairs over the pieces that are done -/
theorem pair_step {U : List (List UInt8)} {x : List UInt8} {A B : List (List UInt8)} : pairU (x :: U) A B = pairU U A B + min (A.count x) (B.count x) := by rw [pairU_cons]; omega
theorem has_of_count {w : World} {b n : Nat} {D : DataW Unit} {G : List (List UInt8)} (h : Bag w b n D G) {x : List UInt8} (hx : x ∈ G) : Maps.has D (.string x) = true := by
  cases hh : Maps.has D (.string x)
  · exfalso
    have h0 := h.2 x
    rw [Maps.atKey_of_not_has hh] at h0
    have h1 : (0 : Int) = (G.count x : Nat) := by injection h0 with h2; injection h2
    have := List.count_pos_iff.2 hx
    omega
  · rfl
set_option maxHeartbeats 4000000 in
theorem impl_paired (b c n m : Nat) (D E : DataW Unit) (A B : List (List UInt8)) (w : World) (hA : Bag w b n D A) (hB : Bag w c m E B) (hbc : ¬ b = c) (hAl : A.length ≤ 10000) (hBl : B.length ≤ 10000) :
    Calls Try.prog 93 #[.map (some b), .map (some c)] w fun e w' => e = .returned (.int .i64 (pairN A B : Nat)) ∧ Below w.heap.size w w' := by
  have hbl := hA.1.lt
  have hcl := hB.1.lt
  have HAT := Lib.hid hA.2
  have HH := Lib.hid (fun x (hx : x ∈ A) => has_of_count hA hx)
  have hown := hA.1
  have HP := Lib.hid (pairN_le A B)
  clear hA
  go_enter Try.func93, Try.ntmps93
  go_wp2_with (at_range; refine wpList_range_own _ rfl _ 109 rfl 9 2 bag_law Try.underlying109 _ b n _ rfl hown ?_; intro w0 hrg0 hg0 hs0)
  go_frame
  have hB0 := hB.kept hg0 (by simp)
  have hb0 : Below w.heap.size w w0 := (Below.refl _ _).grown hg0 (Nat.le_refl _) (fun j hj => by cases hj)
  clear hB hg0 hown
  go_loopw [5, 10] (fun v _ wr => ∃ (left : Lit → Bool) (cnt k : Nat) (U : List (List UInt8)), v = .int .i64 (k : Int) ∧ wr.ranges Try.prog 9 (plainElem Try.prog 2) b w.heap.size n D left cnt ∧ Bag wr c m E B ∧ U.Nodup ∧ (∀ x, x ∈ U → left (.string x) = false) ∧ (∀ x, x ∈ A → left (.string x) = true ∨ x ∈ U) ∧ k = pairU U A B ∧ Below w.heap.size w wr)
    (fun _ _ wr => wr.rangeLeft b w.heap.size)
  case atStart => exact ⟨_, _, 0, [], rfl, hrg0, hB0, List.nodup_nil, (fun x hx => (by cases hx)), (fun x hx => .inl (HH.out x hx)), rfl, hb0⟩
  case round =>
    obtain ⟨left, cnt, k, U, rfl, hrg, hbag, hU, hUl, hAU, hk, hb⟩ := hrel
    have HU := Lib.hid hU; have HUL := Lib.hid hUl; have HAU := Lib.hid hAU; have HK := Lib.hid hk
    have hk2 : k ≤ 10000 := by rw [hk]; exact Nat.le_trans (pairU_le_left hU A B) hAl
    clear hrg0 hB0 hU hUl hAU hk
    go_wp2_with (at_next; refine wpList_next_ranges _ rfl _ rfl 9 bag_law (plainElem Try.prog 2) Value.string (Value.int .i64) (fun key kl hkey => Maps.keyOf_string_inv Try.underlying9 hkey) (fun v y hv => by obtain ⟨c, rfl, _⟩ := plainElem_int_inv Try.underlying2 hv; exact ⟨c, rfl⟩) b w.heap.size n _ _ _ rfl hrg ?_ ?_)
    · intro hc0 hl0
      have HF := Lib.hid (show pairN A B = k by
        rw [HK.out]
        exact (pairN_eq HU.out fun x hx => by
          rcases HAU.out x hx with h | h
          · rw [hl0] at h; cases h
          · exact h).symm)
      go_wp2
      go_ret
      exact ⟨by rw [HF.out]; rfl, hb⟩
    · intro X cv kl y ps w1 cnt1 hkey hlk hy hat hrg1 hlt hg1 hs1 hen
      obtain ⟨hXs, rfl⟩ := bag_key_inv hkey
      obtain ⟨a9, ha9, hz9, _⟩ := plainElem_int_inv Try.underlying2 hy
      have hcv : cv = (A.count (bl X) : Nat) := by
        have h1 := hat (.lit (.int .i64 0))
        rw [HAT.out (bl X)] at h1
        injection ha9 with _ h2
        injection hz9 with h3 h4
        rw [h3] at h1
        injection h1 with h5
        injection h5 with h6 h7
        rw [h2, h7]
      have hbag1 := hbag.kept hg1 (fun e => by have := Option.some.inj e; omega)
      have hatB := hbag1.2 (bl X)
      have hownB := hbag1.1
      have hkX := bag_key X hXs
      have HN := Lib.hid (show bl X ∉ U from fun h => by have := HUL.out _ h; rw [this] at hlk; cases hlk)
      have HS := Lib.hid (pair_step (U := U) (x := bl X) (A := A) (B := B))
      have hca : A.count (bl X) ≤ 10000 := Nat.le_trans List.count_le_length hAl
      have hcb : B.count (bl X) ≤ 10000 := Nat.le_trans List.count_le_length hBl
      have hb1 := hb.grown hg1 hb.size (fun j hj => by cases hj; exact Nat.le_refl _)
      have HBG := Lib.hid hbag1
      have HMEM := Lib.hid hlk
      have HRG := Lib.hid hrg1; have HRG0 := Lib.hid hrg
      subst hcv
      obtain ⟨x, hx⟩ : ∃ x, bl X = x := ⟨_, rfl⟩
      rw [hx] at hatB hkX HN HS hca hcb HMEM HRG hen ⊢
      have HX := Lib.hid hx
      obtain ⟨p, hp⟩ : ∃ p, A.count x = p := ⟨_, rfl⟩
      obtain ⟨r, hr⟩ : ∃ r, B.count x = r := ⟨_, rfl⟩
      rw [hp] at hca HS hen ⊢
      rw [hr] at hcb HS hatB
      clear hx hp hr hbag hbag1 hg1 hrg1 hrg hb hat hy ha9 hz9 hkey hlk
      have hstep : Hid (∀ z : List UInt8, z ∈ A → (left (.string z) && !(Lit.string z).sameKey (.string x)) = true ∨ z ∈ x :: U) := Lib.hid (fun z hz => by
        by_cases e : z = x
        · exact .inr (by rw [e]; exact List.mem_cons_self)
        · rcases HAU.out z hz with h | h
          · refine .inl ?_
            rw [h]
            have : (Lit.string z).sameKey (.string x) = false := by simpa [Lit.sameKey] using e
            rw [this]; rfl
          · exact .inr (List.mem_cons_of_mem _ h))
      have hdone : Hid (∀ z : List UInt8, z ∈ x :: U → (left (.string z) && !(Lit.string z).sameKey (.string x)) = false) := Lib.hid (fun z hz => by
        rcases List.mem_cons.1 hz with e | e
        · rw [e]
          have : (Lit.string x).sameKey (.string x) = true := by simp [Lit.sameKey]
          rw [this]; simp
        · rw [HUL.out z e]; rfl)
      have hnod : Hid ((x :: U).Nodup) := Lib.hid (List.nodup_cons.2 ⟨HN.out, HU.out⟩)
      have HM := Lib.hid (show rangeM w1 b w.heap.size < rangeM wr b w.heap.size by unfold rangeM; rw [HRG.out.left_eq, HRG0.out.left_eq]; exact hlt)
      clear hownB
      have hownB := HBG.out.1
      by_cases hpr : p ≤ r
      · have m1 : ((p : Nat) : Int) ≤ ((r : Nat) : Int) := by omega
        have HK2 := Lib.hid (show k + p = pairU (x :: U) A B by rw [HS.out, ← HK.out, Nat.min_eq_left hpr])
        go_wp2_with (at_lookup; refine wpList_lookup_own_int _ rfl _ _ 109 rfl 9 2 .i64 bag_law Try.underlying109 Try.underlying2 (bag_zero _) c m _ rfl hownB _ _ rfl hkX ?_; intro c2 hat2 hwc2; rw [hatB] at hat2; have hc9 : ((r : Nat) : Int) = c2 := (by injection hat2 with h1; injection h1); subst hc9)
        go_roundw
        case rel => exact ⟨_, cnt1, k + p, x :: U, by go_num, HRG.out, HBG.out, hnod.out, hdone.out, hstep.out, HK2.out, hb1⟩
        case measure => exact HM.out
      · have m1 : ¬ ((p : Nat) : Int) ≤ ((r : Nat) : Int) := by omega
        have HK2 := Lib.hid (show k + r = pairU (x :: U) A B by rw [HS.out, ← HK.out, Nat.min_eq_right (by omega)])
        go_wp2_with (at_lookup; refine wpList_lookup_own_int _ rfl _ _ 109 rfl 9 2 .i64 bag_law Try.underlying109 Try.underlying2 (bag_zero _) c m _ rfl hownB _ _ rfl hkX ?_; intro c2 hat2 hwc2; rw [hatB] at hat2; have hc9 : ((r : Nat) : Int) = c2 := (by injection hat2 with h1; injection h1); subst hc9)
        go_roundw
        case rel => exact ⟨_, cnt1, k + r, x :: U, by go_num, HRG.out, HBG.out, hnod.out, hdone.out, hstep.out, HK2.out, hb1⟩
        case measure => exact HM.out
end Go.Proofs.Ytpniiaemgobaiab

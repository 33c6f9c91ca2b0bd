/-
  Chapter 19: words with how far they are, in memory; sorted.
-/
import Derived.Test.YtpniiaemgobaiaaFarP
import Derived.Test.YtpniiaemgobaiaaStrs
import Derived.Test.YtpniiaemgobaiaaSortKit
import Derived.Test.YtpniiaemgobaiaaFarLay
import Derived.Shelf.SlSortCmp.NoneTotal
namespace Go.Proofs.Ytpniiaemgobaiaa
open Go.RowKit Go.Sort Go.Shelf
set_option linter.unusedVariables false
set_option maxRecDepth 100000
def encW (x : Fw) : List Value := [.int .i64 x.d, .string (txt x.w)]
def fws : List Fw → List Value
  | [] => []
  | x :: l => .int .i64 x.d :: .string (txt x.w) :: fws l
def fwAt (L : List Fw) (i : Nat) : Fw := L.getD i default
theorem fws_length (L : List Fw) : (fws L).length = L.length * 2 := by
  induction L with
  | nil => rfl
  | cons r l ih => simp only [fws, List.length_cons, ih]; omega
theorem fws_append (L M : List Fw) : fws (L ++ M) = fws L ++ fws M := by
  induction L with
  | nil => rfl
  | cons r l ih => simp only [List.cons_append, fws, ih]
theorem fws_take (L : List Fw) (k : Nat) (h : k ≤ L.length) : fws (L.take k) = (fws L).take (k * 2) := by
  have e := fws_append (L.take k) (L.drop k)
  rw [List.take_append_drop] at e
  rw [e, List.take_left' (by rw [fws_length, List.length_take]; omega)]
theorem fws_cell (L : List Fw) : ∀ v ∈ fws L, v.oneCell' = true := by
  induction L with
  | nil => intro v h; cases h
  | cons r l ih =>
    intro v h
    rcases List.mem_cons.1 h with e | h
    · rw [e]; rfl
    · rcases List.mem_cons.1 h with e | h
      · rw [e]; rfl
      · exact ih v h
theorem fws_at (L : List Fw) : ∀ i, i < L.length → valAt (fws L) (i * 2) = .int .i64 (fwAt L i).d ∧ valAt (fws L) (i * 2 + 1) = .string (txt (fwAt L i).w) := by
  induction L with
  | nil => intro i hi; simp at hi
  | cons r l ih =>
    intro i hi
    cases i with
    | zero => exact ⟨rfl, rfl⟩
    | succ i =>
      have h := ih i (by simpa using hi)
      have e : (i + 1) * 2 = i * 2 + 2 := by omega
      rw [e]
      simpa [fws, valAt, fwAt, List.getD_eq_getElem?_getD] using h
def cmpS (x y : List UInt8) : Int := if x < y then -1 else if y < x then 1 else 0
theorem cmpS_neg (x y : List UInt8) : cmpS x y < 0 ↔ x < y := by
  unfold cmpS
  split
  · simp [*]
  · split <;> simp [*]
def cfW (x y : Fw) : Int := orI (cmpI x.d y.d) (cmpS x.w y.w)
theorem ltOf_cfW : ltOf cfW = ltW := by
  funext x y
  have a1 := cmpI_neg x.d y.d
  have a2 := cmpI_zero x.d y.d
  have a3 := cmpS_neg x.w y.w
  unfold ltOf ltW
  rw [decide_eq_decide]
  unfold cfW orI
  split
  · rename_i h
    have h0 : cmpI x.d y.d = 0 := h
    constructor
    · intro k; exact .inr ⟨a2.1 h0, a3.1 k⟩
    · rintro (k | ⟨_, k⟩)
      · have := a2.1 h0; omega
      · exact a3.2 k
  · rename_i h
    constructor
    · intro k; exact .inl (a1.1 k)
    · rintro (k | ⟨k, _⟩)
      · exact a1.2 k
      · exact absurd (a2.2 k) h
theorem swoW : SWO (ltOf cfW) := by
  rw [ltOf_cfW]
  exact ⟨ltW_irr, fun x y z h k => ltW_tr h k, fun x y z h k => ltW_neg h k⟩
theorem cmp_isNaNS (x : ByteArray) (w : World) : Calls Try.prog 90 #[.string x] w fun e w' => e = .returned (.bool false) ∧ w = w' := by
  have e : (x.toList == x.toList) = true := by simp
  go_enter Try.func90, Try.ntmps90
  go_wp2
  go_ret
  exact ⟨rfl, rfl⟩
set_option maxHeartbeats 1000000 in
theorem cmp_compareS (x y : ByteArray) (w : World) : Calls Try.prog 73 #[.string x, .string y] w fun e w' => e = .returned (.int .i64 (cmpS (bl x) (bl y))) ∧ w = w' := by
  have sl := strLt x y
  have sl2 := strLt y x
  have se := strEq x y
  by_cases h1 : bl x < bl y
  · have e1 : Op.bytesLess x.toList y.toList = true := by rw [sl]; exact decide_eq_true h1
    have HS := Lib.hid (show cmpS (bl x) (bl y) = -1 from if_pos h1)
    clear sl sl2 se h1
    go_enter Try.func73, Try.ntmps73
    go_wp2_with (go_at_call 90; refine (cmp_isNaNS _ _).mono ?_; rintro e w' ⟨rfl, rfl⟩)
    go_ret
    exact ⟨by rw [HS.out]; rfl, rfl⟩
  · have e1 : Op.bytesLess x.toList y.toList = false := by rw [sl]; exact decide_eq_false h1
    by_cases h2 : bl y < bl x
    · have e2 : Op.bytesLess y.toList x.toList = true := by rw [sl2]; exact decide_eq_true h2
      have e3 : (x.toList == y.toList) = false := by rw [se]; exact decide_eq_false (fun e => by rw [e] at h2; exact List.lt_irrefl _ h2)
      have HS := Lib.hid (show cmpS (bl x) (bl y) = 1 by unfold cmpS; rw [if_neg h1, if_pos h2])
      clear sl sl2 se h1 h2
      go_enter Try.func73, Try.ntmps73
      go_wp2_with (go_at_call 90; refine (cmp_isNaNS _ _).mono ?_; rintro e w' ⟨rfl, rfl⟩)
      go_ret
      exact ⟨by rw [HS.out]; rfl, rfl⟩
    · have e2 : Op.bytesLess y.toList x.toList = false := by rw [sl2]; exact decide_eq_false h2
      have e3 : (x.toList == y.toList) = true := by rw [se]; exact decide_eq_true (List.le_antisymm (List.not_lt.1 h2) (List.not_lt.1 h1))
      have HS := Lib.hid (show cmpS (bl x) (bl y) = 0 by unfold cmpS; rw [if_neg h1, if_neg h2])
      clear sl sl2 se h1 h2
      go_enter Try.func73, Try.ntmps73
      go_wp2_with (go_at_call 90; refine (cmp_isNaNS _ _).mono ?_; rintro e w' ⟨rfl, rfl⟩)
      go_ret
      exact ⟨by rw [HS.out]; rfl, rfl⟩
set_option maxHeartbeats 2000000 in
theorem impl_cmpFar (d1 d2 : Int) (s1 s2 : List UInt8) (w : World) :
    Calls Try.prog 72 #[.agg #[.int .i64 d1, .string (txt s1)], .agg #[.int .i64 d2, .string (txt s2)]] w fun e w' => e = .returned (.int .i64 (orI (cmpI d1 d2) (cmpS s1 s2))) ∧ Below w.heap.size w w' ∧ w.drawn ≤ w'.drawn := by
  have HT := Lib.hid (show cmpS (bl (txt s1)) (bl (txt s2)) = cmpS s1 s2 by rw [bl_txt, bl_txt])
  generalize txt s1 = x at *
  generalize txt s2 = y at *
  go_enter Try.func72, Try.ntmps72
  go_wp2_with fail
  go_region_law ((go_simp; first
    | (go_at_call 39; refine (cmp_compare _ _ _).mono ?_; rintro e w' ⟨rfl, rfl⟩)
    | (go_at_call 73; refine (cmp_compareS _ _ _).mono ?_; rintro e w' ⟨rfl, rfl⟩; rw [HT.out])
    | (go_at_call 38; refine (cmp_or2 (cmpI d1 d2) (cmpS s1 s2) _ _ _ (by go_simp) (by go_simp)).mono ?_; rintro e w' ⟨rfl, rfl⟩)))
  all_goals
    go_wp2
    go_ret
    refine ⟨rfl, (by repeat (first | exact Below.refl _ _ | assumption | (refine Below.drew ?_) | (refine below_drewN ?_ _) | (refine Below.alloc ?_ (by first | omega | (simp; done) | (simp; omega)) _) | (refine Below.setCell ?_ (by first | omega | (simp; done) | (simp; omega)) _))), ?_⟩
    first | exact Nat.le_add_right w.drawn 2 | exact Nat.le_add_right w.drawn 1 | exact Nat.le_add_right w.drawn 3 | exact Nat.le_add_right w.drawn 4 | exact Nat.le_add_right w.drawn 5 | exact Nat.le_add_right w.drawn 0
theorem cmpLaysW (blk off size : Nat) (w : World) : CmpLays Try.prog 72 #[] encW 2 cfW blk off size w :=
  fun m os dk _ x y => (impl_cmpFar x.d y.d x.w y.w (sortWorldK encW 2 w blk off m dk os)).mono fun _ _ ⟨he, hb, hd⟩ => ⟨he, grow_of_below hb hd⟩
theorem flat_fws (l : List Fw) : flatK encW 2 l.toArray = (fws l).toArray := by
  refine ext_get! (by simp [fws_length]) fun t ht => ?_
  have ht' : t < l.length * 2 := by simpa using ht
  rw [get_flatK _ _ _ t (by simpa using ht')]
  have hq : t / 2 < l.length := by omega
  obtain ⟨e0, e1⟩ := fws_at l (t / 2) hq
  have hv : ((fws l).toArray)[t]! = valAt (fws l) t := by
    have hl : t < (fws l).length := by rw [fws_length]; exact ht'
    rw [getElem!_pos _ t (by simpa using hl)]
    simp [valAt, List.getD_eq_getElem?_getD, hl]
  have hr : l.toArray[t / 2]! = fwAt l (t / 2) := by
    rw [getElem!_pos _ _ (by simpa using hq)]
    simp [fwAt, List.getD_eq_getElem?_getD, hq]
  rw [hv, hr]
  have hm : t % 2 = 0 ∨ t % 2 = 1 := by omega
  rcases hm with hm | hm
  · rw [hm, show t = t / 2 * 2 by omega, e0]; rw [show t / 2 * 2 / 2 = t / 2 by omega]; rfl
  · rw [hm, show t = t / 2 * 2 + 1 by omega, e1]; rw [show (t / 2 * 2 + 1) / 2 = t / 2 by omega]; rfl
set_option maxHeartbeats 1000000 in
theorem sl_sortFar (l : List Fw) (g n cap B : Nat) (w : World) (hl : l.length = n) (hO : OwnV 95 2 w B (some ⟨g, 0, none⟩) n cap (fws l)) (hn : n < 4611686018427387904) :
    Calls Try.prog 71 #[.slice (some ⟨g, 0, none⟩) n cap, .func (.func 72) #[] #[]] w fun e w' => e = .returned (.tuple #[]) ∧ ∃ s : List Fw, s.Perm l ∧ s.Pairwise (fun x y => ltW y x = false) ∧ OwnV 95 2 w' B (some ⟨g, 0, none⟩) n cap (fws s) ∧ w.grownBy w' (some g) := by
  subst hl
  obtain ⟨hlen, hrow⟩ := hO
  rcases hrow.2 with ⟨hv, _⟩ | ⟨g2, cap2, cur, hv, hB, hg, hnc, hcm, hcs, htk⟩
  · cases hv
  simp only [Value.slice.injEq, Option.some.injEq, Addr.mk.injEq] at hv
  obtain ⟨⟨rfl, _⟩, _, rfl⟩ := hv
  have hH : HoldsK encW 2 w g 0 l.toArray := by
    unfold HoldsK
    rw [flat_fws]
    intro j hj
    have hj' : j < (fws l).length := by simpa using hj
    have hc : w.cell? ⟨g, j, none⟩ = some (valAt (fws l) j) := OwnV.cell ⟨hlen, hrow⟩ j (by rw [fws_length] at hj'; exact hj')
    refine ⟨?_, ?_⟩
    · rw [Nat.zero_add, hc, getElem!_pos _ j (by simpa using hj')]
      simp [valAt, List.getD_eq_getElem?_getD, hj']
    · rw [Nat.zero_add]; exact hrow.frozenAt j
  have hgl : g < w.heap.size := (Array.getElem?_eq_some_iff.1 hg).1
  have eg : ∀ args w, (callFunc 72 args).run Try.prog w = .ok (.enter 72 args) w := enters_of Try.func72 (by kernel_rfl) rfl
  have hcon := AnyQ.slices_SortFunc Try.sortFar 2 Try.isAgg95 Try.sizeOf95 encW (fun _ => rfl) (fun x v hv => by simp [encW] at hv; rcases hv with rfl | rfl <;> rfl) cfW swoW 72 #[] g 0 cap l.toArray w eg (cmpLaysW g 0 _ w) hH hgl (by simpa using hn)
  have hcon2 : Calls Try.prog 71 #[.slice (some ⟨g, 0, none⟩) l.length cap, .func (.func 72) #[] #[]] w fun e w' =>
      e = .returned (.tuple #[]) ∧ ∃ d' m os, PermIn 0 l.toArray.size l.toArray d' ∧ SortedIn (ltOf cfW) 0 l.toArray.size d' ∧ w' = sortWorldK encW 2 w g 0 m d' os := hcon
  refine hcon2.mono ?_
  rintro e w' ⟨rfl, d', m, os, ⟨hs, _, hp⟩, hsd, rfl⟩
  refine ⟨rfl, d'.toList, ?_, ?_, ?_, ?_⟩
  · have h1 : d'.extract 0 l.toArray.size = d' := by rw [← hs]; simp
    have h2 : l.toArray.extract 0 l.toArray.size = l.toArray := by simp
    rw [h1, h2] at hp
    simpa using hp
  · rw [List.pairwise_iff_getElem]
    intro i j hi hj hij
    have hi' : i < d'.size := by simpa using hi
    have hj' : j < d'.size := by simpa using hj
    have := hsd i j (Nat.zero_le _) hij (by rw [← hs]; exact hj')
    rw [getElem!_pos _ i hi', getElem!_pos _ j hj', ltOf_cfW] at this
    simpa using this
  · have hd : flatK encW 2 d' = (fws d'.toList).toArray := by have := flat_fws d'.toList; simpa using this
    have hdl : (fws d'.toList).length = l.length * 2 := by rw [fws_length]; simp at hs; simp [hs]
    unfold sortWorldK putRowK
    rw [hd]
    refine ⟨hdl, by simp [hdl], .inr ⟨g, cap, _, rfl, hB, heap_put _ hg, hnc, hcm, by simp [putCells, hcs], ?_⟩⟩
    rw [← hdl]
    exact take_put cur _ (by rw [hdl, hcs]; exact Nat.mul_le_mul_right _ hnc)
  · unfold sortWorldK putRowK
    exact grown_put _
theorem sl_sortFar_none (p : Option Addr) (cap : Nat) (v : Value) (w : World) :
    Calls Try.prog 71 #[.slice p 0 cap, v] w fun e w' => e = .returned (.tuple #[]) ∧ w' = w :=
  AnyF.slices_SortFunc_none Try.sortFar p cap v w
end Go.Proofs.Ytpniiaemgobaiaa

/-
  Chapter 17: Leftmost in the program: a clone, a stable sort (up to 20: one insertion sort), one pass.
-/
import Derived.Test.YtpniiaemgobaiacFdI
import Derived.Test.YtpniiaemgobaiacFoundIn
import Derived.Test.YtpniiaemgobaiacCmp
import Derived.Test.YtpniiaemgobaiacSortKit
import Derived.Test.YtpniiaemgobaiacAppV
import Derived.Test.YtpniiaemgobaiacLeftLay
import Derived.Shelf.SlSortCmp.PdqK
namespace Go.Proofs.Ytpniiaemgobaiac
open Go.RowKit Go.Sort Go.Shelf
set_option linter.unusedVariables false
set_option maxRecDepth 100000
def encF (x : Fd) : List Value := [.int .i64 x.f, .int .i64 x.t, .int .i64 x.w]
def cfF (x y : Fd) : Int := cmpR y.t x.f x.t y.f
theorem ltOf_cfF : ltOf cfF = ltF := by
  funext x y
  have a1 := cmpI_neg x.f y.f
  have a2 := cmpI_zero x.f y.f
  have a3 := cmpI_neg y.t x.t
  unfold ltOf ltF
  rw [decide_eq_decide]
  unfold cfF cmpR orI
  split <;> omega
theorem swoF : SWO (ltOf cfF) := by
  rw [ltOf_cfF]
  exact ⟨ordF.irr, ordF.tr, ordF.neg⟩
set_option maxHeartbeats 2000000 in
theorem impl_cmpFound (f1 t1 w1 f2 t2 w2 : Int) (w : World) :
    Calls Try.prog 44 #[.agg #[.int .i64 f1, .int .i64 t1, .int .i64 w1], .agg #[.int .i64 f2, .int .i64 t2, .int .i64 w2]] w fun e w' => e = .returned (.int .i64 (cmpR t2 f1 t1 f2)) ∧ Below w.heap.size w w' ∧ w.drawn ≤ w'.drawn := by
  go_enter Try.func44, Try.ntmps44
  go_wp2_with fail
  go_region_law ((go_simp; first
    | (go_at_call 46; refine (cmp_compare _ _ _).mono ?_; rintro e w' ⟨rfl, rfl⟩)
    | (go_at_call 45; refine (cmp_or2 (cmpI f1 f2) (cmpI t2 t1) _ _ _ (by go_simp) (by go_simp)).mono ?_; rintro e w' ⟨rfl, rfl⟩)))
  all_goals
    go_wp2
    go_ret
    refine ⟨rfl, (by repeat (first | exact Below.refl _ _ | assumption | (refine Below.drew ?_) | (refine below_drewN ?_ _) | (refine Below.alloc ?_ (by first | omega | (simp; done) | (simp; omega)) _) | (refine Below.setCell ?_ (by first | omega | (simp; done) | (simp; omega)) _))), ?_⟩
    first | exact Nat.le_add_right w.drawn 2 | exact Nat.le_add_right w.drawn 1 | exact Nat.le_add_right w.drawn 3 | exact Nat.le_add_right w.drawn 4 | exact Nat.le_add_right w.drawn 5 | exact Nat.le_add_right w.drawn 0
theorem cmpLaysF (blk off size : Nat) (w : World) : CmpLays Try.prog 44 #[] encF 3 cfF blk off size w :=
  fun m os dk _ x y => (impl_cmpFound x.f x.t x.w y.f y.t y.w (sortWorldK encF 3 w blk off m dk os)).mono fun _ _ ⟨he, hb, hd⟩ => ⟨he, grow_of_below hb hd⟩
theorem flat_fdI (l : List Fd) : flatK encF 3 l.toArray = ((fdI l).map (Value.int .i64)).toArray := by
  refine ext_get! (by simp [fdI_length]) fun t ht => ?_
  have ht' : t < l.length * 3 := by simpa using ht
  rw [get_flatK _ _ _ t (by simpa using ht')]
  have hq : t / 3 < l.length := by omega
  obtain ⟨e0, e1, e2⟩ := fdI_at l (t / 3) hq
  have hv : (((fdI l).map (Value.int .i64)).toArray)[t]! = .int .i64 (intAt (fdI l) t) := by
    have hl : t < (fdI l).length := by rw [fdI_length]; exact ht'
    rw [getElem!_pos _ t (by simpa using hl)]
    simp [intAt, List.getD_eq_getElem?_getD, hl]
  have hr : l.toArray[t / 3]! = fdAt l (t / 3) := by
    rw [getElem!_pos _ _ (by simpa using hq)]
    simp [fdAt, List.getD_eq_getElem?_getD, hq]
  rw [hv, hr]
  have hm : t % 3 = 0 ∨ t % 3 = 1 ∨ t % 3 = 2 := by omega
  rcases hm with hm | hm | hm
  · rw [hm, show t = t / 3 * 3 by omega, e0]; rw [show t / 3 * 3 / 3 = t / 3 by omega]; rfl
  · rw [hm, show t = t / 3 * 3 + 1 by omega, e1]; rw [show (t / 3 * 3 + 1) / 3 = t / 3 by omega]; rfl
  · rw [hm, show t = t / 3 * 3 + 2 by omega, e2]; rw [show (t / 3 * 3 + 2) / 3 = t / 3 by omega]; rfl
set_option maxHeartbeats 4000000 in
theorem sl_stableIn (l : List Fd) (g n cap : Nat) (w : World) (hl : l.length = n) (hn : n ≤ 20) (R : RowK encF 3 w g 0 l.toArray) :
    Calls Try.prog 80 #[.slice (some ⟨g, 0, none⟩) n cap, .int .i64 n, .func (.func 44) #[] #[]] w fun e w' => e = .returned (.tuple #[]) ∧ SWK encF 3 w g 0 (Sort.insertionSort (ltOf cfF) l.toArray 0 n) w' := by
  have eg : ∀ args w, (callFunc 44 args).run Try.prog w = .ok (.enter 44 args) w := enters_of Try.func44 (by kernel_rfl) rfl
  have hsz : l.toArray.size = n := by simpa using hl
  have ins : ∀ (a b : Nat) (dk : Array Fd) (wr : World), dk.size = n → a ≤ b → b ≤ n → SWK encF 3 w g 0 dk wr →
      Calls Try.prog 114 #[.slice (some ⟨g, 0, none⟩) n cap, .int .i64 (a : Int), .int .i64 (b : Int), .func (.func 44) #[] #[]] wr fun e w' => e = .returned (.tuple #[]) ∧ SWK encF 3 w g 0 (Sort.insertionSort (ltOf cfF) dk a b) w' := by
    intro a b dk wr hd hab hb S
    have hc := AnyQ.insertionSortCmpFunc_w Try.insFound 3 Try.isAgg30 Try.sizeOf30 encF cfF 44 #[] g 0 cap a b l.toArray dk w wr eg (cmpLaysF g 0 _ w) R (by omega) S swoF hab (by omega) (by omega)
    rw [hd] at hc
    exact hc
  have hkeep : ∀ (a b : Nat) (dk : Array Fd), dk.size = n → a ≤ b → b ≤ n → (Sort.insertionSort (ltOf cfF) dk a b).size = n := fun a b dk hd hab hb => by
    have := (insertionSort_holds swoF dk a b hab (by omega)).1.1
    omega
  have INS := Lib.hid ins
  have HK := Lib.hid hkeep
  have S0 := Lib.hid (SWK.start R.hH)
  have HSZ := Lib.hid hsz
  clear ins hkeep hsz eg
  have hn1 : (n : Int) ≤ 20 := by omega
  have hl1 : decide ((20 : Int) < (n : Int)) = false := by simp; omega
  clear hl
  go_enter Try.func80, Try.ntmps80
  go_wp2_with fail
  go_loopw [7, 8] (fun x y wr => ∃ dk : Array Fd, SWK encF 3 w g 0 dk wr ∧ dk.size = n ∧ ((x = .int .i64 0 ∧ y = .int .i64 20 ∧ dk = l.toArray) ∨ (x = .int .i64 20 ∧ y = .int .i64 40 ∧ n = 20 ∧ dk = Sort.insertionSort (ltOf cfF) l.toArray 0 20)))
    (fun _ y _ => 60 - (intOf y).toNat)
  case atStart => exact ⟨_, S0.out, HSZ.out, .inl ⟨rfl, rfl, rfl⟩⟩
  case round =>
    obtain ⟨dk, hS, hd, hc⟩ := hrel
    have HS := Lib.hid hS; have HD := Lib.hid hd
    clear hS hd
    rcases hc with ⟨rfl, rfl, hdk⟩ | ⟨rfl, rfl, h20, hdk⟩
    · have HDK := Lib.hid hdk
      clear hdk
      by_cases h20 : n = 20
      · have g1 : (20 : Int) ≤ (n : Int) := by omega
        have H20 := Lib.hid h20
        clear h20
        go_wp2_with fail
        refine (INS.out 0 20 dk _ HD.out (by omega) (by omega) HS.out).mono ?_
        rintro e w2 ⟨rfl, hS2⟩
        have HS2 := Lib.hid hS2
        clear hS2
        go_wp2_with fail
        go_roundw
        case rel => exact ⟨_, HS2.out, HK.out 0 20 dk HD.out (by omega) (by have := H20.out; omega), .inr ⟨rfl, rfl, H20.out, by rw [HDK.out]⟩⟩
        case measure => simp [intOf]
      · have g1 : ¬ (20 : Int) ≤ (n : Int) := by omega
        clear h20
        go_wp2_with fail
        refine (INS.out 0 n dk _ HD.out (by omega) (by omega) HS.out).mono ?_
        rintro e w2 ⟨rfl, hS2⟩
        rw [HDK.out] at hS2
        have HS2 := Lib.hid hS2
        clear hS2
        go_wp2_with fail
        go_loopw [6, 7, 8, 9] (fun x _ _ _ wr => x = .int .i64 20 ∧ wr = w2) (fun _ _ _ _ _ => 0)
        case atStart => exact ⟨rfl, rfl⟩
        case round =>
          obtain ⟨rfl, rfl⟩ := hrel
          go_wp2_with fail
          refine bodyPost_end (results_none rfl _ _ _) rfl ⟨rfl, HS2.out⟩
    · have g1 : ¬ (40 : Int) ≤ (n : Int) := by omega
      have HDK := Lib.hid hdk; have H20 := Lib.hid h20
      clear hdk h20
      go_wp2_with fail
      refine (INS.out 20 n dk _ HD.out (by have := H20.out; omega) (by omega) HS.out).mono ?_
      rintro e w2 ⟨rfl, hS2⟩
      have e0 : Sort.insertionSort (ltOf cfF) dk 20 n = Sort.insertionSort (ltOf cfF) l.toArray 0 n := by
        rw [H20.out]
        have : Sort.insertionSort (ltOf cfF) dk 20 20 = dk := by unfold Sort.insertionSort; rw [Sort.insOuter, if_neg (by omega)]
        rw [this, HDK.out]
      rw [e0] at hS2
      have HS2 := Lib.hid hS2
      clear hS2 e0
      go_wp2_with fail
      go_loopw [6, 7, 8, 9] (fun x _ _ _ wr => x = .int .i64 20 ∧ wr = w2) (fun _ _ _ _ _ => 0)
      case atStart => exact ⟨rfl, rfl⟩
      case round =>
        obtain ⟨rfl, rfl⟩ := hrel
        go_wp2_with fail
        refine bodyPost_end (results_none rfl _ _ _) rfl ⟨rfl, HS2.out⟩
end Go.Proofs.Ytpniiaemgobaiac

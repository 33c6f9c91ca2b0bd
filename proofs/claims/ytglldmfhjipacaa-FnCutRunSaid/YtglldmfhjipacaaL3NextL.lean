/-
  Chapter 3: NextCol, in the program and in its model; FnExactNextCol's walk.
-/
import Derived.Test.YtglldmfhjipacaaL3NextS
import Derived.Test.YtglldmfhjipacaaL3OkS
namespace Go.Proofs.Ytglldmfhjipacaa
open Go.RowKit
set_option linter.unusedVariables false
set_option maxRecDepth 100000
def nextColB (s : ByteArray) (k : Int) (b : Int) (L : List Int) : Bool := colOkB (patOk s k) s.size L && inB b 0 255
def nextColL (s : ByteArray) (k : Int) (f : Bool) (b : Int) (L : List Int) : List Int := if nextColB s k b L then tab (nextAt (maskG s f b) (intAt L) 0) (s.size + 1) else []
theorem colOkB_bnd {ok : Bool} {n : Nat} {L : List Int} (h : colOkB ok n L = true) : Bnd (intAt L) n n := by
  intro i hi
  obtain ⟨_, h1, h2⟩ := (colOkB_iff _ _ _).1 h
  have := stepsB_bnd h2 i (by omega)
  omega
theorem eqP_mask (s : ByteArray) (b : Int) (n : Nat) (C : Nat → Int) (head : Int) : tab (nextAt (eqP s b) C head) n = tab (nextAt (maskG s false b) C head) n := rfl
theorem eqP_fold (s : ByteArray) (b : Int) (C : Nat → Int) (head : Int) : tab (nextAt (eqP (foldS s) (foldI b)) C head) (s.size + 1) = tab (nextAt (maskG s true b) C head) (s.size + 1) := by
  apply tab_congr
  intro i hi
  refine nextAt_congr (n := s.size) (fun j hj => ?_) (fun _ _ => rfl) i (by omega)
  have h2 : j < (foldS s).size := by rw [foldS_size]; exact hj
  rw [maskG_fold s b j h2, eqP_at _ _ _ h2]
theorem isByte_any (b : Int) (w : World) :
    Calls Try.prog 105 #[.int .i64 b] w fun e w' => e = .returned (.bool (inB b 0 255)) ∧ w = w' := by
  by_cases h1 : 0 ≤ b
  · by_cases h2 : b ≤ 255
    · have H := Lib.hid (inB_yes ⟨h1, h2⟩)
      go_enter Try.func105, Try.ntmps105
      go_wp2
      go_ret
      exact ⟨by rw [H.out]; rfl, rfl⟩
    · have H := Lib.hid (inB_no (n := b) (lo := 0) (hi := 255) (by omega))
      go_enter Try.func105, Try.ntmps105
      go_wp2
      go_ret
      exact ⟨by rw [H.out]; rfl, rfl⟩
  · have H := Lib.hid (inB_no (n := b) (lo := 0) (hi := 255) (by omega))
    go_enter Try.func105, Try.ntmps105
    go_wp2
    go_ret
    exact ⟨by rw [H.out]; rfl, rfl⟩
set_option maxHeartbeats 1000000 in
theorem impl_nextCol (s : ByteArray) (k : Int) (f : Bool) (L : List Int) (a : Option Addr) (n cap : Nat) (b : Int) (w : World) (hs : s.size ≤ 1048576) (hn : L.length = n) (h : Ints w a L) (hlen : n ≤ 1048577) :
    Calls Try.prog 58 #[.agg #[.string s, .int .i64 k, .bool f], .slice a n cap, .int .i64 b] w fun e w' => ∃ a' n' cap', e = .returned (.slice a' n' cap') ∧ OwnN w' w.heap.size a' n' cap' (nextColL s k f b L) ∧ Below w.heap.size w w' := by
  have HL := Lib.hid hn; clear hn
  cases hc : colOkB (patOk s k) s.size L
  · have HC := Lib.hid hc
    have HR := Lib.hid (show nextColL s k f b L = [] by unfold nextColL nextColB; rw [hc]; rfl)
    clear hc
    go_enter Try.func58, Try.ntmps58
    go_wp2_with fail
    refine (impl_colOk _ _ _ L a _ _ _ hs HL.out (h.kept (by repeat (first | exact Below.refl _ _ | assumption | (refine Below.drew ?_) | (refine below_drewN ?_ _) | (refine Below.alloc ?_ (by first | omega | (simp; done) | (simp; omega)) _) | (refine Below.setCell ?_ (by first | omega | (simp; done) | (simp; omega)) _)))) hlen).mono ?_
    rintro e w1 ⟨rfl, hb1⟩; rw [HC.out]; obtain ⟨hc1, hf1⟩ := bcell hb1; have hz1 : w.heap.size < w1.heap.size := (by have := hb1.size; (try simp at this); omega); have HB1 : Below w.heap.size w w1 := below_step (by repeat (first | exact Below.refl _ _ | assumption | (refine Below.drew ?_) | (refine below_drewN ?_ _) | (refine Below.alloc ?_ (by first | omega | (simp; done) | (simp; omega)) _) | (refine Below.setCell ?_ (by first | omega | (simp; done) | (simp; omega)) _))) hb1
    go_wp2_with fail
    go_ret
    exact ⟨_, _, _, rfl, by rw [HR.out]; exact OwnN.nil _ _, HB1⟩
  · cases hi : inB b 0 255
    · have HC := Lib.hid hc
      have HI := Lib.hid hi
      have HR := Lib.hid (show nextColL s k f b L = [] by unfold nextColL nextColB; rw [hc, hi]; rfl)
      clear hc hi
      go_enter Try.func58, Try.ntmps58
      go_wp2_with fail
      refine (impl_colOk _ _ _ L a _ _ _ hs HL.out (h.kept (by repeat (first | exact Below.refl _ _ | assumption | (refine Below.drew ?_) | (refine below_drewN ?_ _) | (refine Below.alloc ?_ (by first | omega | (simp; done) | (simp; omega)) _) | (refine Below.setCell ?_ (by first | omega | (simp; done) | (simp; omega)) _)))) hlen).mono ?_
      rintro e w1 ⟨rfl, hb1⟩; rw [HC.out]; obtain ⟨hc1, hf1⟩ := bcell hb1; have hz1 : w.heap.size < w1.heap.size := (by have := hb1.size; (try simp at this); omega); have HB1 : Below w.heap.size w w1 := below_step (by repeat (first | exact Below.refl _ _ | assumption | (refine Below.drew ?_) | (refine below_drewN ?_ _) | (refine Below.alloc ?_ (by first | omega | (simp; done) | (simp; omega)) _) | (refine Below.setCell ?_ (by first | omega | (simp; done) | (simp; omega)) _))) hb1
      go_wp2_with (go_at_call 105; refine (isByte_any _ _).mono ?_; rintro e w' ⟨rfl, rfl⟩; rw [HI.out])
      go_ret
      exact ⟨_, _, _, rfl, by rw [HR.out]; exact OwnN.nil _ _, HB1⟩
    · have HC := Lib.hid hc
      have HI := Lib.hid hi
      have hb2 : 0 ≤ b ∧ b ≤ 255 := by simpa [inB] using hi
      obtain ⟨hb0, hb255⟩ := hb2
      have HR := Lib.hid (show nextColL s k f b L = tab (nextAt (maskG s f b) (intAt L) 0) (s.size + 1) by unfold nextColL nextColB; rw [hc, hi]; rfl)
      have HB := Lib.hid (colOkB_bnd hc)
      obtain ⟨_, hl2, _⟩ := (colOkB_iff _ _ _).1 hc
      have HNS := Lib.hid (HL.out.symm.trans hl2)
      clear hc hi hl2
      cases f
      · go_enter Try.func58, Try.ntmps58
        go_wp2_with fail
        refine (impl_colOk _ _ _ L a _ _ _ hs HL.out (h.kept (by repeat (first | exact Below.refl _ _ | assumption | (refine Below.drew ?_) | (refine below_drewN ?_ _) | (refine Below.alloc ?_ (by first | omega | (simp; done) | (simp; omega)) _) | (refine Below.setCell ?_ (by first | omega | (simp; done) | (simp; omega)) _)))) hlen).mono ?_
        rintro e w1 ⟨rfl, hb1⟩; rw [HC.out]; obtain ⟨hc1, hf1⟩ := bcell hb1; have hz1 : w.heap.size < w1.heap.size := (by have := hb1.size; (try simp at this); omega); have HB1 : Below w.heap.size w w1 := below_step (by repeat (first | exact Below.refl _ _ | assumption | (refine Below.drew ?_) | (refine below_drewN ?_ _) | (refine Below.alloc ?_ (by first | omega | (simp; done) | (simp; omega)) _) | (refine Below.setCell ?_ (by first | omega | (simp; done) | (simp; omega)) _))) hb1
        go_wp2_with (go_at_call 105; refine (isByte_any _ _).mono ?_; rintro e w' ⟨rfl, rfl⟩; rw [HI.out])
        refine (impl_nextColumn s L a n cap 0 b s.size _ hs HNS.out HL.out (h.kept HB1) HB.out (by omega) (by omega) (by omega)).mono ?_
        rintro e w2 ⟨a', cap', rfl, hO, hb2⟩
        go_wp2_with fail
        go_ret
        exact ⟨_, _, _, rfl, by rw [HR.out, ← HNS.out, ← eqP_mask]; exact hO.mono HB1.size, below_step HB1 hb2⟩
      · have hfo := foldI_byte b hb0 hb255
        obtain ⟨hf0, hf1⟩ := hfo
        have HF := Lib.hid (show foldOfI b = foldI b by unfold foldOfI; rw [if_pos ⟨hb0, hb255⟩])
        have HS := Lib.hid (foldS_size s)
        go_enter Try.func58, Try.ntmps58
        go_wp2_with fail
        refine (impl_colOk _ _ _ L a _ _ _ hs HL.out (h.kept (by repeat (first | exact Below.refl _ _ | assumption | (refine Below.drew ?_) | (refine below_drewN ?_ _) | (refine Below.alloc ?_ (by first | omega | (simp; done) | (simp; omega)) _) | (refine Below.setCell ?_ (by first | omega | (simp; done) | (simp; omega)) _)))) hlen).mono ?_
        rintro e w1 ⟨rfl, hb1⟩; rw [HC.out]; obtain ⟨hc1, hf1⟩ := bcell hb1; have hz1 : w.heap.size < w1.heap.size := (by have := hb1.size; (try simp at this); omega); have HB1 : Below w.heap.size w w1 := below_step (by repeat (first | exact Below.refl _ _ | assumption | (refine Below.drew ?_) | (refine below_drewN ?_ _) | (refine Below.alloc ?_ (by first | omega | (simp; done) | (simp; omega)) _) | (refine Below.setCell ?_ (by first | omega | (simp; done) | (simp; omega)) _))) hb1
        go_wp2_with (first | (go_at_call 105; refine (isByte_any _ _).mono ?_; rintro e w' ⟨rfl, rfl⟩; rw [HI.out]) | (go_at_call 106; refine (impl_folded _ _ (by omega)).mono ?_; rintro e w2 ⟨rfl, hb2⟩; have HB2 := below_step HB1 hb2) | (go_at_call 107; refine (impl_foldOf _ _).mono ?_; rintro e w3 ⟨rfl, hb3⟩; rw [HF.out]; have HB3 := below_step HB2 hb3))
        refine (impl_nextColumn (foldS s) L a n cap 0 (foldI b) s.size _ (by rw [HS.out]; exact hs) (by rw [HS.out]; exact HNS.out) HL.out (h.kept HB3) (by rw [HS.out]; exact HB.out) (by omega) (by omega) (by omega)).mono ?_
        rintro e w4 ⟨a', cap', rfl, hO, hb4⟩
        go_wp2_with fail
        go_ret
        exact ⟨_, _, _, rfl, by rw [HR.out, ← eqP_fold, ← HNS.out]; exact hO.mono HB3.size, below_step HB3 hb4⟩
theorem nextColL_len (s : ByteArray) (k : Int) (f : Bool) (b : Int) (L : List Int) (hs : s.size ≤ 1048576) : (nextColL s k f b L).length ≤ 1048577 := by
  unfold nextColL; split
  · rw [tab_length]; omega
  · simp
end Go.Proofs.Ytglldmfhjipacaa

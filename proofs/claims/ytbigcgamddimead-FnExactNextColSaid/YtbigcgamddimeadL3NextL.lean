/-
  Chapter 3: NextCol, in the program and in its model; FnExactNextCol's walk.
-/
import Derived.Test.YtbigcgamddimeadL3NextS
import Derived.Test.YtbigcgamddimeadL3OkS
namespace Go.Proofs.Ytbigcgamddimead
open Go.RowKit
set_option linter.unusedVariables false
def nextColB (s : ByteArray) (k : Int) (b : Int) (L : List Int) : Bool := colOkB (patOk s k) s.size L && inB b 0 255
def nextColL (s : ByteArray) (k : Int) (f : Bool) (b : Int) (L : List Int) : List Int := if nextColB s k b L then tab (nextAt (maskG s f b) (intAt L) 0) (s.size + 1) else []
theorem colOkB_bnd {ok : Bool} {n : Nat} {L : List Int} (h : colOkB ok n L = true) : Bnd (intAt L) n n := by
  intro i hi
  obtain ⟨_, h1, h2⟩ := (colOkB_iff _ _ _).1 h
  have := stepsB_bnd h2 i (by omega)
  omega
theorem eqP_mask (s : ByteArray) (b : Int) (n : Nat) (C : Nat → Int) (head : Int) : tab (nextAt (eqP s b) C head) n = tab (nextAt (maskG s false b) C head) n := rfl
theorem eqP_fold (s : ByteArray) (b : Int) (C : Nat → Int) (head : Int) : tab (nextAt (eqP (foldS s) (foldI b)) C head) (s.size + 1) = tab (nextAt (maskG s true b) C head) (s.size + 1) := by
  apply tab_congr
  intro i hi
  refine nextAt_congr (n := s.size) (fun j hj => ?_) (fun _ _ => rfl) i (by omega)
  have h2 : j < (foldS s).size := by rw [foldS_size]; exact hj
  rw [maskG_fold s b j h2, eqP_at _ _ _ h2]
theorem isByte_any (b : Int) (w : World) :
    Calls Try.prog 38 #[.int .i64 b] w fun e w' => e = .returned (.bool (inB b 0 255)) ∧ w = w' := by
  by_cases h1 : 0 ≤ b
  · by_cases h2 : b ≤ 255
    · have H := Lib.hid (inB_yes ⟨h1, h2⟩)
      go_enter Try.func38, Try.ntmps38
      go_wp2
      go_ret
      exact ⟨by rw [H.out]; rfl, rfl⟩
    · have H := Lib.hid (inB_no (n := b) (lo := 0) (hi := 255) (by omega))
      go_enter Try.func38, Try.ntmps38
      go_wp2
      go_ret
      exact ⟨by rw [H.out]; rfl, rfl⟩
  · have H := Lib.hid (inB_no (n := b) (lo := 0) (hi := 255) (by omega))
    go_enter Try.func38, Try.ntmps38
    go_wp2
    go_ret
    exact ⟨by rw [H.out]; rfl, rfl⟩
set_option maxHeartbeats 1000000 in
theorem spec_nextCol (s : ByteArray) (k : Int) (f : Bool) (L : List Int) (a : Option Addr) (n cap : Nat) (b : Int) (w : World) (hs : s.size ≤ 1048576) (hn : L.length = n) (h : Ints w a L) (hlen : n ≤ 1048577) (hwf : ∀ i, i < n → -9223372036854775808 ≤ intAt L i ∧ intAt L i ≤ 9223372036854775807) :
    Calls Try.prog 16 #[.agg #[.string s, .int .i64 k, .bool f], .slice a n cap, .int .i64 b] w fun e w' => ∃ a' n' cap', e = .returned (.slice a' n' cap') ∧ OwnN w' w.heap.size a' n' cap' (nextColL s k f b L) ∧ Below w.heap.size w w' := by
  have HW := Lib.hid hwf; clear hwf
  have HL := Lib.hid hn; clear hn
  cases hc : colOkB (patOk s k) s.size L
  · have HC := Lib.hid hc
    have HR := Lib.hid (show nextColL s k f b L = [] by unfold nextColL nextColB; rw [hc]; rfl)
    clear hc
    go_enter Try.func16, Try.ntmps16
    go_wp2_with fail
    refine (spec_colOk _ _ _ L a _ _ _ hs HL.out (h.kept (by repeat (first | exact Below.refl _ _ | assumption | (refine Below.drew ?_) | (refine below_drewN ?_ _) | (refine Below.alloc ?_ (by first | (simp; done) | (simp; omega)) _) | (refine Below.setCell ?_ (by first | (simp; done) | (simp; omega)) _)))) hlen HW.out).mono ?_
    rintro e w1 ⟨rfl, hb1⟩; rw [HC.out]; obtain ⟨hc1, hf1⟩ := bcell hb1; have hz1 : w.heap.size < w1.heap.size := (by have := hb1.size; (try simp at this); omega); have HB1 : Below w.heap.size w w1 := below_step (by repeat (first | exact Below.refl _ _ | assumption | (refine Below.drew ?_) | (refine below_drewN ?_ _) | (refine Below.alloc ?_ (by first | (simp; done) | (simp; omega)) _) | (refine Below.setCell ?_ (by first | (simp; done) | (simp; omega)) _))) hb1
    go_wp2_with fail
    go_ret
    exact ⟨_, _, _, rfl, by rw [HR.out]; exact ⟨rfl, World.ownsRow_made w1 #[] 0 (by omega) (by decide) rfl⟩, HB1.alloc HB1.size _⟩
  · cases hi : inB b 0 255
    · have HC := Lib.hid hc
      have HI := Lib.hid hi
      have HR := Lib.hid (show nextColL s k f b L = [] by unfold nextColL nextColB; rw [hc, hi]; rfl)
      clear hc hi
      go_enter Try.func16, Try.ntmps16
      go_wp2_with fail
      refine (spec_colOk _ _ _ L a _ _ _ hs HL.out (h.kept (by repeat (first | exact Below.refl _ _ | assumption | (refine Below.drew ?_) | (refine below_drewN ?_ _) | (refine Below.alloc ?_ (by first | (simp; done) | (simp; omega)) _) | (refine Below.setCell ?_ (by first | (simp; done) | (simp; omega)) _)))) hlen HW.out).mono ?_
      rintro e w1 ⟨rfl, hb1⟩; rw [HC.out]; obtain ⟨hc1, hf1⟩ := bcell hb1; have hz1 : w.heap.size < w1.heap.size := (by have := hb1.size; (try simp at this); omega); have HB1 : Below w.heap.size w w1 := below_step (by repeat (first | exact Below.refl _ _ | assumption | (refine Below.drew ?_) | (refine below_drewN ?_ _) | (refine Below.alloc ?_ (by first | (simp; done) | (simp; omega)) _) | (refine Below.setCell ?_ (by first | (simp; done) | (simp; omega)) _))) hb1
      go_wp2_with (go_at_call 36; refine (spec_l1In _ _ _ _).mono ?_; rintro e w' ⟨rfl, rfl⟩; rw [HI.out])
      go_ret
      exact ⟨_, _, _, rfl, by rw [HR.out]; exact ⟨rfl, World.ownsRow_made w1 #[] 0 (by omega) (by decide) rfl⟩, HB1.alloc HB1.size _⟩
    · have HC := Lib.hid hc
      have HI := Lib.hid hi
      have hb2 : 0 ≤ b ∧ b ≤ 255 := by simpa [inB] using hi
      obtain ⟨hb0, hb255⟩ := hb2
      have HR := Lib.hid (show nextColL s k f b L = tab (nextAt (maskG s f b) (intAt L) 0) (s.size + 1) by unfold nextColL nextColB; rw [hc, hi]; rfl)
      have HB := Lib.hid (colOkB_bnd hc)
      obtain ⟨_, hl2, _⟩ := (colOkB_iff _ _ _).1 hc
      have HNS := Lib.hid (HL.out.symm.trans hl2)
      clear hc hi hl2
      go_enter Try.func16, Try.ntmps16
      go_wp2_with fail
      refine (spec_colOk _ _ _ L a _ _ _ hs HL.out (h.kept (by repeat (first | exact Below.refl _ _ | assumption | (refine Below.drew ?_) | (refine below_drewN ?_ _) | (refine Below.alloc ?_ (by first | (simp; done) | (simp; omega)) _) | (refine Below.setCell ?_ (by first | (simp; done) | (simp; omega)) _)))) hlen HW.out).mono ?_
      rintro e w1 ⟨rfl, hb1⟩; rw [HC.out]; obtain ⟨hc1, hf1⟩ := bcell hb1; have hz1 : w.heap.size < w1.heap.size := (by have := hb1.size; (try simp at this); omega); have HB1 : Below w.heap.size w w1 := below_step (by repeat (first | exact Below.refl _ _ | assumption | (refine Below.drew ?_) | (refine below_drewN ?_ _) | (refine Below.alloc ?_ (by first | (simp; done) | (simp; omega)) _) | (refine Below.setCell ?_ (by first | (simp; done) | (simp; omega)) _))) hb1
      go_wp2_with (go_at_call 36; refine (spec_l1In _ _ _ _).mono ?_; rintro e w' ⟨rfl, rfl⟩; rw [HI.out])
      refine (spec_l3Next s f L a n cap 0 b s.size _ hs HNS.out HL.out (h.kept HB1) HB.out (by omega) (by omega) (by omega) hb0 hb255).mono ?_
      rintro e w2 ⟨a', cap', rfl, hO, hb2⟩
      go_wp2_with fail
      go_ret
      exact ⟨_, _, _, rfl, by rw [HR.out, ← HNS.out]; exact hO.mono HB1.size, below_step HB1 hb2⟩
set_option maxHeartbeats 1000000 in
theorem impl_nextCol (s : ByteArray) (k : Int) (f : Bool) (L : List Int) (a : Option Addr) (n cap : Nat) (b : Int) (w : World) (hs : s.size ≤ 1048576) (hn : L.length = n) (h : Ints w a L) (hlen : n ≤ 1048577) :
    Calls Try.prog 18 #[.agg #[.string s, .int .i64 k, .bool f], .slice a n cap, .int .i64 b] w fun e w' => ∃ a' n' cap', e = .returned (.slice a' n' cap') ∧ OwnN w' w.heap.size a' n' cap' (nextColL s k f b L) ∧ Below w.heap.size w w' := by
  have HL := Lib.hid hn; clear hn
  cases hc : colOkB (patOk s k) s.size L
  · have HC := Lib.hid hc
    have HR := Lib.hid (show nextColL s k f b L = [] by unfold nextColL nextColB; rw [hc]; rfl)
    clear hc
    go_enter Try.func18, Try.ntmps18
    go_wp2_with fail
    refine (impl_colOk _ _ _ L a _ _ _ hs HL.out (h.kept (by repeat (first | exact Below.refl _ _ | assumption | (refine Below.drew ?_) | (refine below_drewN ?_ _) | (refine Below.alloc ?_ (by first | (simp; done) | (simp; omega)) _) | (refine Below.setCell ?_ (by first | (simp; done) | (simp; omega)) _)))) hlen).mono ?_
    rintro e w1 ⟨rfl, hb1⟩; rw [HC.out]; obtain ⟨hc1, hf1⟩ := bcell hb1; have hz1 : w.heap.size < w1.heap.size := (by have := hb1.size; (try simp at this); omega); have HB1 : Below w.heap.size w w1 := below_step (by repeat (first | exact Below.refl _ _ | assumption | (refine Below.drew ?_) | (refine below_drewN ?_ _) | (refine Below.alloc ?_ (by first | (simp; done) | (simp; omega)) _) | (refine Below.setCell ?_ (by first | (simp; done) | (simp; omega)) _))) hb1
    go_wp2_with fail
    go_ret
    exact ⟨_, _, _, rfl, by rw [HR.out]; exact OwnN.nil _ _, HB1⟩
  · cases hi : inB b 0 255
    · have HC := Lib.hid hc
      have HI := Lib.hid hi
      have HR := Lib.hid (show nextColL s k f b L = [] by unfold nextColL nextColB; rw [hc, hi]; rfl)
      clear hc hi
      go_enter Try.func18, Try.ntmps18
      go_wp2_with fail
      refine (impl_colOk _ _ _ L a _ _ _ hs HL.out (h.kept (by repeat (first | exact Below.refl _ _ | assumption | (refine Below.drew ?_) | (refine below_drewN ?_ _) | (refine Below.alloc ?_ (by first | (simp; done) | (simp; omega)) _) | (refine Below.setCell ?_ (by first | (simp; done) | (simp; omega)) _)))) hlen).mono ?_
      rintro e w1 ⟨rfl, hb1⟩; rw [HC.out]; obtain ⟨hc1, hf1⟩ := bcell hb1; have hz1 : w.heap.size < w1.heap.size := (by have := hb1.size; (try simp at this); omega); have HB1 : Below w.heap.size w w1 := below_step (by repeat (first | exact Below.refl _ _ | assumption | (refine Below.drew ?_) | (refine below_drewN ?_ _) | (refine Below.alloc ?_ (by first | (simp; done) | (simp; omega)) _) | (refine Below.setCell ?_ (by first | (simp; done) | (simp; omega)) _))) hb1
      go_wp2_with (go_at_call 38; refine (isByte_any _ _).mono ?_; rintro e w' ⟨rfl, rfl⟩; rw [HI.out])
      go_ret
      exact ⟨_, _, _, rfl, by rw [HR.out]; exact OwnN.nil _ _, HB1⟩
    · have HC := Lib.hid hc
      have HI := Lib.hid hi
      have hb2 : 0 ≤ b ∧ b ≤ 255 := by simpa [inB] using hi
      obtain ⟨hb0, hb255⟩ := hb2
      have HR := Lib.hid (show nextColL s k f b L = tab (nextAt (maskG s f b) (intAt L) 0) (s.size + 1) by unfold nextColL nextColB; rw [hc, hi]; rfl)
      have HB := Lib.hid (colOkB_bnd hc)
      obtain ⟨_, hl2, _⟩ := (colOkB_iff _ _ _).1 hc
      have HNS := Lib.hid (HL.out.symm.trans hl2)
      clear hc hi hl2
      cases f
      · go_enter Try.func18, Try.ntmps18
        go_wp2_with fail
        refine (impl_colOk _ _ _ L a _ _ _ hs HL.out (h.kept (by repeat (first | exact Below.refl _ _ | assumption | (refine Below.drew ?_) | (refine below_drewN ?_ _) | (refine Below.alloc ?_ (by first | (simp; done) | (simp; omega)) _) | (refine Below.setCell ?_ (by first | (simp; done) | (simp; omega)) _)))) hlen).mono ?_
        rintro e w1 ⟨rfl, hb1⟩; rw [HC.out]; obtain ⟨hc1, hf1⟩ := bcell hb1; have hz1 : w.heap.size < w1.heap.size := (by have := hb1.size; (try simp at this); omega); have HB1 : Below w.heap.size w w1 := below_step (by repeat (first | exact Below.refl _ _ | assumption | (refine Below.drew ?_) | (refine below_drewN ?_ _) | (refine Below.alloc ?_ (by first | (simp; done) | (simp; omega)) _) | (refine Below.setCell ?_ (by first | (simp; done) | (simp; omega)) _))) hb1
        go_wp2_with (go_at_call 38; refine (isByte_any _ _).mono ?_; rintro e w' ⟨rfl, rfl⟩; rw [HI.out])
        refine (impl_nextColumn s L a n cap 0 b s.size _ hs HNS.out HL.out (h.kept HB1) HB.out (by omega) (by omega) (by omega)).mono ?_
        rintro e w2 ⟨a', cap', rfl, hO, hb2⟩
        go_wp2_with fail
        go_ret
        exact ⟨_, _, _, rfl, by rw [HR.out, ← HNS.out, ← eqP_mask]; exact hO.mono HB1.size, below_step HB1 hb2⟩
      · have hfo := foldI_byte b hb0 hb255
        obtain ⟨hf0, hf1⟩ := hfo
        have HF := Lib.hid (show foldOfI b = foldI b by unfold foldOfI; rw [if_pos ⟨hb0, hb255⟩])
        have HS := Lib.hid (foldS_size s)
        go_enter Try.func18, Try.ntmps18
        go_wp2_with fail
        refine (impl_colOk _ _ _ L a _ _ _ hs HL.out (h.kept (by repeat (first | exact Below.refl _ _ | assumption | (refine Below.drew ?_) | (refine below_drewN ?_ _) | (refine Below.alloc ?_ (by first | (simp; done) | (simp; omega)) _) | (refine Below.setCell ?_ (by first | (simp; done) | (simp; omega)) _)))) hlen).mono ?_
        rintro e w1 ⟨rfl, hb1⟩; rw [HC.out]; obtain ⟨hc1, hf1⟩ := bcell hb1; have hz1 : w.heap.size < w1.heap.size := (by have := hb1.size; (try simp at this); omega); have HB1 : Below w.heap.size w w1 := below_step (by repeat (first | exact Below.refl _ _ | assumption | (refine Below.drew ?_) | (refine below_drewN ?_ _) | (refine Below.alloc ?_ (by first | (simp; done) | (simp; omega)) _) | (refine Below.setCell ?_ (by first | (simp; done) | (simp; omega)) _))) hb1
        go_wp2_with (first | (go_at_call 38; refine (isByte_any _ _).mono ?_; rintro e w' ⟨rfl, rfl⟩; rw [HI.out]) | (go_at_call 39; refine (impl_folded _ _ (by omega)).mono ?_; rintro e w2 ⟨rfl, hb2⟩; have HB2 := below_step HB1 hb2) | (go_at_call 40; refine (impl_foldOf _ _).mono ?_; rintro e w3 ⟨rfl, hb3⟩; rw [HF.out]; have HB3 := below_step HB2 hb3))
        refine (impl_nextColumn (foldS s) L a n cap 0 (foldI b) s.size _ (by rw [HS.out]; exact hs) (by rw [HS.out]; exact HNS.out) HL.out (h.kept HB3) (by rw [HS.out]; exact HB.out) (by omega) (by omega) (by omega)).mono ?_
        rintro e w4 ⟨a', cap', rfl, hO, hb4⟩
        go_wp2_with fail
        go_ret
        exact ⟨_, _, _, rfl, by rw [HR.out, ← eqP_fold, ← HNS.out]; exact hO.mono HB3.size, below_step HB3 hb4⟩
theorem nextColL_len (s : ByteArray) (k : Int) (f : Bool) (b : Int) (L : List Int) (hs : s.size ≤ 1048576) : (nextColL s k f b L).length ≤ 1048577 := by
  unfold nextColL; split
  · rw [tab_length]; omega
  · simp
set_option maxHeartbeats 2000000 in
theorem law_FnExactNextCol (s : ByteArray) (hs : s.size ≤ maxLen) (k : Int) (_wk : (Lit.int .i64 k).wf = true) (f : Bool) (a : Option Addr) (len cap : Nat) (z : List Int) (b : Int) (_wb : (Lit.int .i64 b).wf = true) (w : World) (hr : IsRow .i64 w a len cap z) :
    Calls Try.prog 4 #[.agg #[.string s, .int .i64 k, .bool f], .slice a len cap, .int .i64 b] w fun e w' => e = .returned (.bool true) ∧ Below w.heap.size w w' := by
  obtain ⟨hI, hln, hlm, hwf⟩ := ints_of_row hr
  clear hr
  generalize z.take len = L at *
  unfold maxLen at hs hlm
  by_cases hbl : len ≤ 1048576
  · by_cases hbig : (s.size : Int) ≤ 1048576
    · have H := Lib.hid (szI_yes hbig)
      have hs2 : s.size ≤ 1048576 := by omega
      have hl2 : len ≤ 1048577 := by omega
      have HW := Lib.hid hwf; clear hwf
      have HL := Lib.hid hln; clear hln
      have hnl := nextColL_len s k f b L hs2
      go_enter Try.func4, Try.ntmps4
      go_wp2_with fail
      refine (laws_szPattern _ _ _ _ _ (by omega) (by omega) (by omega)).mono ?_
      rintro e w1 ⟨rfl, hb1⟩
      rw [H.out]
      have HA := hb1; obtain ⟨hc, hf⟩ := bcell HA; have hz : w.heap.size < w1.heap.size := (by have := HA.size; (try simp at this); omega)
      go_wp2_with fail
      refine (laws_toPattern _ _ _ _).mono ?_
      rintro e w2 ⟨rfl, hb2⟩; replace HA := below_step HA hb2; clear hc hf; obtain ⟨hc, hf⟩ := bcell HA; replace hz : w.heap.size < w2.heap.size := (by have := HA.size; (try simp at this); omega)
      go_wp2_with fail
      refine (laws_toInt64S L a _ _ _ HL.out (hI.kept (below_step (by repeat (first | exact Below.refl _ _ | assumption | (refine Below.drew ?_) | (refine below_drewN ?_ _) | (refine Below.alloc ?_ (by first | (simp; done) | (simp; omega)) _) | (refine Below.setCell ?_ (by first | (simp; done) | (simp; omega)) _))) HA)) hl2).mono ?_
      rintro e w3 ⟨a0, cap0, rfl, hO0, hb3⟩; replace HA := below_step HA hb3; clear hc hf; obtain ⟨hc, hf⟩ := bcell HA; replace hz : w.heap.size < w3.heap.size := (by have := HA.size; (try simp at this); omega)
      go_wp2_with fail
      refine (spec_nextCol _ _ _ L a0 _ _ _ _ hs2 HL.out hO0.ints hl2 HW.out).mono ?_
      rintro e w4 ⟨a4, n4, cap4, rfl, hO4, hb4⟩; replace HA := below_step HA hb4; clear hc hf; obtain ⟨hc, hf⟩ := bcell HA; replace hz : w.heap.size < w4.heap.size := (by have := HA.size; (try simp at this); omega)
      clear hO0
      have hn4 : n4 ≤ 1048577 := by have := hO4.len; omega
      go_wp2_with fail
      refine (laws_toInt64S L a _ _ _ HL.out (hI.kept (below_step (by repeat (first | exact Below.refl _ _ | assumption | (refine Below.drew ?_) | (refine below_drewN ?_ _) | (refine Below.alloc ?_ (by first | (simp; done) | (simp; omega)) _) | (refine Below.setCell ?_ (by first | (simp; done) | (simp; omega)) _))) HA)) hl2).mono ?_
      rintro e w5 ⟨a5, cap5, rfl, hX, hb5⟩; have HB := hb5; clear hc hf; obtain ⟨hc, hf⟩ := bcell (below_step HA HB); replace hz : w.heap.size < w5.heap.size := (by have := (below_step HA HB).size; (try simp at this); omega)
      go_wp2_with fail
      refine (laws_toPattern _ _ _ _).mono ?_
      rintro e w6 ⟨rfl, hb6⟩; replace HB := below_step HB hb6; clear hc hf; obtain ⟨hc, hf⟩ := bcell (below_step HA HB); replace hz : w.heap.size < w6.heap.size := (by have := (below_step HA HB).size; (try simp at this); omega)
      replace hX := hX.kept hb6
      have hlt := hX.turn_lt
      go_wp2_with fail
      refine (impl_nextCol _ _ _ L a5 _ _ _ _ hs2 HL.out hX.ints hl2).mono ?_
      rintro e w7 ⟨a7, n7, cap7, rfl, hG, hb7⟩; replace HB := below_step HB hb7; clear hc hf; obtain ⟨hc, hf⟩ := bcell (below_step HA HB); replace hz : w.heap.size < w7.heap.size := (by have := (below_step HA HB).size; (try simp at this); omega)
      replace hX := hX.kept hb7
      have hn7 : n7 = n4 := hG.len.symm.trans hO4.len
      subst hn7
      go_wp2_with fail
      refine (laws_eqInt64S _ _ _ _ _ _ _ hG.len hG.ints (hO4.kept HB).ints hn4).mono ?_
      rintro e w8 ⟨rfl, hb8⟩; replace HB := below_step HB hb8; clear hc hf; obtain ⟨hc, hf⟩ := bcell (below_step HA HB); replace hz : w.heap.size < w8.heap.size := (by have := (below_step HA HB).size; (try simp at this); omega)
      replace hX := hX.kept hb8
      replace hG := hG.kept hb8
      go_wp2_with fail
      refine (laws_toInt64S L a _ _ _ HL.out (hI.kept (below_step (by repeat (first | exact Below.refl _ _ | assumption | (refine Below.drew ?_) | (refine below_drewN ?_ _) | (refine Below.alloc ?_ (by first | (simp; done) | (simp; omega)) _) | (refine Below.setCell ?_ (by first | (simp; done) | (simp; omega)) _))) (below_step HA HB))) hl2).mono ?_
      rintro e w9 ⟨a9, cap9, rfl, hT, hb9⟩; replace HB := below_step HB hb9; clear hc hf; obtain ⟨hc, hf⟩ := bcell (below_step HA HB); replace hz : w.heap.size < w9.heap.size := (by have := (below_step HA HB).size; (try simp at this); omega)
      replace hX := hX.kept hb9
      replace hG := hG.kept hb9
      go_wp2_with fail
      refine (laws_eqInt64S _ _ _ _ _ _ _ HL.out hX.ints hT.ints hl2).mono ?_
      rintro e w10 ⟨rfl, hb10⟩; replace HB := below_step HB hb10; clear hc hf; obtain ⟨hc, hf⟩ := bcell (below_step HA HB); replace hz : w.heap.size < w10.heap.size := (by have := (below_step HA HB).size; (try simp at this); omega)
      replace hX := hX.kept hb10
      replace hG := hG.kept hb10
      clear hT
      go_wp2_with fail
      refine (laws_markInt64S_g _ _ _ _ _ _ _ hX hl2 (by omega) (by omega)).mono ?_
      rintro e w11 ⟨M1, rfl, hX2, _, hg11⟩
      have hb11 := hX.turn HB.size hg11
      replace hG := hG.kept_hi hg11 hlt
      clear hX hX2 hg11
      replace HB := HB.trans hb11
      clear hc hf; obtain ⟨hc, hf⟩ := bcell (below_step HA HB); replace hz : w.heap.size < w11.heap.size := (by have := (below_step HA HB).size; (try simp at this); omega)
      have hk1 : ¬ ((1 : Int) + len < 0) := by omega
      go_wp2_with fail
      refine (laws_eqInt64S _ _ _ _ _ _ _ hG.len hG.ints (hO4.kept HB).ints hn4).mono ?_
      rintro e w12 ⟨rfl, hb12⟩; replace HB := below_step HB hb12; clear hc hf; obtain ⟨hc, hf⟩ := bcell (below_step HA HB); replace hz : w.heap.size < w12.heap.size := (by have := (below_step HA HB).size; (try simp at this); omega)
      replace hG := hG.kept hb12
      go_wp2_with fail
      refine (laws_markInt64S_g _ _ _ _ _ _ _ hG hn4 (by omega) (by omega)).mono ?_
      rintro e w13 ⟨M, rfl, hG2, hU, hg13⟩
      have hb13 := (hG.mono (C := w4.heap.size) (by have := hb5.size; have := hb6.size; omega)).turn HB.size hg13
      clear hG hg13
      replace HB := HB.trans hb13
      clear hc hf; obtain ⟨hc, hf⟩ := bcell (below_step HA HB); replace hz : w.heap.size < w13.heap.size := (by have := (below_step HA HB).size; (try simp at this); omega)
      go_wp2_with fail
      refine (laws_heldInt64S _ _ _ _ _ _ hG2.len hG2.ints hU hn4 (by omega) (by omega)).mono ?_
      rintro e w14 ⟨rfl, hb14⟩; replace HB := below_step HB hb14; clear hc hf; obtain ⟨hc, hf⟩ := bcell (below_step HA HB); replace hz : w.heap.size < w14.heap.size := (by have := (below_step HA HB).size; (try simp at this); omega)
      replace hG2 := hG2.kept hb14
      go_wp2_with fail
      refine (laws_toPattern _ _ _ _).mono ?_
      rintro e w15 ⟨rfl, hb15⟩; replace HB := below_step HB hb15; clear hc hf; obtain ⟨hc, hf⟩ := bcell (below_step HA HB); replace hz : w.heap.size < w15.heap.size := (by have := (below_step HA HB).size; (try simp at this); omega)
      replace hG2 := hG2.kept hb15
      go_wp2_with fail
      refine (laws_toInt64S L a _ _ _ HL.out (hI.kept (below_step (by repeat (first | exact Below.refl _ _ | assumption | (refine Below.drew ?_) | (refine below_drewN ?_ _) | (refine Below.alloc ?_ (by first | (simp; done) | (simp; omega)) _) | (refine Below.setCell ?_ (by first | (simp; done) | (simp; omega)) _))) (below_step HA HB))) hl2).mono ?_
      rintro e w16 ⟨a16, cap16, rfl, hT, hb16⟩; replace HB := below_step HB hb16; clear hc hf; obtain ⟨hc, hf⟩ := bcell (below_step HA HB); replace hz : w.heap.size < w16.heap.size := (by have := (below_step HA HB).size; (try simp at this); omega)
      replace hG2 := hG2.kept hb16
      go_wp2_with fail
      refine (impl_nextCol _ _ _ L a16 _ _ _ _ hs2 HL.out hT.ints hl2).mono ?_
      rintro e w17 ⟨a17, n17, cap17, rfl, hH, hb17⟩; replace HB := below_step HB hb17; clear hc hf; obtain ⟨hc, hf⟩ := bcell (below_step HA HB); replace hz : w.heap.size < w17.heap.size := (by have := (below_step HA HB).size; (try simp at this); omega)
      replace hG2 := hG2.kept hb17
      clear hT
      have hn17 : n17 = n7 := hH.len.symm.trans hO4.len
      subst hn17
      go_wp2_with fail
      refine (laws_eqInt64S _ _ _ _ _ _ _ hH.len hH.ints (hO4.kept HB).ints hn4).mono ?_
      rintro e w18 ⟨rfl, hb18⟩; replace HB := below_step HB hb18; clear hc hf; obtain ⟨hc, hf⟩ := bcell (below_step HA HB); replace hz : w.heap.size < w18.heap.size := (by have := (below_step HA HB).size; (try simp at this); omega)
      replace hG2 := hG2.kept hb18
      go_wp2_with fail
      refine (laws_heldInt64S _ _ _ _ _ _ hG2.len hG2.ints hU hn4 (by omega) (by omega)).mono ?_
      rintro e w19 ⟨rfl, hb19⟩; replace HB := below_step HB hb19; clear hc hf; obtain ⟨hc, hf⟩ := bcell (below_step HA HB); replace hz : w.heap.size < w19.heap.size := (by have := (below_step HA HB).size; (try simp at this); omega)
      go_wp2_with fail
      go_ret
      exact ⟨rfl, below_step (by repeat (first | exact Below.refl _ _ | assumption | (refine Below.drew ?_) | (refine below_drewN ?_ _) | (refine Below.alloc ?_ (by first | (simp; done) | (simp; omega)) _) | (refine Below.setCell ?_ (by first | (simp; done) | (simp; omega)) _))) (below_step HA HB)⟩
    · clear hwf hln
      go_enter Try.func4, Try.ntmps4
      have H := Lib.hid (szI_no hbig)
      go_wp2_with fail
      refine (laws_szPattern _ _ _ _ _ (by omega) (by omega) (by omega)).mono ?_
      rintro e w1 ⟨rfl, hb1⟩
      rw [H.out]
      have HA := hb1; obtain ⟨hc, hf⟩ := bcell HA; have hz : w.heap.size < w1.heap.size := (by have := HA.size; (try simp at this); omega)
      go_wp2_with fail
      go_ret
      exact ⟨rfl, below_step (by repeat (first | exact Below.refl _ _ | assumption | (refine Below.drew ?_) | (refine below_drewN ?_ _) | (refine Below.alloc ?_ (by first | (simp; done) | (simp; omega)) _) | (refine Below.setCell ?_ (by first | (simp; done) | (simp; omega)) _))) HA⟩
  · clear hwf hln
    go_enter Try.func4, Try.ntmps4
    go_wp2
    go_ret
    exact ⟨rfl, (by repeat (first | exact Below.refl _ _ | assumption | (refine Below.drew ?_) | (refine below_drewN ?_ _) | (refine Below.alloc ?_ (by first | (simp; done) | (simp; omega)) _) | (refine Below.setCell ?_ (by first | (simp; done) | (simp; omega)) _)))⟩
end Go.Proofs.Ytbigcgamddimead

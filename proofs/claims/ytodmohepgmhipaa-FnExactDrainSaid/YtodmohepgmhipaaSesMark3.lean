/-
  Sessions: the laws' mark on one whole, and their look at the marks.
-/
import Derived.Test.YtodmohepgmhipaaSesMark2
namespace Go.Proofs.Ytodmohepgmhipaa
open Go.RowKit
set_option linter.unusedVariables false
set_option maxRecDepth 100000
def sesN (s : Ses) : Int := (s.D.length : Int) * 3 + colSum s.C s.C.length + s.Q.length
def markSes (k : Int) (s : Ses) : Ses := { s with D := markPts k s.D.length, C := markC (k + (s.D.length : Int) * 3) s.C, Q := tab (fun i => k + (s.D.length : Int) * 3 + (colSum s.C s.C.length : Int) + i) s.Q.length }
theorem sesV_mark (ad ac aq : Option Addr) (cd cc cq nq : Nat) (k : Int) (s : Ses) : sesV ad ac aq cd cc cq nq (markSes k s) = sesV ad ac aq cd cc cq nq s := by
  unfold sesV markSes; simp only [markPts_length, markC_length]
theorem markSes_len (k : Int) (s : Ses) : ∀ i, i < s.C.length + 3 → sLen (markSes k s) i = sLen s i := fun i hi =>
  match i with
  | 0 => markPts_length _ _
  | 1 => markC_length _ _
  | 2 => tab_length _ _
  | j + 3 => markC_len _ _ _ (by omega)
theorem Lies.cols {B E : Nat} {ad ac aq : Option Addr} {cA : Nat → Option Addr} {s : Ses} (h : Lies B E (s.C.length + 3) (sSlot ad ac aq cA) (sLen s)) : Lies B E (s.C.length + 1) (cSlot ac cA) (cLen s.C.length s.C) := by
  have f : ∀ i, i < s.C.length + 1 → ∃ j, j < s.C.length + 3 ∧ cSlot ac cA i = sSlot ad ac aq cA j ∧ cLen s.C.length s.C i = sLen s j ∧ (j = if i = 0 then 1 else i + 2) := fun i hi =>
    match i with
    | 0 => ⟨1, by omega, rfl, rfl, rfl⟩
    | i + 1 => ⟨i + 3, by omega, rfl, rfl, rfl⟩
  refine ⟨fun i hi hn => ?_, fun i j hij hj ni nj g o g' o' e1 e2 => ?_⟩
  · obtain ⟨j, hj, e1, e2, _⟩ := f i hi
    rw [e2] at hn; rw [e1]; exact h.inn j hj hn
  · obtain ⟨i2, hi2, p1, p2, p3⟩ := f i (by omega)
    obtain ⟨j2, hj2, q1, q2, q3⟩ := f j hj
    rw [p2] at ni; rw [q2] at nj; rw [p1] at e1; rw [q1] at e2
    exact h.apart i2 j2 (by split at p3 <;> split at q3 <;> omega) hj2 ni nj g o g' o' e1 e2
set_option maxHeartbeats 4000000 in
theorem laws_markSession (s : Ses) (v : Value) (B E : Nat) (k : Int) (w : World) (h : SesW w B E v s) (hB : SesB 1048576 s) (hsum : colSum s.C s.C.length ≤ 1048576) (hk0 : 0 ≤ k) (hk1 : k ≤ 1000) :
    Calls Try.prog 31 #[v, .int .i64 k] w fun e w' => e = .returned (.int .i64 (k + sesN s)) ∧ SesW w' B E v (markSes k s) ∧ Trn (fun b => B ≤ b ∧ b < E) w w' := by
  obtain ⟨ad, ac, aq, cd, cc, cq, nq, cA, cC, P, rfl, hn, hp⟩ := h
  obtain ⟨hd, ht, hc, hr, hq⟩ := hB
  have hin0 : ∀ b, blkO ad s.D.length = some b → B ≤ b ∧ b < E := fun b hb => by
    have n2 : s.D.length ≠ 0 := fun e0 => by rw [e0] at hb; simp [blkO] at hb
    obtain ⟨g2, o2, e3, h1, h2⟩ := hp.lies.inn 0 (by omega) n2
    have e3' : ad = some ⟨g2, o2, none⟩ := e3
    rw [e3', blkO_some n2] at hb; cases hb; exact ⟨h1, h2⟩
  have hin2 : ∀ b, blkO aq (nq * 3) = some b → B ≤ b ∧ b < E := fun b hb => by
    have n2 : s.Q.length ≠ 0 := fun e0 => by rw [← hn, e0] at hb; simp [blkO] at hb
    obtain ⟨g2, o2, e3, h1, h2⟩ := hp.lies.inn 2 (by omega) n2
    have e3' : aq = some ⟨g2, o2, none⟩ := e3
    rw [e3', blkO_some (by rw [← hn]; exact n2)] at hb; cases hb; exact ⟨h1, h2⟩
  have hin3 : ∀ b, (∃ j, j < s.C.length ∧ blkO (cA j) (rowAt s.C j).length = some b) → B ≤ b ∧ b < E := fun b ⟨j, hj, hb⟩ => by
    have n2 : (rowAt s.C j).length ≠ 0 := fun e0 => by rw [e0] at hb; simp [blkO] at hb
    obtain ⟨g2, o2, e3, h1, h2⟩ := hp.lies.inn (j + 3) (by omega) n2
    have e3' : cA j = some ⟨g2, o2, none⟩ := e3
    rw [e3', blkO_some n2] at hb; cases hb; exact ⟨h1, h2⟩
  -- what is marked does not meet the other parts
  have far : ∀ (i j : Nat), i < s.C.length + 3 → j < s.C.length + 3 → i ≠ j → ∀ (n : Nat), n = sLen s j → ∀ g o, sSlot ad ac aq cA i = some ⟨g, o, none⟩ → sLen s i ≠ 0 → ¬ blkO (sSlot ad ac aq cA j) n = some g := fun i j hi hj hij n en g o e1 ni hb => by
    subst en
    have n2 : sLen s j ≠ 0 := fun e0 => by rw [e0] at hb; simp [blkO] at hb
    obtain ⟨g2, o2, e3, _, _⟩ := hp.lies.inn j hj n2
    rw [e3, blkO_some n2] at hb; cases hb
    exact hp.lies.ne hi hj hij ni n2 e1 e3 rfl
  have HF := Lib.hid far
  have HI := Lib.hid (And.intro hin0 (And.intro hin2 hin3))
  have HP := Lib.hid hp
  clear far hin0 hin2 hin3
  unfold sesV
  go_enter Try.func31, Try.ntmps31
  go_wp2_with fail
  have hb0 : Below w.heap.size w (w.alloc (.cells #[.slice ad s.D.length cd, .int .i64 s.r, .int .i64 s.b, .int .i64 s.a, .slice ac s.C.length cc, .slice aq nq cq, .bool s.z] 49)) := (by repeat (first | exact Below.refl _ _ | assumption | (refine Below.drew ?_) | (refine below_drewN ?_ _) | (refine Below.alloc ?_ (by first | omega | (simp; done) | (simp; omega)) _) | (refine Below.setCell ?_ (by first | omega | (simp; done) | (simp; omega)) _)))
  refine (markPats_w s.D P ad cd k _ HP.out.pat (HP.out.dict.kept hb0) (by omega) hk0 (by omega)).mono ?_
  rintro e w1 ⟨P1, rfl, hP1, hD1, ht1⟩
  have h1 := (HP.out.on (fun k hk _ _ => hb0.block k hk))
  have hC1 : ColsW w1 ac cA cC s.C := ⟨h1.cols.top.trn ht1 fun hV g o e1 => HF.out 1 0 (by omega) (by omega) (by omega) _ rfl g o e1 (colV_nil hV),
    fun j hj => Wr.trn (h1.cols.row j hj) ht1 fun hV g o e1 => HF.out (j + 3) 0 (by omega) (by omega) (by omega) _ rfl g o e1 (map_nil hV)⟩
  have hQ1 : WrI w1 aq s.Q := Wr.trn h1.que ht1 fun hV g o e1 => HF.out 2 0 (by omega) (by omega) (by omega) _ rfl g o e1 (map_nil hV)
  have hT1 : Trn (fun b => B ≤ b ∧ b < E) w w1 := (Trn.of_below hb0).trans (ht1.mono fun b _ hb => HI.out.1 b hb)
  have hcw : ∀ o x, (w.alloc (.cells #[.slice ad s.D.length cd, .int .i64 s.r, .int .i64 s.b, .int .i64 s.a, .slice ac s.C.length cc, .slice aq nq cq, .bool s.z] 49)).cell? ⟨w.heap.size, o, none⟩ = some x → w1.cell? ⟨w.heap.size, o, none⟩ = some x := fun o x hx => ht1.cell hx fun hb => by
    have n2 : s.D.length ≠ 0 := fun e0 => by rw [e0] at hb; simp [blkO] at hb
    obtain ⟨g2, o2, e3, h1, h2⟩ := Wr.at HP.out.dict 0 (by have := HP.out.pat.1; omega)
    rw [e3, blkO_some n2] at hb
    cases hb
    exact Nat.lt_irrefl _ h1
  have k4 := hcw 4 (.slice ac s.C.length cc) (by rw [World.cell?_alloc_new]; rfl)
  have k5 := hcw 5 (.slice aq nq cq) (by rw [World.cell?_alloc_new]; rfl)
  clear hcw
  go_wp2_with fail
  refine (markCols_w s.C ac cc cA cC B E _ _ hC1 HP.out.lies.cols hc hsum (by omega) (by omega)).mono ?_
  rintro e w2 ⟨rfl, hC2, ht2⟩
  have hrb : ∀ g, (∃ j, j < s.C.length ∧ blkO (cA j) (rowAt s.C j).length = some g) → g < w.heap.size := fun g ⟨j, hj, hb⟩ => by
    have n2 : (rowAt s.C j).length ≠ 0 := fun e0 => by rw [e0] at hb; simp [blkO] at hb
    obtain ⟨g2, o2, e3, h1, h2⟩ := Wr.at (HP.out.cols.row j hj) 0 (by simp; omega)
    rw [e3, blkO_some n2] at hb; cases hb; exact h1
  have hD2 : Wr w2 ad P1 := hD1.trn ht2 fun hV g o e1 ⟨j, hj, hb⟩ => HF.out 0 (j + 3) (by omega) (by omega) (by omega) _ rfl g o e1 (by have := hP1.nil_iff hV; rwa [markPts_length] at this) hb
  have hQ2 : WrI w2 aq s.Q := Wr.trn hQ1 ht2 fun hV g o e1 ⟨j, hj, hb⟩ => HF.out 2 (j + 3) (by omega) (by omega) (by omega) _ rfl g o e1 (map_nil hV) hb
  have hT2 := hT1.trans (ht2.mono fun b _ hb => HI.out.2.2 b hb)
  have k6 := ht2.cell k5 fun hb => Nat.lt_irrefl _ (hrb _ hb)
  have HT2 := Lib.hid hT2
  have HC2 := Lib.hid hC2
  have HD2 := Lib.hid hD2
  have HP1 := Lib.hid hP1
  have HQ2 := Lib.hid hQ2
  clear hrb hD2 hQ2 hT2 hT1 hQ1 hC1 h1 ht1 ht2 hC2 hD1 hP1 k4 k5
  go_wp2_with fail
  refine (markRecs_w s.Q aq nq cq _ _ hn HQ2.out (by omega) (by omega) (by omega)).mono ?_
  rintro e w3 ⟨rfl, hQ3, ht3⟩
  have hD3 : Wr w3 ad P1 := HD2.out.trn ht3 fun hV g o e1 => HF.out 0 2 (by omega) (by omega) (by omega) _ hn.symm g o e1 (by have := HP1.out.nil_iff hV; rwa [markPts_length] at this)
  have hC3 : ColsW w3 ac cA cC (markC (k + (s.D.length : Int) * 3) s.C) := ⟨HC2.out.top.trn ht3 fun hV g o e1 => HF.out 1 2 (by omega) (by omega) (by omega) _ hn.symm g o e1 (by rw [colV_markC] at hV; exact colV_nil hV),
    fun j hj => Wr.trn (HC2.out.row j hj) ht3 fun hV g o e1 => HF.out (j + 3) 2 (by rw [markC_length] at hj; omega) (by omega) (by omega) _ hn.symm g o e1 (by have := map_nil hV; rw [markC_len _ _ _ (by rwa [markC_length] at hj)] at this; exact this)⟩
  have hT3 := HT2.out.trans (ht3.mono fun b _ hb => HI.out.2.1 b hb)
  have HF3 := Lib.hid (show SesW w3 B E (sesV ad ac aq cd cc cq nq s) (markSes k s) from
    ⟨ad, ac, aq, cd, cc, cq, nq, cA, cC, P1, (sesV_mark _ _ _ _ _ _ _ _ _).symm, (tab_length _ _).trans hn, HP1.out, hD3, hC3, by rw [← hn] at hQ3; exact hQ3,
      by have h5 := HP.out.lies.congr (A' := sSlot ad ac aq cA) (fun _ _ => rfl) (markSes_len k s)
         rw [show (markSes k s).C.length = s.C.length from markC_length _ _]; exact h5⟩)
  have HT3 := Lib.hid hT3
  clear hD3 hC3 hT3 hQ3 ht3
  have hnum : k + (s.D.length : Int) * 3 + (colSum s.C s.C.length : Int) + (nq : Int) * 3 = k + sesN s := by unfold sesN; omega
  go_wp2_with fail
  go_ret
  exact ⟨rfl, HF3.out, HT3.out⟩
set_option maxHeartbeats 4000000 in
theorem laws_heldSession (s : Ses) (v : Value) (k : Int) (w : World) (h : SesV w v (markSes k s)) (hB : SesB 1048576 s) (hsum : colSum s.C s.C.length ≤ 1048576) (hk0 : 0 ≤ k) (hk1 : k ≤ 1000) :
    Calls Try.prog 32 #[v, .int .i64 k] w fun e w' => e = .returned (.int .i64 (k + sesN s)) ∧ Below w.heap.size w w' := by
  obtain ⟨ad, ac, aq, cd, cc, cq, nq, rfl, hn, hD, hC, hQ⟩ := h
  obtain ⟨hd, ht, hc, hr, hq⟩ := hB
  rw [sesV_mark]
  have hn' : s.Q.length = nq * 3 := (tab_length _ _).symm.trans hn
  have hQl : (markSes k s).Q.length = nq * 3 := hn
  have hU : UpTo (fun i => (k + (s.D.length : Int) * 3 + (colSum s.C s.C.length : Int)) + i) (nq * 3) (markSes k s).Q := fun i hi => by
    show intAt (tab _ s.Q.length) i = _
    rw [intAt_tab _ _ _ (by omega)]
  have HU := Lib.hid hU
  have HQ := Lib.hid hQl
  clear hU hQl hn
  have hnum : k + (s.D.length : Int) * 3 + (colSum s.C s.C.length : Int) + (nq : Int) * 3 = k + sesN s := by unfold sesN; omega
  have HN := Lib.hid hnum
  clear hnum
  unfold sesV
  go_enter Try.func32, Try.ntmps32
  go_wp2_with fail
  refine (heldPats_w ad s.D.length cd k _ (hD.kept (by repeat (first | exact Below.refl _ _ | assumption | (refine Below.drew ?_) | (refine below_drewN ?_ _) | (refine Below.alloc ?_ (by first | omega | (simp; done) | (simp; omega)) _) | (refine Below.setCell ?_ (by first | omega | (simp; done) | (simp; omega)) _)))) (by omega) hk0 (by omega)).mono ?_
  rintro e w1 ⟨rfl, hb1⟩
  obtain ⟨hc_w1, hf_w1⟩ := bcell hb1; have HT_w1 : Below w.heap.size w w1 := below_step (by repeat (first | exact Below.refl _ _ | assumption | (refine Below.drew ?_) | (refine below_drewN ?_ _) | (refine Below.alloc ?_ (by first | omega | (simp; done) | (simp; omega)) _) | (refine Below.setCell ?_ (by first | omega | (simp; done) | (simp; omega)) _))) hb1; have hz_w_w1 : w.heap.size < w1.heap.size := (by have h1 := hb1.size; (try simp at h1); omega)
  have n1 : ¬ (k + (s.D.length : Int) * 3 < 0) := by omega
  go_wp2_with fail
  refine (heldCols_w s.C ac cc _ _ (hC.kept HT_w1) hc hsum (by omega) (by omega)).mono ?_
  rintro e w2 ⟨rfl, hb2⟩
  obtain ⟨hc_w2, hf_w2⟩ := bcell hb2; have HT_w2 : Below w.heap.size w w2 := below_step (by repeat (first | exact Below.refl _ _ | assumption | (refine Below.drew ?_) | (refine below_drewN ?_ _) | (refine Below.alloc ?_ (by first | omega | (simp; done) | (simp; omega)) _) | (refine Below.setCell ?_ (by first | omega | (simp; done) | (simp; omega)) _))) hb2; have hz_w_w2 : w.heap.size < w2.heap.size := (by have h1 := hb2.size; (try simp at h1); omega)
  have n2 : ¬ (k + (s.D.length : Int) * 3 + (colSum s.C s.C.length : Int) < 0) := by omega
  go_wp2_with fail
  refine (laws_heldRecS _ aq nq cq _ _ HQ.out (hQ.kept HT_w2) HU.out (by omega) (by omega) (by omega)).mono ?_
  rintro e w3 ⟨rfl, hb3⟩
  obtain ⟨hc_w3, hf_w3⟩ := bcell hb3; have HT_w3 : Below w.heap.size w w3 := below_step (by repeat (first | exact Below.refl _ _ | assumption | (refine Below.drew ?_) | (refine below_drewN ?_ _) | (refine Below.alloc ?_ (by first | omega | (simp; done) | (simp; omega)) _) | (refine Below.setCell ?_ (by first | omega | (simp; done) | (simp; omega)) _))) hb3; have hz_w_w3 : w.heap.size < w3.heap.size := (by have h1 := hb3.size; (try simp at h1); omega)
  have n3 : ¬ (k + (s.D.length : Int) * 3 + (colSum s.C s.C.length : Int) + (nq : Int) * 3 < 0) := by omega
  go_wp2_with fail
  go_ret
  exact ⟨by rw [← HN.out]; rfl, HT_w3⟩
end Go.Proofs.Ytodmohepgmhipaa

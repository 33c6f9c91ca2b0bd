/-
  Chapter 7, the program: addKid.
-/
import Derived.Test.YtodmohepgmhipaaTrieMem
import Derived.Maps.AppendAt
namespace Go.Proofs.Ytodmohepgmhipaa
open Go.RowKit
set_option linter.unusedVariables false
set_option maxRecDepth 100000
theorem TM.on {w w1 : World} {B : Nat} {L : List Nd} {n : Nat} {A T : Nat → Nat} {F : Nat → Value} {ka : Nat → Option Addr} {kc : Nat → Nat} (h : TM w B L n A T F ka kc) (hb : ∀ k, k < w.heap.size → 2 ≤ T k → w1.heap[k]? = w.heap[k]?) : TM w1 B L n A T F ka kc :=
  ⟨fun i hi => (hb _ (h.lt hi) (by have := h.tag i hi; omega)).trans (h.blk i hi), fun i hi => (h.own i hi).on fun g hg => hb g ((h.own i hi).turn_lt g hg) (by have := h.tagk i hi g hg; omega), h.base, h.tag, h.tagk⟩
theorem TM.retag {w : World} {B : Nat} {L : List Nd} {n : Nat} {A T T' : Nat → Nat} {F : Nat → Value} {ka : Nat → Option Addr} {kc : Nat → Nat} (h : TM w B L n A T F ka kc) (ht : ∀ k, k < w.heap.size → T' k = T k) : TM w B L n A T' F ka kc :=
  ⟨h.blk, h.own, h.base, fun i hi => (ht _ (h.lt hi)).trans (h.tag i hi), fun i hi g hg => (ht _ ((h.own i hi).turn_lt g hg)).trans (h.tagk i hi g hg)⟩
theorem alloc2_low (w : World) (X Y : Obj) (k : Nat) (h : k < w.heap.size) : ((w.alloc X).alloc Y).heap[k]? = w.heap[k]? :=
  (Below.heap_alloc (w.alloc X) Y _ (by simp; omega)).trans (Below.heap_alloc w X _ h)
set_option maxHeartbeats 2000000 in
theorem impl_addKid (L : List Nd) (B n p : Nat) (A T : Nat → Nat) (F : Nat → Value) (ka : Nat → Option Addr) (kc : Nat → Nat) (w : World) (h : TM w B L n A T F ka kc) (hB : B ≤ w.heap.size)
    (hW : WellP L) (hn : n < L.length) (h0 : 0 < n) (hp : (ndAt L n).p = (p : Int)) (hpn : p < n) (hF : F n = .pointer none) (hl : L.length ≤ 400) :
    Calls Try.prog 99 #[.pointer (some ⟨A p, 0, none⟩), .int .i64 (ndAt L n).b, .int .i64 n] w fun e w' => e = .returned (.pointer (some ⟨w.heap.size, 0, none⟩)) ∧
      ∃ T' ka' kc', TM w' B L (n + 1) (upf A n w.heap.size) T' F ka' kc' ∧ (∀ k, k < w.heap.size → T' k = T k) ∧ (∀ k, k < w.heap.size → T k < 2 → w'.heap[k]? = w.heap[k]?) ∧ Below B w w' ∧ w.heap.size < w'.heap.size := by
  obtain ⟨i0, hi, ht0, ht1, ht2⟩ := info_parts ptr_info
  have hblk := h.blk p hpn
  have hlt := h.lt hpn
  have hown := h.own p hpn
  have hkl := KQ_length L n p
  have hdp := deepN_le hW p (by omega)
  have hne : (Value.slice (ka p) (KQ L n p).length (kc p)).ownBlock ≠ some (A p) := fun e => by
    have h1 := h.tag p hpn; have h2 := h.tagk p hpn _ e; omega
  have c2 : w.cell? ⟨A p, 2, none⟩ = some (.int .i64 (deepN L p)) := by rw [cell_of_row _ _ 2 _ _ _ hblk]; rfl
  have HBLK := Lib.hid hblk
  have HO := Lib.hid hown
  have HH := Lib.hid h
  have HP := Lib.hid hp
  have HF := Lib.hid hF
  have HW := Lib.hid hW
  have HNE := Lib.hid hne
  clear hblk hown h hp hF hW hne
  have dw : IntKind.i64.wrap ((deepN L p : Int) + 1) = (deepN L p : Int) + 1 := by rw [IntKind.wrap_i64]; omega
  generalize hq : (ndAt L n).b = q
  have HQ := Lib.hid hq
  clear hq
  have c5 : ∀ o, (w.alloc o).cell? ⟨A p, 5, none⟩ = some (.slice (ka p) (KQ L n p).length (kc p)) := fun o => by rw [cell_of_row _ _ 5 _ _ _ ((Below.heap_alloc w o _ hlt).trans HBLK.out)]; rfl
  go_enter Try.func99, Try.ntmps99
  go_wp2_with (at_builtin; refine wpList_append_own_at _ rfl _ _ 89 rfl B 92 i0 (.pointer none) 1 8 Try.underlying89 hi ht0 ht1 ht2 rfl (by decide) _ _ _ rfl ((HO.out.2.alloc _).alloc _) _ 1 1 [.pointer (some ⟨w.heap.size, 0, none⟩)] rfl rfl (fun j u hu => by have := one_new (w.alloc (.cells #[.int .i64 n, .int .i64 q, .int .i64 ((deepN L p : Int) + 1), .pointer (some ⟨A p, 0, none⟩), .pointer none, .slice none 0 0, .slice none 0 0] 94)) (.pointer (some ⟨w.heap.size, 0, none⟩)) 92 j u hu; simpa using this) (oneV rfl) (by unfold maxLen; omega) (by omega) (by simp; omega) ?_; intro v' w3 hown' hg _ hat; obtain ⟨a', c', rfl, hO⟩ := OwnV.shape (by rw [List.length_append, List.length_map]; simp) hown'; have hb2 : w3.heap[A p]? = some (.cells (nodeC L n A F (ka p) (kc p) p) 94 (0, 0)) := ((hg.block (A p) (by simp; omega) (fun e => HNE.out e.symm)).trans (alloc2_low _ _ _ _ hlt)).trans HBLK.out; have x5 : w3.cell? ⟨A p, 5, none⟩ = some (.slice (ka p) (KQ L n p).length (kc p)) := (by rw [cell_of_row _ _ 5 _ _ _ hb2]; rfl); have f5 : w3.frozen? ⟨A p, 5, none⟩ = false := frozen_of_row _ _ 5 _ _ hb2)
  go_ret
  have hg2 := hg.size
  have hs2 : ((w.alloc (.cells #[.int .i64 n, .int .i64 q, .int .i64 ((deepN L p : Int) + 1), .pointer (some ⟨A p, 0, none⟩), .pointer none, .slice none 0 0, .slice none 0 0] 94)).alloc (.cells #[.pointer (some ⟨w.heap.size, 0, none⟩)] 92)).heap.size = w.heap.size + 2 := by simp
  rw [hs2] at hg2
  have hkb : ∀ g, (Value.slice (ka p) (KQ L n p).length (kc p)).ownBlock = some g → g < w.heap.size := HO.out.turn_lt
  have hlow : ∀ k, k < w.heap.size → k ≠ A p → (Value.slice (ka p) (KQ L n p).length (kc p)).ownBlock ≠ some k → (w3.setCell ⟨A p, 5, none⟩ (.slice a' ((KQ L n p).length + 1) c')).heap[k]? = w.heap[k]? := fun k hk h1 h2 =>
    ((heap_setCell_other w3 ⟨A p, 5, none⟩ k _ h1).trans (hg.block k (by simp; omega) (fun e => h2 e.symm))).trans (alloc2_low _ _ _ _ hk)
  refine ⟨rfl, _, _, _, TM.add (a' := a') (c' := c') (gf := w.heap.size + 2) HH.out hB HW.out hn h0 HP.out hpn HF.out (by omega) ?_ ?_ ?_ ?_ hlow, ?_, ?_, ?_, ?_⟩
  · rw [heap_setCell_other w3 _ _ _ (by simp only; omega), hg.block _ (by simp; omega) (fun e => absurd (hkb _ e.symm) (Nat.lt_irrefl _)), heap_alloc2_old, HQ.out]
    rfl
  · rw [heap_setCell_same _ _ _ _ _ _ hb2]
    rfl
  · refine hO.on fun g hg' => heap_setCell_other w3 ⟨A p, 5, none⟩ g _ fun e => ?_
    rcases hat with h1 | h1
    · rw [hg'] at h1
      exact HNE.out (h1.symm.trans (congrArg some e))
    · rw [hg', hs2] at h1
      simp only [Option.some.injEq] at h1
      simp only at e
      omega
  · intro g hg'
    rcases hat with h1 | h1
    · exact .inl (h1.symm.trans hg')
    · rw [hg', hs2] at h1
      simp only [Option.some.injEq] at h1
      exact .inr h1
  · intro k hk
    rw [upf_other _ _ _ _ (by omega), upf_other _ _ _ _ (by omega)]
  · intro k hk ht
    exact hlow k hk (fun e => by have := HH.out.tag p hpn; rw [e] at ht; omega) (fun e => by have := HH.out.tagk p hpn k e; omega)
  · refine ⟨hg.os, hg.tape, hg.output, by simp [World.setCell]; omega, fun k hk => hlow k (by omega) (fun e => by have := HH.out.base p hpn; omega) (fun e => ?_)⟩
    have := (HO.out.2.lt k e).1
    omega
  · simp [World.setCell]; omega
end Go.Proofs.Ytodmohepgmhipaa

/-
  Chapter 7, the program: readFail; the longest beginning of a list that one could step through.
-/
import Derived.Test.YtodmohepgmhipaaTrieAdd
import Derived.LaidEqlPtr
namespace Go.Proofs.Ytodmohepgmhipaa
open Go.RowKit
set_option linter.unusedVariables false
set_option maxRecDepth 100000
theorem tnode_info : (Try.prog.info? 94).map (fun i => (i.zero, i.size, i.bytes)) = some (some (.agg #[.int .i64 0, .int .i64 0, .int .i64 0, .pointer none, .pointer none, .slice none 0 0, .slice none 0 0]), 7, 88) := by kernel_rfl
def nodesV (A : Nat → Nat) (n : Nat) : List Value := (List.range n).map fun i => .pointer (some ⟨A i, 0, none⟩)
theorem nodesV_length (A : Nat → Nat) (n : Nat) : (nodesV A n).length = n := by simp [nodesV]
theorem nodesV_at (A : Nat → Nat) (n i : Nat) (h : i < n) : valAt (nodesV A n) i = .pointer (some ⟨A i, 0, none⟩) := by
  simp [valAt, nodesV, List.getD_eq_getElem?_getD, h]
theorem nodesV_succ (A : Nat → Nat) (n g : Nat) : nodesV (upf A n g) (n + 1) = nodesV A n ++ [.pointer (some ⟨g, 0, none⟩)] := by
  unfold nodesV
  rw [List.range_succ, List.map_append]
  congr 1
  · apply List.map_congr_left
    intro j hj
    have : j ≠ n := by have := List.mem_range.1 hj; omega
    rw [upf_other _ _ _ _ this]
  · simp [upf_self]
theorem TM.congrF {w : World} {B : Nat} {L : List Nd} {n : Nat} {A T : Nat → Nat} {F F' : Nat → Value} {ka : Nat → Option Addr} {kc : Nat → Nat} (h : TM w B L n A T F ka kc) (hF : ∀ i, i < n → F' i = F i) : TM w B L n A T F' ka kc :=
  ⟨fun i hi => by rw [h.blk i hi]; unfold nodeC; rw [hF i hi], h.own, h.base, h.tag, h.tagk⟩
theorem TM.setFail {w : World} {B : Nat} {L : List Nd} {n : Nat} {A T : Nat → Nat} {F : Nat → Value} {ka : Nat → Option Addr} {kc : Nat → Nat} (h : TM w B L n A T F ka kc) (i : Nat) (hi : i < n) (v : Value) :
    TM (w.setCell ⟨A i, 4, none⟩ v) B L n A T (upf F i v) ka kc := by
  refine ⟨fun j hj => ?_, fun j hj => (h.own j hj).on fun g hg => heap_setCell_other w ⟨A i, 4, none⟩ g v fun e => ?_, h.base, h.tag, h.tagk⟩
  · by_cases e : j = i
    · subst e
      rw [heap_setCell_same _ _ _ _ _ _ (h.blk j hj)]
      unfold nodeC
      rw [upf_self]
      rfl
    · rw [heap_setCell_other w ⟨A i, 4, none⟩ (A j) v (fun e2 => by have h1 := h.tag i hi; have h2 := h.tag j hj; simp only at e2; rw [e2] at h2; omega), h.blk j hj]
      unfold nodeC
      rw [upf_other _ _ _ _ e]
  · have h1 := h.tag i hi; have h2 := h.tagk j hj g hg; simp only at e; rw [e] at h2; omega
/-- node i's fail may be that -/
def FailOk (L : List Nd) (i : Nat) : Prop := (0 ≤ (ndAt L i).f ∧ (ndAt L i).f ≤ (L.length : Int) - 1) ∧ (0 < i → deepN L (ndAt L i).f.toNat < deepN L i) ∧ (i = 0 → (ndAt L 0).f = 0)
set_option maxHeartbeats 2000000 in
theorem impl_readFail (L : List Nd) (B i c : Nat) (a : Option Addr) (A T : Nat → Nat) (F : Nat → Value) (ka : Nat → Option Addr) (kc : Nat → Nat) (w : World) (h : TM w B L L.length A T F ka kc) (hv : Vals w a (nodesV A L.length)) (hB : B ≤ w.heap.size)
    (hW : WellP L) (hi : i < L.length) (hF : F i = .pointer none) (hl : L.length ≤ 400) :
    Calls Try.prog 101 #[.slice a L.length c, .pointer (some ⟨A i, 0, none⟩), .int .i64 (ndAt L i).f] w fun e w' => ∃ r : Bool, e = .returned (.bool r) ∧ ((r = false ∧ ¬ FailOk L i) ∨ (r = true ∧ FailOk L i ∧ TM w' B L L.length A T (upf F i (flV L A i)) ka kc ∧ ∀ k, k < w.heap.size → T k < 2 → w'.heap[k]? = w.heap[k]?)) ∧ Below B w w' := by
  obtain ⟨b, off, rfl, hV⟩ := hv.at 0 (by rw [nodesV_length]; omega)
  have p0 := hV 0 (by rw [nodesV_length]; omega)
  rw [nodesV_at _ _ _ (by omega), Nat.add_zero] at p0
  obtain ⟨in0, hin, _, hin1, _⟩ := info_parts tnode_info
  have HH := Lib.hid h
  have HF := Lib.hid hF
  by_cases h0 : i = 0
  · subst h0
    have hfl : flV L A 0 = .pointer none := rfl
    have EQ : (binOp BinOp.eql 92 (.pointer (some ⟨A 0, 0, none⟩)) (.pointer (some ⟨A 0, 0, none⟩))).run Try.prog w = Result.ok (Value.bool true) w := run_eql_ptr_same w ⟨A 0, 0, none⟩ Try.underlying92 hin
    have HC := Lib.hid (show TM w B L L.length A T (upf F 0 (flV L A 0)) ka kc from h.congrF fun j hj => by
      by_cases e : j = 0
      · subst e; rw [upf_self, hF, hfl]
      · rw [upf_other _ _ _ _ e])
    have HV := Lib.hid hV
    clear h hF hV hv
    by_cases hz : (ndAt L 0).f = 0
    · have HZ := Lib.hid hz
      rw [hz]
      go_enter Try.func101, Try.ntmps101
      go_wp2
      go_ret
      exact ⟨true, rfl, .inr ⟨rfl, ⟨by rw [HZ.out]; omega, fun h => by omega, fun _ => HZ.out⟩, HC.out, fun _ _ _ => rfl⟩, Below.refl _ _⟩
    · have HZ := Lib.hid hz
      generalize hx : (ndAt L 0).f = x at *
      have hx0 : (x == 0) = false := by simp [hz]
      go_enter Try.func101, Try.ntmps101
      go_wp2
      go_ret
      exact ⟨false, rfl, .inl ⟨rfl, fun hc => HZ.out (by rw [← hx]; exact hc.2.2 rfl)⟩, Below.refl _ _⟩
  · have hne : A i ≠ A 0 := fun e => by
      have h1 := h.tag i hi; have h2 := h.tag 0 (by omega); rw [e] at h1; omega
    have EQ : (binOp BinOp.eql 92 (.pointer (some ⟨A i, 0, none⟩)) (.pointer (some ⟨A 0, 0, none⟩))).run Try.prog w = Result.ok (Value.bool false) w := run_eql_ptr_other w Try.underlying92 hin (by omega) (by intro e; simp only [Addr.mk.injEq] at e; exact hne e.1) (h.blk i hi) (h.blk 0 (by omega))
    have HV := Lib.hid hV
    have d2 : w.cell? ⟨A i, 2, none⟩ = some (.int .i64 (deepN L i)) := by rw [cell_of_row _ _ 2 _ _ _ (h.blk i hi)]; rfl
    clear hne hV hv hF
    by_cases h1 : 0 ≤ (ndAt L i).f
    · by_cases h2 : (ndAt L i).f ≤ (L.length : Int) - 1
      · obtain ⟨x, hx⟩ := Int.eq_ofNat_of_zero_le h1
        have hxl : x < L.length := by omega
        have p1 := HV.out x (by rw [nodesV_length]; exact hxl)
        rw [nodesV_at _ _ _ hxl] at p1
        have d3 : w.cell? ⟨A x, 2, none⟩ = some (.int .i64 (deepN L x)) := by rw [cell_of_row _ _ 2 _ _ _ (h.blk x hxl)]; rfl
        have d4 : w.cell? ⟨A i, 4, none⟩ = some (F i) := by rw [cell_of_row _ _ 4 _ _ _ (h.blk i hi)]; rfl
        have hfl : flV L A i = .pointer (some ⟨A x, 0, none⟩) := by unfold flV ptrOf; rw [if_neg h0, hx, Int.toNat_natCast]
        have g1 : decide ((x : Int) < 0) = false := decide_eq_false (by omega)
        have g2 : decide ((L.length : Int) ≤ (x : Int)) = false := decide_eq_false (by omega)
        have g3 : decide (L.length ≤ x) = false := decide_eq_false (by omega)
        have fz : w.frozen? ⟨A i, 4, none⟩ = false := frozen_of_row _ _ 4 _ _ (h.blk i hi)
        by_cases hd : deepN L x < deepN L i
        · have HFO := Lib.hid (show FailOk L i from ⟨⟨h1, h2⟩, fun _ => by rw [hx, Int.toNat_natCast]; exact hd, fun e => absurd e h0⟩)
          rw [hx]
          have g4 : decide ((deepN L i : Int) ≤ (deepN L x : Int)) = false := decide_eq_false (by omega)
          have g5 : decide (deepN L i ≤ deepN L x) = false := decide_eq_false (by omega)
          rw [HF.out] at d4
          clear h h1 h2 hx hd
          generalize deepN L x = dx at *
          generalize deepN L i = di at *
          go_enter Try.func101, Try.ntmps101
          go_wp2_with fail
          go_quiet (fail)
          have hbq : Below w.heap.size w (w.drewN nq) := below_drewN (Below.refl _ _) _
          have q1 := (hbq.cell (p := ⟨b, off + x, none⟩) (block_lt_of_cell p1)).trans p1
          have q4 := (hbq.cell (p := ⟨A i, 4, none⟩) (block_lt_of_cell d4)).trans d4
          have qz := (hbq.frozen (p := ⟨A i, 4, none⟩) (block_lt_of_cell d4)).trans fz
          have hTM := (HH.out.on (w1 := w.drewN nq) fun k hk _ => hbq.block k hk).setFail i hi (.pointer (some ⟨A x, 0, none⟩))
          have HTM := Lib.hid hTM
          clear hTM
          go_wp2
          go_ret
          refine ⟨true, rfl, .inr ⟨rfl, HFO.out, by rw [hfl]; exact HTM.out, fun k hk ht => ?_⟩, ?_⟩
          · exact (heap_setCell_other _ ⟨A i, 4, none⟩ k _ (fun e => by have := HH.out.tag i hi; simp only at e; rw [e] at ht; omega)).trans (hbq.block k hk)
          · exact (hbq.mono hB).setCell (HH.out.base i hi) _
        · have HNO := Lib.hid (show ¬ FailOk L i from fun hc => hd (by have := hc.2.1 (by omega); rwa [hx, Int.toNat_natCast] at this))
          rw [hx]
          have g4 : decide ((deepN L i : Int) ≤ (deepN L x : Int)) = true := decide_eq_true (by omega)
          have g5 : decide (deepN L i ≤ deepN L x) = true := decide_eq_true (by omega)
          clear h1 h2 hx hd d4 fz hfl
          generalize deepN L x = dx at *
          generalize deepN L i = di at *
          clear h
          go_enter Try.func101, Try.ntmps101
          go_wp2_with fail
          go_quiet (fail)
          go_wp2
          go_ret
          exact ⟨false, rfl, .inl ⟨rfl, HNO.out⟩, (below_drewN (Below.refl _ _) _).mono hB⟩
      · have HNO := Lib.hid (show ¬ FailOk L i from fun hc => h2 hc.1.2)
        generalize (ndAt L i).f = x at *
        have g1 : decide (x < 0) = false := decide_eq_false (by omega)
        have g2 : decide ((L.length : Int) ≤ x) = true := decide_eq_true (by omega)
        clear d2
        clear h
        go_enter Try.func101, Try.ntmps101
        go_wp2_with fail
        go_quiet (fail)
        go_wp2
        go_ret
        exact ⟨false, rfl, .inl ⟨rfl, HNO.out⟩, (below_drewN (Below.refl _ _) _).mono hB⟩
    · have HNO := Lib.hid (show ¬ FailOk L i from fun hc => h1 hc.1.1)
      generalize (ndAt L i).f = x at *
      have g1 : decide (x < 0) = true := decide_eq_true (by omega)
      clear d2
      clear h
      go_enter Try.func101, Try.ntmps101
      go_wp2_with fail
      go_quiet (fail)
      go_wp2
      go_ret
      exact ⟨false, rfl, .inl ⟨rfl, HNO.out⟩, (below_drewN (Below.refl _ _) _).mono hB⟩
end Go.Proofs.Ytodmohepgmhipaa

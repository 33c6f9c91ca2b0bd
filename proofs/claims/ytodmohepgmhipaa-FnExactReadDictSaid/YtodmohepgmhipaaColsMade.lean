/-
  Rows that a call makes one by one, in a slice that it made ahead.
-/
import Derived.Test.YtodmohepgmhipaaSes
import Derived.Test.YtodmohepgmhipaaIntLaw
namespace Go.Proofs.Ytodmohepgmhipaa
open Go.RowKit
set_option linter.unusedVariables false
set_option maxRecDepth 100000
theorem row_info : (Try.prog.info? 56).map (fun i => (i.zero, i.size, i.bytes)) = some (some (.slice none 0 0), 1, 24) := by kernel_rfl
def cSlot (ac : Option Addr) (cA : Nat → Option Addr) : Nat → Option Addr
  | 0 => ac
  | j + 1 => cA j
def cLen (n : Nat) (C : List (List Int)) : Nat → Nat
  | 0 => n
  | j + 1 => (rowAt C j).length
structure CMade (w : World) (B E g n k : Nat) (C : List (List Int)) (cu : Array Value) (cA : Nat → Option Addr) (cC : Nat → Nat) : Prop where
  blk : w.heap[g]? = some (.cells cu 56 (0, 0))
  siz : cu.size = n
  ent : ∀ j, j < k → cu[j]? = some (.slice (cA j) (rowAt C j).length (cC j))
  row : ∀ j, j < k → WrI w (cA j) (rowAt C j)
  lies : Lies B E (k + 1) (cSlot (some ⟨g, 0, none⟩) cA) (cLen n C)
theorem CMade.kept {w w1 : World} {B E g n k : Nat} {C : List (List Int)} {cu : Array Value} {cA : Nat → Option Addr} {cC : Nat → Nat} (h : CMade w B E g n k C cu cA cC) (hb : Below w.heap.size w w1) : CMade w1 B E g n k C cu cA cC :=
  ⟨(hb.block _ (lt_of_block h.blk)).trans h.blk, h.siz, h.ent, fun j hj => Wr.kept (h.row j hj) hb, h.lies⟩
theorem CMade.step {w : World} {B E E' g n k cap : Nat} {C : List (List Int)} {cu : Array Value} {cA : Nat → Option Addr} {cC : Nat → Nat} {a : Option Addr} (h : CMade w B E g n k C cu cA cC) (hk : k < n) (hgE : g < E) (hB : B ≤ E) (hE : E ≤ E')
    (ho : WrI w a (rowAt C k)) (hl : (rowAt C k).length ≠ 0 → ∃ g' o, a = some ⟨g', o, none⟩ ∧ E ≤ g' ∧ g' < E') :
    CMade (w.setCell ⟨g, k, none⟩ (.slice a (rowAt C k).length cap)) B E' g n (k + 1) C (cu.setIfInBounds k (.slice a (rowAt C k).length cap)) (upf cA k a) (upf cC k cap) := by
  have hlies : Lies B E' (k + 1 + 1) (cSlot (some ⟨g, 0, none⟩) (upf cA k a)) (cLen n C) := by
    have h1 := h.lies.congr (A' := cSlot (some ⟨g, 0, none⟩) (upf cA k a)) (N' := cLen n C) (fun i hi => by
      cases i with
      | zero => rfl
      | succ i => exact upf_other _ _ _ _ (by omega)) (fun _ _ => rfl)
    exact h1.more hB hE fun hn => by
      have := hl hn
      show ∃ g' o, upf cA k a k = _ ∧ _
      rw [upf_self]; exact this
  refine ⟨heap_setCell_same _ _ _ _ _ _ h.blk, by simpa using h.siz, fun j hj => ?_, fun j hj => ?_, hlies⟩
  · by_cases e : j = k
    · subst e
      rw [upf_self, upf_self, Array.getElem?_setIfInBounds, if_pos rfl, if_pos (by rw [h.siz]; exact hk)]
    · rw [upf_other _ _ _ _ e, upf_other _ _ _ _ e, Array.getElem?_setIfInBounds, if_neg (by omega)]
      exact h.ent j (by omega)
  · refine Wr.grown (r := some g) ?_ (grownBy_setCell1 w g k _) fun hV g' o' e1 e2 => ?_
    · by_cases e : j = k
      · subst e; rw [upf_self]; exact ho
      · rw [upf_other _ _ _ _ e]; exact h.row j (by omega)
    · cases e2
      exact hlies.apart 0 (j + 1) (by omega) (by omega) (by show n ≠ 0; omega) (map_nil hV) g 0 g o' rfl e1 rfl
theorem CMade.done {w : World} {B E g : Nat} {C : List (List Int)} {cu : Array Value} {cA : Nat → Option Addr} {cC : Nat → Nat} (h : CMade w B E g C.length C.length C cu cA cC) : ColsW w (some ⟨g, 0, none⟩) cA cC C := by
  refine ⟨.inr ⟨g, 0, rfl, fun i hi => ?_, fun i => frozen_of_row w g i _ _ h.blk⟩, h.row⟩
  rw [colV_length] at hi
  rw [Nat.zero_add, cell_of_row w g _ _ _ _ h.blk, h.ent i hi, colV_at _ _ _ _ hi]
/-- dictionary, rows and records that lie in three stretches of blocks -/
theorem Lies.ses {B E b0 e0 b1 e1 b2 e2 : Nat} {ad ac aq : Option Addr} {cA : Nat → Option Addr} {s : Ses} (h0 : s.D.length ≠ 0 → ∃ g o, ad = some ⟨g, o, none⟩ ∧ b0 ≤ g ∧ g < e0) (h1 : Lies b1 e1 (s.C.length + 1) (cSlot ac cA) (cLen s.C.length s.C))
    (h2 : s.Q.length ≠ 0 → ∃ g o, aq = some ⟨g, o, none⟩ ∧ b2 ≤ g ∧ g < e2) (d01 : e0 ≤ b1 ∨ e1 ≤ b0) (d02 : e0 ≤ b2 ∨ e2 ≤ b0) (d12 : e1 ≤ b2 ∨ e2 ≤ b1) (hB : B ≤ b0 ∧ B ≤ b1 ∧ B ≤ b2) (hE : e0 ≤ E ∧ e1 ≤ E ∧ e2 ≤ E) :
    Lies B E (s.C.length + 3) (sSlot ad ac aq cA) (sLen s) := by
  -- of each one: which stretch it lies in, and which row it is
  have cls : ∀ i, i < s.C.length + 3 → sLen s i ≠ 0 → ∀ g o, sSlot ad ac aq cA i = some ⟨g, o, none⟩ →
      (i = 0 ∧ b0 ≤ g ∧ g < e0) ∨ (i = 2 ∧ b2 ≤ g ∧ g < e2) ∨ (i ≠ 0 ∧ i ≠ 2 ∧ b1 ≤ g ∧ g < e1 ∧ ∃ j, j < s.C.length + 1 ∧ (if i = 1 then 0 else i - 2) = j ∧ cSlot ac cA j = some ⟨g, o, none⟩ ∧ cLen s.C.length s.C j ≠ 0) := fun i hi hn g o e => by
    match i, hi, hn, e with
    | 0, _, hn, e =>
      obtain ⟨g', o', e', p, q⟩ := h0 hn
      have e2 : ad = some ⟨g, o, none⟩ := e
      rw [e'] at e2; cases e2; exact .inl ⟨rfl, p, q⟩
    | 2, _, hn, e =>
      obtain ⟨g', o', e', p, q⟩ := h2 hn
      have e2 : aq = some ⟨g, o, none⟩ := e
      rw [e'] at e2; cases e2; exact .inr (.inl ⟨rfl, p, q⟩)
    | 1, _, hn, e =>
      obtain ⟨g', o', e', p, q⟩ := h1.inn 0 (by omega) hn
      have e2 : ac = some ⟨g, o, none⟩ := e
      have e3 : ac = some ⟨g', o', none⟩ := e'
      rw [e3] at e2; cases e2; exact .inr (.inr ⟨by omega, by omega, p, q, 0, by omega, rfl, e3, hn⟩)
    | j + 3, hi, hn, e =>
      obtain ⟨g', o', e', p, q⟩ := h1.inn (j + 1) (by omega) hn
      have e2 : cA j = some ⟨g, o, none⟩ := e
      have e3 : cA j = some ⟨g', o', none⟩ := e'
      rw [e3] at e2; cases e2; exact .inr (.inr ⟨by omega, by omega, p, q, j + 1, by omega, by rw [if_neg (by omega)]; rfl, e3, hn⟩)
  refine ⟨fun i hi hn => ?_, fun i j hij hj ni nj g o g' o' e1' e2' => ?_⟩
  · have : ∃ g o, sSlot ad ac aq cA i = some ⟨g, o, none⟩ := by
      match i, hi, hn with
      | 0, _, hn => obtain ⟨g, o, e, _⟩ := h0 hn; exact ⟨g, o, e⟩
      | 1, _, hn => obtain ⟨g, o, e, _⟩ := h1.inn 0 (by omega) hn; exact ⟨g, o, e⟩
      | 2, _, hn => obtain ⟨g, o, e, _⟩ := h2 hn; exact ⟨g, o, e⟩
      | j + 3, hi, hn => obtain ⟨g, o, e, _⟩ := h1.inn (j + 1) (by omega) hn; exact ⟨g, o, e⟩
    obtain ⟨g, o, e⟩ := this
    refine ⟨g, o, e, ?_⟩
    rcases cls i hi hn g o e with ⟨_, p, q⟩ | ⟨_, p, q⟩ | ⟨_, _, p, q, _⟩ <;> omega
  · rcases cls i (by omega) ni g o e1' with ⟨h, p, q⟩ | ⟨h, p, q⟩ | ⟨h, h', p, q, a, ha, ea, ca, na⟩ <;> rcases cls j hj nj g' o' e2' with ⟨k, p', q'⟩ | ⟨k, p', q'⟩ | ⟨k, k', p', q', b, hb, eb, cb, nb⟩ <;> try omega
    exact h1.ne ha hb (by rw [← ea, ← eb]; split <;> split <;> omega) na nb ca cb
set_option maxHeartbeats 2000000 in
theorem laws_toInt64SS (C : List (List Int)) (a : Option Addr) (cap : Nat) (w : World) (h : Cols w a C) (hlen : C.length ≤ 1048576) (hts : ∀ i, i < C.length → (rowAt C i).length ≤ 1048576) :
    Calls Try.prog 74 #[.slice a C.length cap] w fun e w' => ∃ cA cC, e = .returned (.slice (some ⟨w.heap.size, 0, none⟩) C.length C.length) ∧ ColsW w' (some ⟨w.heap.size, 0, none⟩) cA cC C ∧ Lies w.heap.size w'.heap.size (C.length + 1) (cSlot (some ⟨w.heap.size, 0, none⟩) cA) (cLen C.length C) ∧ Below w.heap.size w w' := by
  obtain ⟨i0, hi, hz0, hz1, hz2⟩ := info_parts row_info
  go_enter Try.func74, Try.ntmps74
  go_wp2_with (at_make; refine wpList_make_full _ rfl _ _ 43 rfl w.heap.size 56 i0 (.slice none 0 0) 1 Try.underlying43 hi hz0 hz1 _ _ _ _ C.length rfl rfl rfl rfl (by rw [hz2]; omega) (by unfold maxLen; omega) (Nat.le_refl _) ?_; intro w1 hown hg)
  obtain ⟨_, hmk⟩ := hown
  rcases hmk with ⟨hv, _⟩ | ⟨g, cap1, cur, hv, hge, hgg, hnc, hcm, hcs, _⟩
  · cases hv
  · simp only [Value.slice.injEq, Option.some.injEq, Addr.mk.injEq] at hv
    obtain ⟨⟨rfl, _⟩, _, rfl⟩ := hv
    have hB1 : Below w.heap.size w w1 := (Below.refl _ _).grown hg (Nat.le_refl _) (fun k hk => by cases hk)
    have hlt1 := lt_of_block hgg
    have hM1 : CMade w1 w.heap.size w1.heap.size w.heap.size C.length 0 C cur (fun _ => none) (fun _ => 0) := ⟨hgg, by omega, fun i hi => by omega, fun i hi => by omega,
      (Lies.zero w.heap.size w.heap.size _ _).more (Nat.le_refl _) hB1.size fun _ => ⟨_, 0, rfl, Nat.le_refl _, hlt1⟩⟩
    clear hgg hcs hge hcm hnc hg hlt1
    go_loopw [4] (fun i wr => ∃ (k : Nat) (cu : Array Value) (cA : Nat → Option Addr) (cC : Nat → Nat), k ≤ C.length ∧ i = .int .i64 k ∧ CMade wr w.heap.size wr.heap.size w.heap.size C.length k C cu cA cC ∧ Below w.heap.size w wr)
      (fun i _ => C.length - (intOf i).toNat)
    case atStart => exact ⟨0, _, _, _, by omega, rfl, hM1, hB1⟩
    case round =>
      obtain ⟨k, cu, cA, cC, hk, rfl, hM, hb⟩ := hrel
      by_cases hlt : k < C.length
      · obtain ⟨b, off, rfl, hp⟩ := (h.kept hb).at k hlt
        obtain ⟨a3, z3, c3, i3⟩ := hp k hlt
        have hs3 := hts k hlt
        have hgl := lt_of_block hM.blk
        have HM := Lib.hid hM
        clear hM hM1 h hp hts
        generalize hx : rowAt C k = x at *
        have HX := Lib.hid hx
        clear hx
        go_wp2_with fail
        refine (laws_toInt64S x _ _ _ _ rfl i3 (by omega)).mono ?_
        rintro e w2 ⟨a1, k1, rfl, hO1, hb2⟩
        have hM2 := HM.out.kept hb2
        have hg2 := hM2.blk
        have hsz := hM2.siz
        obtain ⟨v0, k0⟩ : ∃ v, w2.cell? ⟨w.heap.size, k, none⟩ = some v := ⟨cu[k]'(by omega), by rw [cell_of_row w2 _ _ _ _ _ hg2]; simp⟩
        have f0 := frozen_of_row w2 _ k _ _ hg2
        have hst := hM2.step (E' := w2.heap.size) (cap := k1) (a := a1) hlt hgl (by have := hb.size; omega) hb2.size (by rw [HX.out]; exact hO1.v.wr) (by rw [HX.out]; exact fun hn => hO1.v.lie hn)
        rw [HX.out] at hst
        have HST := Lib.hid hst
        have hB3 := (hb.trans (hb2.mono hb.size)).setCell (p := ⟨w.heap.size, k, none⟩) (Nat.le_refl _) (.slice a1 x.length k1)
        clear hst hM2 hg2 hsz hO1 hb2
        go_wp2_with fail
        go_roundw
        case rel => exact ⟨k + 1, _, _, _, by omega, by go_num, by simpa using HST.out, hB3⟩
        case measure => simp [intOf]; omega
      · obtain rfl : k = C.length := by omega
        go_wp2
        go_ret
        exact ⟨cA, cC, rfl, hM.done, hM.lies, hb⟩
end Go.Proofs.Ytodmohepgmhipaa

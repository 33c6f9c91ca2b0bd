/-
  Chapter 15, the program: a tree's nodes as pointers, while they are made: who lies where; kidAt, goDown.
-/
import Derived.Test.YtpniiaemgobaiabMTree
namespace Go.Proofs.Ytpniiaemgobaiab
open Go.RowKit
set_option linter.unusedVariables false
set_option maxRecDepth 100000
theorem bptr_info : (Try.prog.info? 60).map (fun i => (i.zero, i.size, i.bytes)) = some (some (.pointer none), 1, 8) := by kernel_rfl
theorem OwnV.onB {e m : Nat} {w w1 : World} {B : Nat} {a : Option Addr} {n cap : Nat} {V : List Value} (h : OwnV e m w B a n cap V) (hb : ∀ g, (Value.slice a n cap).ownBlock = some g → w1.heap[g]? = w.heap[g]?) : OwnV e m w1 B a n cap V := by
  refine ⟨h.1, h.2.1, ?_⟩
  rcases h.2.2 with h1 | ⟨g, c, cur, hv, hB, hg, r⟩
  · exact .inl h1
  · exact .inr ⟨g, c, cur, hv, hB, (hb g (by simp only [Value.slice.injEq] at hv; rw [hv.1]; rfl)).trans hg, r⟩
def upN {α : Type} (f : Nat → α) (i : Nat) (v : α) (j : Nat) : α := if j = i then v else f j
theorem upN_self {α : Type} (f : Nat → α) (i : Nat) (v : α) : upN f i v i = v := if_pos rfl
theorem upN_other {α : Type} (f : Nat → α) (i : Nat) (v : α) (j : Nat) (h : j ≠ i) : upN f i v j = f j := if_neg h
/-- the pointer to node k -/
def ptrB (A : Nat → Nat) (k : Nat) : Value := .pointer (some ⟨A k, 0, none⟩)
def ptrOB (A : Nat → Nat) : Option Nat → Value
  | none => .pointer none
  | some k => ptrB A k
def upV (L : List BkN) (A : Nat → Nat) (i : Nat) : Value := if i = 0 then .pointer none else ptrB A (bkAt L i).u.toNat
def nodeB (L : List BkN) (A : Nat → Nat) (ka : Option Addr) (kc : Nat) (i : Nat) : Array Value :=
  #[.int .i64 i, .string (bkAt L i).t, .int .i64 (bkAt L i).d, upV L A i, .slice ka (KB L i).length kc]
/-- all nodes lie in memory from block B on; T tells whose a block is -/
structure BM (w : World) (B : Nat) (L : List BkN) (A T : Nat → Nat) (ka : Nat → Option Addr) (kc : Nat → Nat) : Prop where
  blk : ∀ i, i < L.length → w.heap[A i]? = some (.cells (nodeB L A (ka i) (kc i) i) 63 (0, 0))
  own : ∀ i, i < L.length → OwnV 60 1 w B (ka i) (KB L i).length (kc i) ((KB L i).map (ptrB A))
  base : ∀ i, i < L.length → B ≤ A i
  tag : ∀ i, i < L.length → T (A i) = 2 * i + 2
  tagk : ∀ i, i < L.length → ∀ g, (Value.slice (ka i) (KB L i).length (kc i)).ownBlock = some g → T g = 2 * i + 3
section
variable {w w1 : World} {B : Nat} {L : List BkN} {A T T' : Nat → Nat} {ka : Nat → Option Addr} {kc : Nat → Nat}
theorem BM.lt (h : BM w B L A T ka kc) {i : Nat} (hi : i < L.length) : A i < w.heap.size := by
  have := h.blk i hi
  by_cases hlt : A i < w.heap.size
  · exact hlt
  · rw [Array.getElem?_eq_none (by omega)] at this; exact absurd this (by simp)
theorem BM.on (h : BM w B L A T ka kc) (hb : ∀ k, k < w.heap.size → 2 ≤ T k → w1.heap[k]? = w.heap[k]?) : BM w1 B L A T ka kc :=
  ⟨fun i hi => (hb _ (h.lt hi) (by have := h.tag i hi; omega)).trans (h.blk i hi), fun i hi => (h.own i hi).onB fun g hg => hb g ((h.own i hi).turn_lt g hg) (by have := h.tagk i hi g hg; omega), h.base, h.tag, h.tagk⟩
theorem BM.kept (h : BM w B L A T ka kc) (hb : Below w.heap.size w w1) : BM w1 B L A T ka kc := h.on fun k hk _ => hb.block k hk
theorem BM.retag (h : BM w B L A T ka kc) (ht : ∀ k, k < w.heap.size → T' k = T k) : BM w B L A T' ka kc :=
  ⟨h.blk, h.own, h.base, fun i hi => (ht _ (h.lt hi)).trans (h.tag i hi), fun i hi g hg => (ht _ ((h.own i hi).turn_lt g hg)).trans (h.tagk i hi g hg)⟩
theorem BM.empty (w : World) (B : Nat) (A T : Nat → Nat) (ka : Nat → Option Addr) (kc : Nat → Nat) : BM w B [] A T ka kc :=
  ⟨fun i hi => by simp at hi, fun i hi => by simp at hi, fun i hi => by simp at hi, fun i hi => by simp at hi, fun i hi => by simp at hi⟩
end
theorem ptrsB_at (A : Nat → Nat) (K : List Nat) (i : Nat) (h : i < K.length) : valAt (K.map (ptrB A)) i = ptrB A (K.getD i 0) := by
  simp [valAt, List.getD_eq_getElem?_getD, h]
theorem find_drop {p : Nat → Bool} {K : List Nat} {m : Nat} (h : m < K.length) : (K.drop m).find? p = if p (K.getD m 0) = true then some (K.getD m 0) else (K.drop (m + 1)).find? p := by
  have e : K.getD m 0 = K[m] := by simp [List.getD_eq_getElem?_getD, h]
  rw [List.drop_eq_getElem_cons h, e]
  by_cases hp : p K[m] = true
  · rw [if_pos hp, List.find?_cons_of_pos hp]
  · rw [if_neg hp, List.find?_cons_of_neg hp]
set_option maxHeartbeats 2000000 in
theorem impl_kidAt (L : List BkN) (B p : Nat) (A T : Nat → Nat) (ka : Nat → Option Addr) (kc : Nat → Nat) (d : Int) (w : World) (h : BM w B L A T ka kc) (hp : p < L.length) (hl : L.length ≤ 1048576) :
    Calls Try.prog 104 #[.pointer (some ⟨A p, 0, none⟩), .int .i64 d] w fun e w' => e = .returned (ptrOB A ((KB L p).find? (fun j => decide ((bkAt L j).d = d)))) ∧ w = w' := by
  have hA := h.blk p hp
  have c4 : w.cell? ⟨A p, 4, none⟩ = some (.slice (ka p) (KB L p).length (kc p)) := by rw [cell_of_row _ _ 4 _ _ _ hA]; rfl
  have HV := Lib.hid (h.own p hp).vals
  have HH := Lib.hid h
  have hkl := KB_len L p
  have HIN := Lib.hid (fun k (hk : k ∈ KB L p) => KB_in hk)
  generalize KB L p = K at *
  generalize ka p = ka' at *
  generalize kc p = kc' at *
  clear hA h
  go_enter Try.func104, Try.ntmps104
  go_wp2
  go_loopw [12] (fun j wr => ∃ m : Nat, m ≤ K.length ∧ j = .int .i64 m ∧ Hid ((K.drop m).find? (fun j => decide ((bkAt L j).d = d)) = K.find? (fun j => decide ((bkAt L j).d = d))) ∧ wr = w)
    (fun j _ => K.length - (intOf j).toNat)
  case atStart => exact ⟨0, by omega, rfl, Lib.hid rfl, rfl⟩
  case round =>
    obtain ⟨m, hm, rfl, hvv, rfl⟩ := hrel
    by_cases hlt : m < K.length
    · have e := hvv.out
      rw [find_drop hlt] at e
      obtain ⟨b4, o4, rfl, hI⟩ := HV.out.at m (by simpa using hlt)
      have d4 := hI m (by simpa using hlt)
      rw [ptrsB_at A K m hlt] at d4
      have hk := HIN.out (K.getD m 0) (by rw [List.getD_eq_getElem?_getD, List.getElem?_eq_getElem hlt]; exact List.getElem_mem hlt)
      have hA' := HH.out.blk _ hk.2.1
      generalize K.getD m 0 = y at *
      have e1 : wr.cell? ⟨A y, 2, none⟩ = some (.int .i64 (bkAt L y).d) := by rw [cell_of_row _ _ 2 _ _ _ hA']; rfl
      obtain ⟨x, hx⟩ : ∃ x, (bkAt L y).d = x := ⟨_, rfl⟩
      rw [hx] at e1 e
      clear hI hvv hA' hx hk
      unfold ptrB at d4
      by_cases hz : x = d
      · have HZ := Lib.hid (show K.find? (fun j => decide ((bkAt L j).d = d)) = some y by rw [← e, if_pos (by simpa using hz)])
        have g1 : (x == d) = true := by simpa using hz
        clear e hz
        go_wp2
        go_ret
        exact ⟨by rw [HZ.out]; rfl, rfl⟩
      · have HZ := Lib.hid (show (K.drop (m + 1)).find? (fun j => decide ((bkAt L j).d = d)) = K.find? (fun j => decide ((bkAt L j).d = d)) by rw [← e, if_neg (by simpa using hz)])
        have g1 : (x == d) = false := by simpa using hz
        clear e hz
        go_wp2
        go_roundw
        case rel => exact ⟨m + 1, by omega, by go_num, HZ, trivial⟩
        case measure => simp [intOf]; omega
    · obtain rfl : m = K.length := by omega
      have HE := Lib.hid (show K.find? (fun j => decide ((bkAt L j).d = d)) = none by rw [← hvv.out, List.drop_length]; rfl)
      clear hvv
      go_wp2
      go_ret
      exact ⟨by rw [HE.out]; rfl, rfl⟩
/-- how far from the end a node says that it stands -/
def plcM (n : Nat) (v : Value) (w : World) : Nat := match v with
  | .pointer (some ad) => match w.cell? ⟨ad.block, 0, none⟩ with
    | some (.int _ d) => n - d.toNat
    | _ => 0
  | _ => 0
theorem BM.plc {w : World} {B : Nat} {L : List BkN} {A T : Nat → Nat} {ka : Nat → Option Addr} {kc : Nat → Nat} (h : BM w B L A T ka kc) {i : Nat} (hi : i < L.length) : plcM L.length (.pointer (some ⟨A i, 0, none⟩)) w = L.length - i := by
  have c0 : w.cell? ⟨A i, 0, none⟩ = some (.int .i64 i) := by rw [cell_of_row _ _ 0 _ _ _ (h.blk i hi)]; rfl
  unfold plcM
  simp only [c0, Int.toNat_natCast]
set_option maxHeartbeats 4000000 in
theorem impl_goDown (L : List BkN) (B : Nat) (A T : Nat → Nat) (ka : Nat → Option Addr) (kc : Nat → Nat) (y : ByteArray) (w : World) (h : BM w B L A T ka kc) (hU : UpB L) (hP : PosB L) (h0 : 0 < L.length) (hl : L.length ≤ 1048576) (hS : ∀ i, i < L.length → (bkAt L i).t.size ≤ 1048576) (hy : y.size ≤ 1048576) :
    Calls Try.prog 78 #[.pointer (some ⟨A 0, 0, none⟩), .string y] w fun e w' => ∃ (q : Nat) (d : Int), e = .returned (.tuple #[.pointer (some ⟨A q, 0, none⟩), .int .i64 d]) ∧ q < L.length ∧ ((d ≠ 0 ∧ goB L y L.length 0 = some (q, d)) ∨ (d = 0 ∧ goB L y L.length 0 = none)) ∧ Below w.heap.size w w' := by
  have HH := Lib.hid h
  have HU := Lib.hid hU
  have HP := Lib.hid hP
  have HS := Lib.hid hS
  clear h hU hP hS
  go_enter Try.func78, Try.ntmps78
  go_wp2
  go_loopw [0] (fun v wr => ∃ p f : Nat, p < L.length ∧ v = .pointer (some ⟨A p, 0, none⟩) ∧ Hid (goB L y L.length 0 = goB L y f p) ∧ L.length ≤ p + f ∧ Below w.heap.size w wr)
    (fun v wr => plcM L.length v wr)
  case atStart => exact ⟨0, L.length, h0, rfl, Lib.hid rfl, by omega, Below.refl _ _⟩
  case round =>
    obtain ⟨p, f, hp, rfl, hG, hpf, hb⟩ := hrel
    obtain ⟨f, rfl⟩ : ∃ f', f = f' + 1 := ⟨f - 1, by omega⟩
    have hM := HH.out.kept hb
    have c1 : wr.cell? ⟨A p, 1, none⟩ = some (.string (bkAt L p).t) := by rw [cell_of_row _ _ 1 _ _ _ (hM.blk p hp)]; rfl
    have hs := HS.out p hp
    have hgo : goB L y (f + 1) p = if distI (bkAt L p).t y false = 0 then none else match kidB L p (distI (bkAt L p).t y false) (L.length - 1) 1 with
      | none => some (p, distI (bkAt L p).t y false)
      | some k => goB L y f k := rfl
    have hkk := fun d => kidB_KB HU.out hp d
    have hkn := kid_none HP.out p
    obtain ⟨x, hx⟩ : ∃ x, (bkAt L p).t = x := ⟨_, rfl⟩
    obtain ⟨d, hd⟩ : ∃ d, distI x y false = d := ⟨_, rfl⟩
    rw [hx] at c1 hs hgo
    rw [hd, hkk] at hgo
    have hku := fun (k : Nat) => kidB_up HU.out (p := p) (k := k) (d := d)
    rw [hkk] at hku
    have HD := Lib.hid hd
    have HM := Lib.hid hM
    have HB := Lib.hid hb
    have HGO := Lib.hid hgo
    clear hx hd hb hM hgo hkk
    cases hk : (KB L p).find? (fun j => decide ((bkAt L j).d = d)) with
    | none =>
      have HK := Lib.hid (show ptrOB A ((KB L p).find? (fun j => decide ((bkAt L j).d = d))) = .pointer none by rw [hk]; rfl)
      have HF : Hid ((d ≠ 0 ∧ goB L y L.length 0 = some (p, d)) ∨ (d = 0 ∧ goB L y L.length 0 = none)) := Lib.hid (by
        by_cases h0 : d = 0
        · exact .inr ⟨h0, by rw [hG.out, HGO.out, if_pos h0]⟩
        · exact .inl ⟨h0, by rw [hG.out, HGO.out, if_neg h0, hk]⟩)
      clear hk hku hkn
      go_wp2_with (first
        | (go_at_call 17; refine (impl_distance x y false _ hs hy).mono ?_; rintro e w2 ⟨rfl, hb2⟩; rw [HD.out]; have HM2 := Lib.hid (HM.out.kept hb2); have HB2 := Lib.hid (HB.out.trans (hb2.mono HB.out.size)); clear hb2)
        | (go_at_call 104; refine (impl_kidAt L B p A T ka kc d _ HM2.out hp hl).mono ?_; rintro e w3 ⟨rfl, rfl⟩; rw [HK.out]))
      go_ret2
      exact ⟨p, d, rfl, hp, HF.out, HB2.out⟩
    | some k =>
      have hd0 : d ≠ 0 := fun e => by rw [e] at hk; rw [hkn] at hk; cases hk
      obtain ⟨hk1, hk2⟩ := hku k hk
      have HK := Lib.hid (show ptrOB A ((KB L p).find? (fun j => decide ((bkAt L j).d = d))) = .pointer (some ⟨A k, 0, none⟩) by rw [hk]; rfl)
      have HF : Hid (goB L y L.length 0 = goB L y f k) := Lib.hid (by rw [hG.out, HGO.out, if_neg hd0, hk])
      clear hk hku hkn
      go_wp2_with (first
        | (go_at_call 17; refine (impl_distance x y false _ hs hy).mono ?_; rintro e w2 ⟨rfl, hb2⟩; rw [HD.out]; have HM2 := Lib.hid (HM.out.kept hb2); have HB2 := Lib.hid (HB.out.trans (hb2.mono HB.out.size)); clear hb2)
        | (go_at_call 104; refine (impl_kidAt L B p A T ka kc d _ HM2.out hp hl).mono ?_; rintro e w3 ⟨rfl, rfl⟩; rw [HK.out]))
      go_roundw
      case rel => exact ⟨k, f, hk2, rfl, HF, by omega, HB2.out⟩
      case measure => rw [HM2.out.plc hk2, HM.out.plc hp]; omega
end Go.Proofs.Ytpniiaemgobaiab

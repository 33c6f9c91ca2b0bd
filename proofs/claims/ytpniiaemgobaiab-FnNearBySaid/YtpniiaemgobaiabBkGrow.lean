/-
  Chapter 15, the program: growTree.
-/
import Derived.Test.YtpniiaemgobaiabBkAdd
import Derived.Test.YtpniiaemgobaiabStrLaw
import Derived.Maps.AppendAt
import Derived.Deep.AppendLies
import Derived.Deep.RegionLaw
namespace Go.Proofs.Ytpniiaemgobaiab
open Go.RowKit
set_option linter.unusedVariables false
set_option maxRecDepth 100000
def bptrs (A : Nat → Nat) (n : Nat) : List Value := (List.range n).map (ptrB A)
theorem bptrs_length (A : Nat → Nat) (n : Nat) : (bptrs A n).length = n := by simp [bptrs]
theorem bptrs_at (A : Nat → Nat) (n i : Nat) (h : i < n) : valAt (bptrs A n) i = ptrB A i := by simp [valAt, bptrs, List.getD_eq_getElem?_getD, h]
theorem bptrs_succ (A : Nat → Nat) (n g : Nat) : bptrs (upN A n g) (n + 1) = bptrs A n ++ [.pointer (some ⟨g, 0, none⟩)] := by
  unfold bptrs
  rw [List.range_succ, List.map_append, ptrsB_up (fun k hk => List.mem_range.1 hk)]
  simp [ptrB, upN_self]
theorem bkAt_szG {T : List BkN} {B : Nat} (h : ∀ b ∈ T, b.t.size ≤ B) (i : Nat) (hi : i < T.length) : (bkAt T i).t.size ≤ B := by
  unfold bkAt
  rw [List.getD_eq_getElem?_getD, List.getElem?_eq_getElem hi]
  exact h _ (List.getElem_mem hi)
def wn (n : Nat) (y : ByteArray) : Array Value := #[.int .i64 n, .string y, .int .i64 0, .pointer none, .slice none 0 0]
/-- behind 'n.up.kids = append(n.up.kids, n)': one node more -/
theorem BM.hang {wr Y w3 Z : World} {B : Nat} {L : List BkN} {A T : Nat → Nat} {ka : Nat → Option Addr} {kc : Nat → Nat} (hM : BM wr B L A T ka kc) (hU : UpB L) (y : ByteArray) (d : Int) (q : Nat) (hq : q < L.length) (hBr : B ≤ wr.heap.size) (ysz : wr.heap.size < Y.heap.size)
    (ylow : ∀ k, k < wr.heap.size → Y.heap[k]? = wr.heap[k]?)
    (yb : Y.heap[wr.heap.size]? = some (.cells #[.int .i64 L.length, .string y, .int .i64 d, ptrB A q, .slice none 0 0] 63 (0, 0)))
    {g3 cap3 : Nat} {K : List Nat} {kaq : Option Addr} {kcq : Nat} (hK : KB L q = K) (hka : ka q = kaq) (hkc : kc q = kcq)
    (hown3 : w3.ownsRow B 60 1 (.slice (some ⟨g3, 0, none⟩) (K.length + 1) cap3) (K.length + 1) (K.map (ptrB A) ++ [.pointer (some ⟨wr.heap.size, 0, none⟩)]))
    (hos : w3.os = Y.os) (htp : w3.tape = Y.tape) (hou : w3.output = Y.output) (hsz : Y.heap.size + 1 ≤ w3.heap.size)
    (hat3 : (Value.slice kaq K.length kcq).ownBlock = some g3 ∨ g3 = Y.heap.size + 1)
    (hgb : ∀ k, k < Y.heap.size → (Value.slice kaq K.length kcq).ownBlock ≠ some k → w3.heap[k]? = Y.heap[k]?)
    (hZ : w3.setCell ⟨A q, 4, none⟩ (.slice (some ⟨g3, 0, none⟩) (K.length + 1) cap3) = Z) :
    ∃ T' ka' kc', BM Z B (L ++ [⟨y, d, (q : Int)⟩]) (upN A L.length wr.heap.size) T' ka' kc' ∧ (∀ k, k < wr.heap.size → T' k = T k) ∧ (∀ k, k < wr.heap.size → T k < 2 → Z.heap[k]? = wr.heap[k]?) ∧ Below B Y Z ∧ Y.heap.size + 1 ≤ Z.heap.size := by
  have htq := hM.tag q hq
  have htk := hM.tagk q hq
  have hlq := hM.lt hq
  have hlk := (hM.own q hq).turn_lt
  have hbk := fun k hk => ((hM.own q hq).2.lt k hk).1
  rw [hK, hka, hkc] at htk hlk hbk
  have hne : (Value.slice kaq K.length kcq).ownBlock ≠ some (A q) := fun e => by have := htk _ e; omega
  have hb3 : w3.heap[A q]? = some (.cells (nodeB L A kaq kcq q) 63 (0, 0)) := by
    rw [hgb _ (by omega) hne, ylow _ hlq, hM.blk q hq, hka, hkc]
  have zlow : ∀ k, k < Y.heap.size → k ≠ A q → (Value.slice kaq K.length kcq).ownBlock ≠ some k → Z.heap[k]? = Y.heap[k]? := fun k hk h1 h2 => by
    rw [← hZ]; exact (heap_setCell_other w3 ⟨A q, 4, none⟩ k _ h1).trans (hgb k hk h2)
  have hg3q : g3 ≠ A q := by
    rcases hat3 with h | h
    · intro e; rw [e] at h; exact hne h
    · omega
  have zs : Z.heap.size = w3.heap.size := by rw [← hZ]; simp [World.setCell]
  refine ⟨_, _, _, BM.add hM ⟨y, d, (q : Int)⟩ q wr.heap.size (Y.heap.size + 1) cap3 (some ⟨g3, 0, none⟩) hq rfl hU (Nat.le_refl _) (by omega) hBr ?_ ?_ ?_ ?_ ?_, ?_, ?_, ?_, by omega⟩
  · rw [zlow _ ysz (by omega) (fun e => absurd (hlk _ e) (Nat.lt_irrefl _))]; exact yb
  · rw [← hZ, heap_setCell_same _ _ _ _ _ _ hb3, hK]; rfl
  · rw [hK]
    refine OwnV.onB (w := w3) ⟨by rw [List.length_append, List.length_map]; simp, hown3⟩ fun x hx => ?_
    simp only [Value.ownBlock, Option.some.injEq] at hx
    subst hx
    rw [← hZ]; exact heap_setCell_other w3 ⟨A q, 4, none⟩ _ _ hg3q
  · intro x hx
    simp only [Value.ownBlock, Option.some.injEq] at hx
    subst hx
    rw [hK, hka, hkc]
    exact hat3
  · intro k hk h1 h2
    rw [hK, hka, hkc] at h2
    rw [zlow k (by omega) h1 h2, ylow k hk]
  · intro k hk
    rw [upN_other _ _ _ _ (by omega), upN_other _ _ _ _ (by omega)]
  · intro k hk ht
    rw [zlow k (by omega) (fun e => by rw [e] at ht; omega) (fun e => by have := htk _ e; omega), ylow k hk]
  · refine ⟨by rw [← hZ]; exact hos, by rw [← hZ]; exact htp, by rw [← hZ]; exact hou, by omega, fun k hk => zlow k (by omega) (fun e => by have := hM.base q hq; omega) (fun e => by have := hbk _ e; omega)⟩
set_option maxHeartbeats 8000000 in
theorem impl_growTree (t : Nat → ByteArray) (n : Nat) (a : Option Addr) (cap : Nat) (w : World) (h : Vals w a (strL t n)) (hlen : n ≤ 30) (hts : ∀ i, i < n → (t i).size ≤ 1048576) :
    Calls Try.prog 43 #[.slice a n cap] w fun e w' => ∃ (a' : Option Addr) (c' : Nat) (A T : Nat → Nat) (ka : Nat → Option Addr) (kc : Nat → Nat), e = .returned (.slice a' (bkTo t n).length c') ∧ BM w' w.heap.size (bkTo t n) A T ka kc ∧
      OwnV 60 1 w' w.heap.size a' (bkTo t n).length c' (bptrs A (bkTo t n).length) ∧ Below w.heap.size w w' := by
  obtain ⟨i0, hi, ht0, ht1, ht2⟩ := info_parts bptr_info
  have HN := Lib.hid (strL_length t n)
  have HTS := Lib.hid hts
  have HV := Lib.hid h
  clear hts h
  go_enter Try.func43, Try.ntmps43
  go_wp2
  go_loopw [3, 9] (fun v i wr => ∃ (m ln c' : Nat) (a' : Option Addr) (L : List BkN) (A T : Nat → Nat) (ka : Nat → Option Addr) (kc : Nat → Nat), m ≤ n ∧ i = .int .i64 (m : Int) ∧ Hid (bkTo t m = L) ∧ Hid (L.length = ln) ∧ v = .slice a' ln c' ∧ BM wr w.heap.size L A T ka kc ∧
      OwnV 60 1 wr w.heap.size a' ln c' (bptrs A ln) ∧ (∀ g, (Value.slice a' ln c').ownBlock = some g → T g = 0) ∧ Below w.heap.size w wr)
    (fun _ i _ => n - (intOf i).toNat)
  case atStart => exact ⟨0, 0, 0, none, [], fun _ => 0, fun _ => 0, fun _ => none, fun _ => 0, by omega, rfl, Lib.hid rfl, Lib.hid rfl, rfl, BM.empty _ _ _ _ _ _, OwnV.nil _ _, fun g hg => by simp [Value.ownBlock] at hg, Below.refl _ _⟩
  case round =>
    obtain ⟨m, ln, c', a', L, A, T, ka, kc, hm, rfl, hL, hln, rfl, hM, hO, htag, hb⟩ := hrel
    by_cases hlt : m < n
    · obtain ⟨b, off, rfl, hp⟩ := (HV.out.kept hb).at m (by rw [HN.out]; exact hlt)
      have c0 := hp m (by rw [HN.out]; exact hlt)
      rw [strL_at t n m hlt] at c0
      have hsz := HTS.out m hlt
      have hll : ln ≤ 30 := by have := bkTo_len t m; rw [hL.out, hln.out] at this; omega
      have HST := Lib.hid (show bkTo t (m + 1) = addB L (t m) by rw [← hL.out]; rfl)
      have HU := Lib.hid (show UpB L by rw [← hL.out]; exact bkTo_up t m)
      have HP := Lib.hid (show PosB L by rw [← hL.out]; exact bkTo_pos t m)
      have HSZ := Lib.hid (show ∀ b ∈ L, b.t.size ≤ 1048576 by rw [← hL.out]; exact bkTo_sz HTS.out m hm)
      obtain ⟨y, hy⟩ : ∃ y, t m = y := ⟨_, rfl⟩
      rw [hy] at c0 hsz
      have HY := Lib.hid hy
      have HM := Lib.hid hM
      have HO := Lib.hid hO
      have HB := Lib.hid hb
      have HTAG := Lib.hid htag
      clear hp hy hM hO hb htag
      by_cases h0 : ln = 0
      · subst h0
        have hL0 : L = [] := List.eq_nil_of_length_eq_zero hln.out
        subst hL0
        have HA := Lib.hid (show bkTo t (m + 1) = [⟨y, 0, 0⟩] by rw [HST.out, HY.out]; rfl)
        have hob : ∀ k, (Value.slice a' 0 c').ownBlock = some k → k < wr.heap.size := HO.out.turn_lt
        go_wp2_with (at_builtin; refine wpList_append_own_at _ rfl _ _ 58 rfl w.heap.size 60 i0 (.pointer none) 1 8 Try.underlying58 hi ht0 ht1 ht2 rfl (by decide) _ _ _ rfl ((HO.out.2.alloc _).alloc _) _ 1 1 [.pointer (some ⟨wr.heap.size, 0, none⟩)] rfl rfl (fun j u hu => by have := cells_new (wr.alloc (.cells (wn 0 y) 63)) #[Value.pointer (some ⟨wr.heap.size, 0, none⟩)] 60 j u hu; simpa [wn] using this) (oneV rfl) (by unfold maxLen; omega) (by omega) (by have := HB.out.size; simp; omega) ?_; intro v' w3 hown' hg _ hat; obtain ⟨a3, c3, rfl, hO3⟩ := OwnV.shape (by rw [List.length_append, bptrs_length]; simp) hown')
        have hs2 : ((wr.alloc (.cells (wn 0 y) 63)).alloc (.cells #[.pointer (some ⟨wr.heap.size, 0, none⟩)] 60)).heap.size = wr.heap.size + 2 := by simp
        have hbs := HB.out.size
        have hnew : w3.heap[wr.heap.size]? = some (.cells (wn 0 y) 63 (0, 0)) := by
          rw [hg.block _ (by simp; omega) (fun e => absurd (hob _ e.symm) (Nat.lt_irrefl _)), heap_alloc2_old]; rfl
        have HM3 := Lib.hid (BM.one (w4 := w3) ⟨y, 0, 0⟩ wr.heap.size hbs rfl hnew)
        have HB3 := Lib.hid (show Below w.heap.size w w3 from ((HB.out.alloc hbs _).alloc (by simp; omega) _).grown hg (by simp; omega) (fun j hj => (HO.out.2.lt j hj).1))
        have HO3 := Lib.hid (show OwnV 60 1 w3 w.heap.size a3 1 c3 (bptrs (fun _ => wr.heap.size) 1) from hO3)
        have HG3 := Lib.hid (show ∀ g, (Value.slice a3 1 c3).ownBlock = some g → (fun k => if k = wr.heap.size then 2 else 0) g = 0 from fun g hg' => by
          rcases hat with h1 | h1
          · have := hob g (h1.symm.trans hg')
            show (if g = wr.heap.size then 2 else 0) = 0
            rw [if_neg (by omega)]
          · have e : some g = some (wr.heap.size + 2) := by rw [← hg', h1]; exact congrArg some hs2
            injection e with e
            show (if g = wr.heap.size then 2 else 0) = 0
            rw [if_neg (by omega)])
        clear hown' hg hat hO3 hnew
        go_roundw
        case rel => exact ⟨m + 1, 1, c3, a3, _, _, _, _, _, by omega, by go_num, Lib.hid HA.out, Lib.hid rfl, rfl, HM3.out, HO3.out, HG3.out, HB3.out⟩
        case measure => simp [intOf]; omega
      · have h1 : 1 ≤ ln := by omega
        have hl0 : 0 < L.length := by rw [hln.out]; omega
        have hl1 : L.length ≤ 1048576 := by rw [hln.out]; omega
        have e0 : decide ((0 : Int) < (ln : Int)) = true := decide_eq_true (by omega)
        have HSI := Lib.hid (show ∀ i, i < L.length → (bkAt L i).t.size ≤ 1048576 from fun i hi => bkAt_szG HSZ.out i hi)
        have HADD : Hid (bkTo t (m + 1) = match goB L y L.length 0 with | none => L | some (p, d) => L ++ [⟨y, d, (p : Int)⟩]) := Lib.hid (by
          rw [HST.out, HY.out]
          unfold addB
          rw [if_neg (by intro h; rw [h] at hl0; exact absurd hl0 (Nat.lt_irrefl _))]
          rfl)
        obtain ⟨g, rfl, hgB, hgl⟩ := HO.out.head 0 (by omega)
        have hb1 : Below wr.heap.size wr (wr.alloc (.cells #[.int .i64 ln, .string y, .int .i64 0, .pointer none, .slice none 0 0] 63)) := (Below.refl _ _).alloc (Nat.le_refl _) _
        have d0 := (HO.out.kept hb1).cell 0 (by omega)
        rw [bptrs_at _ _ _ (by omega)] at d0
        unfold ptrB at d0
        have HM1 := Lib.hid (HM.out.kept hb1)
        have HB1 := Lib.hid hb1
        have hbs := HB.out.size
        clear hb1
        go_wp2_with fail
        refine (impl_goDown L w.heap.size A T ka kc y _ HM1.out HU.out HP.out hl0 hl1 HSI.out hsz).mono ?_
        rintro e w2 ⟨q, d, rfl, hq, hgo, hb2⟩
        have hblk : w2.heap[wr.heap.size]? = some (.cells #[.int .i64 ln, .string y, .int .i64 0, .pointer none, .slice none 0 0] 63 (0, 0)) := (hb2.block _ (by simp)).trans (heap_alloc_new wr _)
        have hlow : ∀ k, k < wr.heap.size → w2.heap[k]? = wr.heap[k]? := fun k hk => (hb2.block k (by simp; omega)).trans (HB1.out.block k hk)
        have hsz2 : wr.heap.size < w2.heap.size := by have := hb2.size; simp at this; omega
        have hB2 : Below w.heap.size w w2 := (HB.out.trans (HB1.out.mono hbs)).trans (hb2.mono (by simp; omega))
        have k3 : w2.cell? ⟨wr.heap.size, 3, none⟩ = some (.pointer none) := by rw [cell_of_row _ _ 3 _ _ _ hblk]; rfl
        have k2 : w2.cell? ⟨wr.heap.size, 2, none⟩ = some (.int .i64 0) := by rw [cell_of_row _ _ 2 _ _ _ hblk]; rfl
        have f3 : w2.frozen? ⟨wr.heap.size, 3, none⟩ = false := frozen_of_row _ _ 3 _ _ hblk
        have f2 : w2.frozen? ⟨wr.heap.size, 2, none⟩ = false := frozen_of_row _ _ 2 _ _ hblk
        obtain ⟨Y, hY⟩ : ∃ Y, (w2.setCell ⟨wr.heap.size, 3, none⟩ (.pointer (some ⟨A q, 0, none⟩))).setCell ⟨wr.heap.size, 2, none⟩ (.int .i64 d) = Y := ⟨_, rfl⟩
        have yb : Y.heap[wr.heap.size]? = some (.cells #[.int .i64 ln, .string y, .int .i64 d, .pointer (some ⟨A q, 0, none⟩), .slice none 0 0] 63 (0, 0)) := by
          rw [← hY, heap_setCell_same _ _ _ _ _ _ (heap_setCell_same _ _ _ _ _ _ hblk)]
          rfl
        have ylow : ∀ k, k < wr.heap.size → Y.heap[k]? = wr.heap[k]? := fun k hk => by
          rw [← hY, heap_setCell_other _ _ _ _ (by simp only; omega), heap_setCell_other _ _ _ _ (by simp only; omega)]; exact hlow k hk
        have ysz : wr.heap.size < Y.heap.size := by rw [← hY]; simpa [World.setCell] using hsz2
        have HYB := Lib.hid (show Below w.heap.size w Y by rw [← hY]; exact (hB2.setCell (by simp only; omega) _).setCell (by simp only; omega) _)
        have HMY := Lib.hid (show BM Y w.heap.size L A T ka kc from HM.out.on fun k hk _ => ylow k hk)
        have HOY := Lib.hid (show OwnV 60 1 Y w.heap.size (some ⟨g, 0, none⟩) ln c' (bptrs A ln) from HO.out.onB fun k hk => ylow k (HO.out.turn_lt k hk))
        have HYL := Lib.hid ylow
        have HYK := Lib.hid yb
        have HYY := Lib.hid hY
        clear ylow hlow hB2 hblk hY hb2 yb
        rcases hgo with ⟨hd, hgo⟩ | ⟨rfl, hgo⟩
        · have g1 : (d == 0) = false := by simpa using hd
          have HA := Lib.hid (show bkTo t (m + 1) = L ++ [⟨y, d, (q : Int)⟩] by rw [HADD.out, hgo])
          clear hgo hd
          go_wp2_with fail
          rw [HYY.out]
          have y3 : Y.cell? ⟨wr.heap.size, 3, none⟩ = some (.pointer (some ⟨A q, 0, none⟩)) := by rw [cell_of_row _ _ 3 _ _ _ HYK.out]; rfl
          have y4 : Y.cell? ⟨A q, 4, none⟩ = some (.slice (ka q) (KB L q).length (kc q)) := by rw [cell_of_row _ _ 4 _ _ _ (HMY.out.blk q hq)]; rfl
          have y3a : ∀ o, (Y.alloc o).cell? ⟨wr.heap.size, 3, none⟩ = some (.pointer (some ⟨A q, 0, none⟩)) := fun o => by rw [cell_of_row _ _ 3 _ _ _ ((Below.heap_alloc Y o _ ysz).trans HYK.out)]; rfl
          have y4a : ∀ o, (Y.alloc o).cell? ⟨A q, 4, none⟩ = some (.slice (ka q) (KB L q).length (kc q)) := fun o => by rw [cell_of_row _ _ 4 _ _ _ ((Below.heap_alloc Y o _ (HMY.out.lt hq)).trans (HMY.out.blk q hq))]; rfl
          clear k3 k2 f3 f2 c0 d0
          have hkl := KB_len L q
          have HOQ := Lib.hid (HMY.out.own q hq)
          have HBQ := Lib.hid (HMY.out.blk q hq)
          have HNE := Lib.hid (show (Value.slice (ka q) (KB L q).length (kc q)).ownBlock ≠ some (A q) from fun e => by
            have h1 := HMY.out.tag q hq; have h2 := HMY.out.tagk q hq _ e; omega)
          have HLT := Lib.hid (HMY.out.lt hq)
          have hys := HYB.out.size
          have HKB := Lib.hid (show ∀ k, (Value.slice (ka q) (KB L q).length (kc q)).ownBlock = some k → k < wr.heap.size from (HM.out.own q hq).turn_lt)
          have hln2 := hln.out
          have HLQ := Lib.hid (show A q < wr.heap.size from HM.out.lt hq)
          generalize hkq : KB L q = K at hkl HOQ HBQ HNE HKB y4 y4a
          generalize hkaq : ka q = kaq at HOQ HBQ HNE HKB y4 y4a
          generalize hkcq : kc q = kcq at HOQ HBQ HNE HKB y4 y4a
          have HKQ := Lib.hid hkq; have HKA := Lib.hid hkaq; have HKC := Lib.hid hkcq
          clear hkq hkaq hkcq
          go_region_law (refine step_append_lies _ rfl (.tmp 50) (.tmp 52) 58 rfl w.heap.size 60 i0 (.pointer none) 1 8 Try.underlying58 hi ht0 ht1 ht2 rfl (by decide) (.slice kaq K.length kcq) _ _ (by simp [Act.eval]) (by first | exact HOQ.out.2.alloc _ | exact (HOQ.out.2.alloc _).drew) ⟨Y.heap.size, 0, none⟩ 1 1 [.pointer (some ⟨wr.heap.size, 0, none⟩)] (by simp [Act.eval]) rfl (fun j u h => cells_new Y _ _ j u h) (oneV rfl) (by decide) (by unfold maxLen; omega) (by omega) (by simp; omega) _ rfl ?_; intro g3 cap3 w3 hown3 hg3 hat3 hlt3; have hgb := (fun (k : Nat) (hk : k < Y.heap.size) (hne : (Value.slice kaq K.length kcq).ownBlock ≠ some k) => (hg3.block k (by simp; omega) (fun e => hne e.symm)).trans (Below.heap_alloc Y _ k hk)); have hb3 := (hgb _ HLT.out HNE.out).trans HBQ.out; have hb30 := (hgb _ ysz (fun e => absurd (HKB.out _ e) (Nat.lt_irrefl _))).trans HYK.out; have q4 : w3.cell? ⟨A q, 4, none⟩ = some (.slice kaq (KB L q).length kcq) := (by rw [cell_of_row _ _ 4 _ _ _ hb3]; rfl); have q3 : w3.cell? ⟨wr.heap.size, 3, none⟩ = some (.pointer (some ⟨A q, 0, none⟩)) := (by rw [cell_of_row _ _ 3 _ _ _ hb30]; rfl); have fq : w3.frozen? ⟨A q, 4, none⟩ = false := frozen_of_row _ _ 4 _ _ hb3)
          all_goals
            have hgs := hg3.size
            have hgs1 : Y.heap.size + 1 ≤ w3.heap.size := by simpa using hgs
            obtain ⟨Z, hZ⟩ : ∃ Z, w3.setCell ⟨A q, 4, none⟩ (.slice (some ⟨g3, 0, none⟩) (K.length + 1) cap3) = Z := ⟨_, rfl⟩
            obtain ⟨T', ka', kc', hM4, hT4, hL4, hB4, hS4⟩ := BM.hang HM.out HU.out y d q hq hbs ysz HYL.out (by rw [hln2]; exact HYK.out) HKQ.out HKA.out HKC.out hown3 hg3.os hg3.tape hg3.output hgs1 (hat3.imp id (fun h => h.trans (by simp))) hgb hZ
            rw [hZ]
            rw [hln2] at hM4
            have HM4 := Lib.hid hM4
            have HT4 := Lib.hid hT4
            have HB4 := Lib.hid (HYB.out.trans hB4)
            have HO4 := Lib.hid (HO.out.onB fun x hx => hL4 x (HO.out.turn_lt x hx) (by rw [HTAG.out x hx]; omega))
            clear hown3 hg3 hat3 hgb hb3 hb30 q4 q3 fq hgs hM4 hT4 hB4 hL4 y3 y4 y3a y4a
            go_wp2_with (at_builtin; refine wpList_append_own_at _ rfl _ _ 58 rfl w.heap.size 60 i0 (.pointer none) 1 8 Try.underlying58 hi ht0 ht1 ht2 rfl (by decide) _ _ _ rfl (HO4.out.2.alloc _) ⟨Z.heap.size, 0, none⟩ 1 1 [.pointer (some ⟨wr.heap.size, 0, none⟩)] rfl rfl (fun j u hu => cells_new Z _ _ j u hu) (oneV rfl) (by unfold maxLen; omega) (by omega) (by have := HB4.out.size; simp; omega) ?_; intro v5 w5 hown5 hg5 _ hat5; obtain ⟨a5, c5, rfl, hO5⟩ := OwnV.shape (by rw [List.length_append, bptrs_length]; simp) hown5)
            have hzb := HB4.out.size
            have hz2 : (Z.alloc (.cells #[.pointer (some ⟨wr.heap.size, 0, none⟩)] 60)).heap.size = Z.heap.size + 1 := by simp
            have hT0 : ∀ x, (Value.slice (some ⟨g, 0, none⟩) ln c').ownBlock = some x → T' x = 0 := fun x hx => (HT4.out x (HO.out.turn_lt x hx)).trans (HTAG.out x hx)
            have HM5 := Lib.hid (show BM w5 w.heap.size (L ++ [⟨y, d, (q : Int)⟩]) (upN A ln wr.heap.size) (upN T' (Z.heap.size + 1) 0) ka' kc' from
              (HM4.out.retag fun k hk => upN_other _ _ _ _ (by omega)).on fun k hk h2 => (hg5.block k (by simp; omega) (fun e => by
                rw [upN_other _ _ _ _ (by omega), hT0 k e.symm] at h2; omega)).trans (Below.heap_alloc Z _ k hk))
            have HB5 := Lib.hid (show Below w.heap.size w w5 from (HB4.out.alloc hzb _).grown hg5 (by simp; omega) (fun j hj => (HO4.out.2.lt j hj).1))
            have HO5 := Lib.hid (show OwnV 60 1 w5 w.heap.size a5 (ln + 1) c5 (bptrs (upN A ln wr.heap.size) (ln + 1)) by rw [bptrs_succ]; exact hO5)
            have HG5 := Lib.hid (show ∀ x, (Value.slice a5 (ln + 1) c5).ownBlock = some x → upN T' (Z.heap.size + 1) 0 x = 0 from fun x hx => by
              rcases hat5 with h1 | h1
              · have h2 := h1.symm.trans hx
                have h3 := HO.out.turn_lt x h2
                rw [upN_other _ _ _ _ (by omega)]; exact hT0 x h2
              · have e : some x = some (Z.heap.size + 1) := by rw [← hx, h1]; exact congrArg some hz2
                injection e with e
                rw [e, upN_self])
            clear hown5 hg5 hat5 hO5 hT0
            go_roundw
            case rel => exact ⟨m + 1, ln + 1, c5, a5, _, _, _, _, _, by omega, by go_num, Lib.hid HA.out, Lib.hid (by rw [List.length_append, hln2]; rfl), rfl, HM5.out, HO5.out, HG5.out, HB5.out⟩
            case measure => simp [intOf]; omega
        · have HA := Lib.hid (show bkTo t (m + 1) = L by rw [HADD.out, hgo])
          clear hgo
          go_wp2_with fail
          rw [HYY.out]
          go_roundw
          case rel => exact ⟨m + 1, ln, c', some ⟨g, 0, none⟩, L, A, T, ka, kc, by omega, by go_num, Lib.hid HA.out, hln, rfl, HMY.out, HOY.out, HTAG.out, HYB.out⟩
          case measure => simp [intOf]; omega
    · obtain rfl : m = n := by omega
      have HM := Lib.hid hM
      have HO := Lib.hid hO
      have HB := Lib.hid hb
      clear hM hO hb
      go_wp2
      go_ret
      exact ⟨a', c', A, T, ka, kc, by rw [hL.out, hln.out]; rfl, by rw [hL.out]; exact HM.out, by rw [hL.out, hln.out]; exact HO.out, HB.out⟩
end Go.Proofs.Ytpniiaemgobaiab

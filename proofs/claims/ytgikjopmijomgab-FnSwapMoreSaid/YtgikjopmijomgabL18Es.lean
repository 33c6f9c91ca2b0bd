/-
  Chapter 18's model: SwapEnds (by wip/tools/mk_swapendss.py).
-/
import Derived.Test.YtgikjopmijomgabL18Sd
import Derived.Test.YtgikjopmijomgabL18Ends
import Derived.Deep.RegionHeld3
import Derived.Maps.AppendAt
namespace Go.Proofs.Ytgikjopmijomgab
open Go.RowKit
set_option linter.unusedVariables false
set_option maxRecDepth 100000
/-- a column that lies in block g -/
def ColG (w : World) (g : Nat) (L : List Int) : Prop := g < w.heap.size ∧ ∀ i, i < L.length → w.cell? ⟨g, i, none⟩ = some (.int .i64 (intAt L i))
theorem ColG.ints {w : World} {g : Nat} {L : List Int} (h : ColG w g L) : Ints w (some ⟨g, 0, none⟩) L := .inr ⟨g, 0, rfl, fun i hi => by rw [Nat.zero_add]; exact h.2 i hi⟩
theorem ColG.on {w w1 : World} {g : Nat} {L : List Int} (h : ColG w g L) (hs : w.heap.size ≤ w1.heap.size) (hb : w1.heap[g]? = w.heap[g]?) : ColG w1 g L :=
  ⟨Nat.lt_of_lt_of_le h.1 hs, fun i hi => (World.cell?_of_block hb).trans (h.2 i hi)⟩
theorem ColG.kept {w w1 : World} {g : Nat} {L : List Int} (h : ColG w g L) (hb : Below w.heap.size w w1) : ColG w1 g L := h.on hb.size (hb.block g h.1)
theorem ColG.nil {w : World} {g : Nat} (h : g < w.heap.size) : ColG w g [] := ⟨h, fun i hi => by simp at hi⟩
theorem ColG.of {w : World} {B g n cap : Nat} {L : List Int} (h : OwnN w B (some ⟨g, 0, none⟩) n cap L) (hg : g < w.heap.size) : ColG w g L := ⟨hg, fun i hi => h.cell i (by rw [h.len] at hi; exact hi)⟩
set_option maxHeartbeats 16000000 in
theorem spec_swapEnds (s : ByteArray) (K : Int) (f : Bool) (r : ByteArray) (w : World) (hs : s.size ≤ 1048576) (hr : r.size ≤ 1048576) :
    Calls Try.prog 23 #[.agg #[.string s, .int .i64 K, .bool f], .string r] w fun e w' => ∃ a n cap, e = .returned (.slice a n cap) ∧ OwnM 44 2 w' w.heap.size a n cap (swEndsL s K f r) ∧ Below w.heap.size w w' := by
  cases hp : patOk s K
  · have HR := Lib.hid (show swEndsL s K f r = [] by unfold swEndsL; rw [hp]; rfl)
    have HP := Lib.hid hp; clear hp
    go_enter Try.func23, Try.ntmps23
    go_wp2_with fail
    have hbx : Below w.heap.size w ((w.alloc (.cells #[.string s, .int .i64 K, .bool f] 36)).alloc (.cells #[] 44)) := (by repeat (first | exact Below.refl _ _ | assumption | (refine Below.drew ?_) | (refine below_drewN ?_ _) | (refine Below.alloc ?_ (by first | omega | (simp; done) | (simp; omega)) _) | (refine Below.setCell ?_ (by first | omega | (simp; done) | (simp; omega)) _)))
    have hO0 : OwnM 44 2 ((w.alloc (.cells #[.string s, .int .i64 K, .bool f] 36)).alloc (.cells #[] 44)) (w.heap.size + 1) (some ⟨w.heap.size + 1, 0, none⟩) 0 0 [] :=
      ⟨rfl, by have := World.ownsRow_made (base := w.heap.size + 1) (e := 44) (size := 2) (w.alloc (.cells #[.string s, .int .i64 K, .bool f] 36)) #[] 0 (by simp) (by decide) rfl; simpa using this⟩
    refine (spec_patternOk _ _ _ _ (by omega)).mono ?_
    rintro e w1 ⟨rfl, hb1⟩
    rw [HP.out]
    have HB := hbx.trans (hb1.mono hbx.size)
    have HO := hO0.kept hb1
    clear hb1 hbx hO0
    go_wp2_with fail
    go_ret
    exact ⟨_, _, _, rfl, by rw [HR.out]; exact HO.mono (by omega), HB⟩
  · by_cases h2 : r.size ≤ 200
    · obtain ⟨hs0, hs1, hk0, hk1⟩ := (patOk_iff s K).1 hp
      have HR := Lib.hid (show swEndsL s K f r = endF (swD s r f) K (r.size + 1) by unfold swEndsL; rw [hp]; simp [h2])
      have HP := Lib.hid hp; clear hp
      have hd2 : decide (200 < (r.size : Int)) = false := by simp; omega
      obtain ⟨i0, hi, ht0, ht1, ht2⟩ := info_parts end_info
      obtain ⟨G, hG⟩ : ∃ G, swAt (foldIf f s) (foldIf f r) 0 = G := ⟨_, rfl⟩
      have HB : Hid (∀ k i, 0 ≤ G k i ∧ G k i ≤ (i : Int) + k) := fun k i => by rw [← hG]; exact sw_bnd _ _ (by decide) (by decide) k i
      have HH : Hid (∀ k, G k 0 = 0) := fun k => by rw [← hG]; exact sw_head0 _ _ k
      have H0 : Hid (∀ i, G 0 i = (i : Int)) := fun i => by rw [← hG]; exact sw_first _ _ _ i
      have HD : Hid (∀ k, G k s.size = swD s r f k) := fun k => by rw [← hG]; rfl
      have HS : Hid (∀ (k : Nat) (OL LL : List Int) (no : Nat) (last : Int), k < r.size → (∀ i, i ≤ s.size → intAt LL i = G k i) → (0 < no ↔ 0 < k) → (0 < k → ∀ i, i ≤ s.size → intAt OL i = G (k - 1) i) → (0 < k → last = ((byteAt r (k - 1)).toNat : Int)) → ∀ i, i < s.size → G (k + 1) (i + 1) = swapMin (decide (0 < i) && decide (0 < no) && eqI ((byteAt s i).toNat) last f && eqI ((byteAt s (i - 1)).toNat) ((byteAt r k).toNat) f) (min3 (if maskG s f ((byteAt r k).toNat) i then intAt LL i else intAt LL i + 1) (intAt LL (i + 1) + 1) (G (k + 1) i + 1)) (intAt OL (i - 1))) := by
        intro k OL LL no last hk a1 a2 a3 a4 i hi
        rw [← hG] at a1 a3 ⊢
        exact sw_rel s r f 0 k hk OL LL no last a1 a2 a3 a4 i hi
      have CALL : Hid (∀ (k no : Nat), k < r.size → no = (if k = 0 then 0 else s.size + 1) → ∀ (ao a : Option Addr) (co cap : Nat) (last : Int) (W : World), Ints W ao (oldL G (s.size + 1) k) → Ints W a (tab (G k) (s.size + 1)) → 0 ≤ last → last ≤ 255 → (0 < k → last = ((byteAt r (k - 1)).toNat : Int)) → Calls Try.prog 41 #[.string s, .bool f, .slice ao no co, .slice a (s.size + 1) cap, .int .u8 last, .int .u8 ((byteAt r k).toNat : Int), .int .i64 0] W fun e w' => ∃ a' cap', e = .returned (.slice a' (s.size + 1) cap') ∧ OwnN w' W.heap.size a' (s.size + 1) cap' (tab (G (k + 1)) (s.size + 1)) ∧ Below W.heap.size W w') := by
        intro k no hlt hno ao a co cap last W hIo hI l0 l1 hl
        have hch := (byteAt r k).toNat_lt
        have HT1 : ∀ i, i ≤ s.size → intAt (tab (G k) (s.size + 1)) i = G k i := fun i hi => intAt_tab _ _ _ (by omega)
        have HT2 : 0 < k → ∀ i, i ≤ s.size → intAt (oldL G (s.size + 1) k) i = G (k - 1) i := fun h i hi => oldL_at G _ k i h (by omega)
        refine spec_l18Next s f (oldL G (s.size + 1) k) (tab (G k) (s.size + 1)) ao a no co cap last ((byteAt r k).toNat : Int) 0 (G (k + 1)) W (by omega) (by rw [hno]; split <;> simp) hIo (by rw [oldL_len, hno]) hI (tab_length _ _) (fun i hi => by rw [HT1 i hi]; have := HB.out k i; omega) (fun i hi => by have hk0 : 0 < k := (by rw [hno] at hi; split at hi <;> omega); rw [HT2 hk0 i (by rw [hno] at hi; split at hi <;> omega)]; have h9 : i ≤ s.size := (by rw [hno] at hi; split at hi <;> omega); have := HB.out (k - 1) i; omega) (fun i hi => by have := HB.out (k + 1) i; omega) (by omega) (by omega) l0 l1 (by omega) (by omega) (HH.out _) ?_
        intro i hi
        exact HS.out k (oldL G (s.size + 1) k) (tab (G k) (s.size + 1)) no last hlt HT1 (by rw [hno]; split <;> omega) HT2 hl i hi
      clear hG
      go_enter Try.func23, Try.ntmps23
      go_wp2_with fail
      have hbx : Below w.heap.size w ((w.alloc (.cells #[.string s, .int .i64 K, .bool f] 36)).alloc (.cells #[] 44)) := (by repeat (first | exact Below.refl _ _ | assumption | (refine Below.drew ?_) | (refine below_drewN ?_ _) | (refine Below.alloc ?_ (by first | omega | (simp; done) | (simp; omega)) _) | (refine Below.setCell ?_ (by first | omega | (simp; done) | (simp; omega)) _)))
      have q0 : ((w.alloc (.cells #[.string s, .int .i64 K, .bool f] 36)).alloc (.cells #[] 44)).cell? ⟨w.heap.size, 0, none⟩ = some (.string s) := by go_simp
      have q1 : ((w.alloc (.cells #[.string s, .int .i64 K, .bool f] 36)).alloc (.cells #[] 44)).cell? ⟨w.heap.size, 1, none⟩ = some (.int .i64 K) := by go_simp
      have q2 : ((w.alloc (.cells #[.string s, .int .i64 K, .bool f] 36)).alloc (.cells #[] 44)).cell? ⟨w.heap.size, 2, none⟩ = some (.bool f) := by go_simp
      have hO0 : OwnM 44 2 ((w.alloc (.cells #[.string s, .int .i64 K, .bool f] 36)).alloc (.cells #[] 44)) (w.heap.size + 1) (some ⟨w.heap.size + 1, 0, none⟩) 0 0 [] :=
        ⟨rfl, by have := World.ownsRow_made (base := w.heap.size + 1) (e := 44) (size := 2) (w.alloc (.cells #[.string s, .int .i64 K, .bool f] 36)) #[] 0 (by simp) (by decide) rfl; simpa using this⟩
      have hsz : ((w.alloc (.cells #[.string s, .int .i64 K, .bool f] 36)).alloc (.cells #[] 44)).heap.size = w.heap.size + 2 := by simp
      generalize ((w.alloc (.cells #[.string s, .int .i64 K, .bool f] 36)).alloc (.cells #[] 44)) = V at *
      refine (spec_patternOk _ _ _ _ (by omega)).mono ?_
      rintro e w1 ⟨rfl, hb1⟩
      rw [HP.out]
      have HBW := hbx.trans (hb1.mono hbx.size)
      have HO := hO0.kept hb1
      have p0 := (hb1.cell (p := ⟨w.heap.size, 0, none⟩) (by show w.heap.size < _; omega)).trans q0
      have p1 := (hb1.cell (p := ⟨w.heap.size, 1, none⟩) (by show w.heap.size < _; omega)).trans q1
      have p2 := (hb1.cell (p := ⟨w.heap.size, 2, none⟩) (by show w.heap.size < _; omega)).trans q2
      have hl1 : w.heap.size + 2 ≤ w1.heap.size := by have := hb1.size; omega
      have hl0 : w.heap.size < w1.heap.size := by omega
      clear hb1 hbx hO0 q0 q1 q2 hsz
      go_wp2_with fail
      have hbn : Below w1.heap.size w1 (w1.alloc (.cells #[] 2)) := (Below.refl _ _).alloc (Nat.le_refl _) _
      have hN0 : ColG (w1.alloc (.cells #[] 2)) w1.heap.size [] := ColG.nil (by simp)
      have hsz : (w1.alloc (.cells #[] 2)).heap.size = w1.heap.size + 1 := by simp
      generalize w1.alloc (.cells #[] 2) = V2 at *
      obtain ⟨gn, hgn⟩ : ∃ gn, w1.heap.size = gn := ⟨_, rfl⟩
      refine (spec_l3First s _ (by omega)).mono ?_
      rintro e w2 ⟨a1, cap1, rfl, hO1, hb2⟩
      obtain ⟨g1, rfl, hg1, hg2⟩ := hO1.head 0 (by omega)
      have hbb := hbn.trans (hb2.mono hbn.size)
      have q0 := (hbb.cell (p := ⟨w.heap.size, 0, none⟩) (by show w.heap.size < _; omega)).trans p0
      have q1 := (hbb.cell (p := ⟨w.heap.size, 1, none⟩) (by show w.heap.size < _; omega)).trans p1
      have q2 := (hbb.cell (p := ⟨w.heap.size, 2, none⟩) (by show w.heap.size < _; omega)).trans p2
      have HO0 := Lib.hid (HO.kept hbb)
      have HB2 := HBW.trans (hbb.mono HBW.size)
      have hN1 := hN0.kept hb2
      have hC1 : ColG w2 g1 (tab (G 0) (s.size + 1)) := by
        have e : tab idI (s.size + 1) = tab (G 0) (s.size + 1) := tab_congr fun i hi => (H0.out i).symm
        rw [← e]; exact ColG.of hO1 hg2
      rw [hgn] at hN1 ⊢
      have HN1 := Lib.hid hN1; have HC1 := Lib.hid hC1
      have hz2 : w.heap.size + 2 ≤ w2.heap.size := by have := hbb.size; omega
      have hgn2 : w.heap.size + 2 ≤ gn := by omega
      have hg13 : w.heap.size + 2 ≤ g1 := by omega
      clear hgn hbn hb2 hbb hN0 hN1 hC1 hO1 HO HBW p0 p1 p2 hsz hl1
      go_wp2
      go_loopw [5, 7, 8, 9] (fun o u v i wr => ∃ (k : Nat) (a : Option Addr) (n cap go no co g capc : Nat), k ≤ r.size + 1 ∧ i = .int .i64 k ∧ o = .slice a n cap ∧ u = .slice (some ⟨go, 0, none⟩) no co ∧ no = (oldL G (s.size + 1) (k - 1)).length ∧ v = .slice (some ⟨g, 0, none⟩) (s.size + 1) capc ∧ OwnM 44 2 wr (w.heap.size + 1) a n cap (endF (swD s r f) K k) ∧ ColG wr go (oldL G (s.size + 1) (k - 1)) ∧ ColG wr g (tab (G (k - 1)) (s.size + 1)) ∧ (Value.slice a n cap).ownBlock ≠ some go ∧ (Value.slice a n cap).ownBlock ≠ some g ∧ wr.cell? ⟨w.heap.size, 0, none⟩ = some (.string s) ∧ wr.cell? ⟨w.heap.size, 1, none⟩ = some (.int .i64 K) ∧ wr.cell? ⟨w.heap.size, 2, none⟩ = some (.bool f) ∧ Below w.heap.size w wr ∧ w.heap.size + 2 ≤ wr.heap.size)
        (fun _ _ _ i _ => r.size + 1 - (intOf i).toNat)
      case atStart => exact ⟨0, _, _, _, _, _, _, _, _, by omega, rfl, rfl, rfl, rfl, rfl, HO0.out, HN1.out, HC1.out, fun e => by simp [Value.ownBlock] at e; omega, fun e => by simp [Value.ownBlock] at e; omega, q0, q1, q2, HB2, hz2⟩
      case round =>
        obtain ⟨k, a, n, cap, go, no, co, g, capc, hk, rfl, rfl, rfl, hno, rfl, hO, hCo, hC, hneo, hne, c0, c1, c2, hb, hz⟩ := hrel
        by_cases hlt : k ≤ r.size
        · have hnl : n = endN (swD s r f) K k := by have := hO.len; rw [endF_length] at this; omega
          have hnn := endN_le (swD s r f) K k
          have hn2 : n ≤ 201 := by omega
          rw [oldL_len] at hno
          have HNO := Lib.hid hno
          have HO := Lib.hid hO; have HNL := Lib.hid hnl; have HNE := Lib.hid hne; have HNEO := Lib.hid hneo
          have HCO := Lib.hid hCo; have HC := Lib.hid hC
          have hEb : ∀ q, (Value.slice a n cap).ownBlock = some q → w.heap.size + 1 ≤ q ∧ q < wr.heap.size := fun q hq => hO.2.lt q hq
          have hgo := hCo.1
          have hgl := hC.1
          have kw : IntKind.i64.wrap ((k : Int) + 1) = (k : Int) + 1 := by rw [IntKind.wrap_i64]; omega
          have hl9 : (s.size : Int) < (s.size : Int) + 1 := by omega
          clear hO hnl hne hneo hCo hC hnn q0 q1 q2 HC1 HN1 HO0 hno HB2 hz2
          by_cases hk0' : k = 0
          · subst hk0'
            have hc := HC.out.2 s.size (by rw [tab_length]; omega)
            rw [intAt_tab _ _ _ (by omega), HD.out] at hc
            obtain ⟨y, hy2⟩ : ∃ y, swD s r f 0 = y := ⟨_, rfl⟩
            have HF1 : y ≤ K → endF (swD s r f) K (0 + 1) = endF (swD s r f) K (0) ++ [((0 : Nat) : Int), y] := fun h => by rw [← hy2] at h ⊢; simp [endF, h]
            have HF2 : ¬ y ≤ K → endF (swD s r f) K (0 + 1) = endF (swD s r f) K (0) := fun h => by rw [← hy2] at h; simp [endF, h]
            have HL1 : y ≤ K → (endF (swD s r f) K (0 + 1)).length = (n + 1) * 2 := fun h => by rw [HF1 h, List.length_append, endF_length, ← HNL.out]; simp; omega
            have e9 : swD s r f (0) = y := hy2
            rw [e9] at hc
            clear hy2 e9
            by_cases hle : y ≤ K
            · have HF := Lib.hid (HF1 hle); have HL := Lib.hid (HL1 hle)
              clear HF1 HF2 HL1
              go_wp2_with fail
              go_quiet (fail)
              have hY := below_drewN (Below.refl wr.heap.size wr) nq
              have hYs : (wr.drewN nq).heap.size = wr.heap.size := by simp
              have hcY := (hY.cell (p := ⟨g, s.size, none⟩) hgl).trans hc
              have HOY := Lib.hid (HO.out.kept hY)
              have d0 := (hY.cell (p := ⟨w.heap.size, 0, none⟩) (by show w.heap.size < _; omega)).trans c0
              have d1 := (hY.cell (p := ⟨w.heap.size, 1, none⟩) (by show w.heap.size < _; omega)).trans c1
              have d2 := (hY.cell (p := ⟨w.heap.size, 2, none⟩) (by show w.heap.size < _; omega)).trans c2
              have HCY := Lib.hid (HC.out.kept hY)
              have HCOY := Lib.hid (HCO.out.kept hY)
              have hbY := below_drewN hb nq
              generalize wr.drewN nq = Y at *
              clear hc c0 c1 c2 hY hb HO HC HCO
              rw [← hYs] at hgl hgo hz
              have hEY : ∀ q, (Value.slice a n cap).ownBlock = some q → w.heap.size + 1 ≤ q ∧ q < Y.heap.size := fun q hq => HOY.out.2.lt q hq
              have HYS := Lib.hid hYs
              clear hYs hEb
              go_wp2_with (at_builtin; refine wpList_append_own_at _ rfl _ _ 39 rfl (w.heap.size + 1) 44 i0 (.agg #[.int .i64 0, .int .i64 0]) 2 16 Try.underlying39 hi ht0 ht1 ht2 rfl (by decide) _ _ _ rfl (HOY.out.kept ((Below.refl Y.heap.size Y).alloc (Nat.le_refl _) (.cells #[.int .i64 0, .int .i64 y] 44))).2 ⟨Y.heap.size, 0, none⟩ 1 1 [.int .i64 0, .int .i64 y] rfl rfl (fun j u h => cells_new Y _ _ j u h) (by simp [Value.oneCell']) (by unfold maxLen; omega) (by omega) (by simp; omega) ?_; intro v' w3 hown' hg _ hat; obtain ⟨a', cap', rfl, hO'⟩ := OwnM.shape HL.out (by rw [HF.out, List.map_append]; exact hown'); have hgs := hg.size)
              have hk2 : ∀ b, b < Y.heap.size → some b ≠ (Value.slice a n cap).ownBlock → w3.heap[b]? = Y.heap[b]? := fun b h1 h2 => (hg.block b (by simp; omega) h2).trans (Below.heap_alloc Y (.cells #[.int .i64 0, .int .i64 y] 44) b h1)
              simp only [World.size_alloc] at hgs
              have hw1 : some w.heap.size ≠ (Value.slice a n cap).ownBlock := fun e => by have := (hEY _ e.symm).1; omega
              have hB3 : Below w.heap.size Y w3 := ⟨hg.os, hg.tape, hg.output, by omega, fun b h => hk2 b (by omega) (fun e => by have := (hEY _ e.symm).1; omega)⟩
              have hne3 : ∀ g', g' < Y.heap.size → (Value.slice a n cap).ownBlock ≠ some g' → (Value.slice a' (n + 1) cap').ownBlock ≠ some g' := fun g' h1 h2 e => by
                rcases hat with e2 | e2
                · exact h2 (e2.symm.trans e)
                · rw [e] at e2; simp at e2; omega
              have hgX : some g ≠ (Value.slice a n cap).ownBlock := fun e => HNE.out e.symm
              have hgoX : some go ≠ (Value.slice a n cap).ownBlock := fun e => HNEO.out e.symm
              clear hat hown' hg
              go_roundw
              case rel => exact ⟨0 + 1, a', n + 1, cap', go, no, co, g, capc, by omega, by go_num, rfl, rfl, HNO.out.trans (oldL_len G (s.size + 1) 0).symm, rfl, hO', HCOY.out.on (by omega) (hk2 go hgo hgoX), HCY.out.on (by omega) (hk2 g hgl hgX), hne3 go hgo HNEO.out, hne3 g hgl HNE.out, (World.cell?_of_block (w := Y) (hk2 w.heap.size (by omega) hw1)).trans d0, (World.cell?_of_block (w := Y) (hk2 w.heap.size (by omega) hw1)).trans d1, (World.cell?_of_block (w := Y) (hk2 w.heap.size (by omega) hw1)).trans d2, hbY.trans hB3, by omega⟩
              case measure => first | (simp [intOf]; done) | (simp [intOf]; omega)
            · have HF := Lib.hid (HF2 hle)
              clear HF1 HF2 HL1
              go_wp2_with fail
              go_quiet (fail)
              have hY := below_drewN (Below.refl wr.heap.size wr) nq
              have hYs : (wr.drewN nq).heap.size = wr.heap.size := by simp
              have HOY := Lib.hid (HO.out.kept hY)
              have d0 := (hY.cell (p := ⟨w.heap.size, 0, none⟩) (by show w.heap.size < _; omega)).trans c0
              have d1 := (hY.cell (p := ⟨w.heap.size, 1, none⟩) (by show w.heap.size < _; omega)).trans c1
              have d2 := (hY.cell (p := ⟨w.heap.size, 2, none⟩) (by show w.heap.size < _; omega)).trans c2
              have HCY := Lib.hid (HC.out.kept hY)
              have HCOY := Lib.hid (HCO.out.kept hY)
              have hbY := below_drewN hb nq
              generalize wr.drewN nq = Y at *
              clear hc c0 c1 c2 hY hb HO HC HCO
              go_wp2
              go_roundw
              case rel => exact ⟨0 + 1, a, n, cap, go, no, co, g, capc, by omega, by go_num, rfl, rfl, HNO.out.trans (oldL_len G (s.size + 1) 0).symm, rfl, by rw [HF.out]; exact HOY.out, HCOY.out, HCY.out, HNEO.out, HNE.out, d0, d1, d2, hbY, by omega⟩
              case measure => first | (simp [intOf]; done) | (simp [intOf]; omega)
          · obtain ⟨q, rfl⟩ : ∃ q, k = q + 1 := ⟨k - 1, by omega⟩
            have hq : q < r.size := by omega
            have HBY := Lib.hid (byteAt_eq r q hq)
            have hch := r[q].toNat_lt
            have jw : IntKind.i64.wrap ((q : Int) + 1 - 1) = (q : Int) := by rw [IntKind.wrap_i64]; omega
            have jw2 : IntKind.i64.wrap (q : Int) = (q : Int) := by rw [IntKind.wrap_i64]; omega
            have i0' : (0 : Int) ≤ (q : Int) := by omega
            have i2' : ((q : Int)).toNat = q := by omega
            have i1' : (q : Int) < (r.size : Int) := by omega
            have i3' : (0 : Int) < (q : Int) + 1 := by omega
            have i4' : (q : Int) + 1 ≤ (r.size : Int) := by omega
            have hSr := (⟨c0, c2⟩ : wr.cell? ⟨w.heap.size, 0, none⟩ = some (.string s) ∧ wr.cell? ⟨w.heap.size, 2, none⟩ = some (.bool f))
            have CALL2 : Hid (∀ (last : Int) (W : World), Below wr.heap.size wr W → 0 ≤ last → last ≤ 255 → (0 < q → last = ((byteAt r (q - 1)).toNat : Int)) → Calls Try.prog 41 #[.string s, .bool f, .slice (some ⟨go, 0, none⟩) no co, .slice (some ⟨g, 0, none⟩) (s.size + 1) capc, .int .u8 last, .int .u8 (r[q].toNat : Int), .int .i64 0] W fun e w' => ∃ a' cap', e = .returned (.slice a' (s.size + 1) cap') ∧ OwnN w' W.heap.size a' (s.size + 1) cap' (tab (G (q + 1)) (s.size + 1)) ∧ Below W.heap.size W w') := by
              intro last W hW l0 l1 hl
              have := CALL.out q no hq HNO.out (some ⟨go, 0, none⟩) (some ⟨g, 0, none⟩) co capc last W (HCO.out.kept hW).ints (HC.out.kept hW).ints l0 l1 hl
              rw [HBY.out] at this
              exact this
            have hOLD : Hid (ColG wr g (oldL G (s.size + 1) (q + 1))) := HC.out
            by_cases hq0 : q = 0
            · have nq1 : ¬ (1 : Int) < (q : Int) + 1 := by omega
              have HQ0 := Lib.hid hq0
              clear hq0
              have C3 := Lib.hid (fun W hW => CALL2.out 0 W hW (by omega) (by omega) (fun h => absurd h (by have := HQ0.out; omega)))
              clear CALL2 CALL
              go_wp2_with fail
              go_region_held3 (fun W => W.cell? ⟨w.heap.size, 0, none⟩ = some (.string s) ∧ W.cell? ⟨w.heap.size, 2, none⟩ = some (.bool f)) (first | with_reducible exact hSr | with_reducible exact hS2 | go_keep)
                (first | (go_at_call 41; with_reducible refine (C3.out _ ((Below.refl _ _).drew)).mono ?_; rintro e w2 ⟨a2, cap2, rfl, hO2, hb2d⟩; have hb2 := below_undrew hb2d; have hS2 := (⟨(hb2.cell (p := ⟨w.heap.size, 0, none⟩) (by show w.heap.size < _; omega)).trans c0, (hb2.cell (p := ⟨w.heap.size, 2, none⟩) (by show w.heap.size < _; omega)).trans c2⟩ : w2.cell? ⟨w.heap.size, 0, none⟩ = some (.string s) ∧ w2.cell? ⟨w.heap.size, 2, none⟩ = some (.bool f))))
              clear jw jw2
              obtain ⟨g2, rfl, hg2l, hg2u⟩ := hO2.head 0 (by omega)
              have c1' := (hb2.cell (p := ⟨w.heap.size, 1, none⟩) (by show w.heap.size < _; omega)).trans c1
              obtain ⟨c0', c2'⟩ := hS2
              simp only [heap_drew] at hg2l
              have HO2 := Lib.hid (HO.out.kept hb2)
              have HCO2 := Lib.hid (hOLD.out.kept hb2)
              have HC2 := Lib.hid (ColG.of hO2 hg2u)
              have HNE2 := Lib.hid (show (Value.slice a n cap).ownBlock ≠ some g2 from fun e => by have := (hEb _ e).2; omega)
              have hbw := hb.trans (hb2.mono hb.size)
              have hz2 : w.heap.size + 2 ≤ w2.heap.size := by have := hb2.size; omega
              have hgo2 : g < w2.heap.size := by have := hb2.size; omega
              have hc := HC2.out.2 s.size (by rw [tab_length]; omega)
              rw [intAt_tab _ _ _ (by omega), HD.out] at hc
              have hEb2 : ∀ q, (Value.slice a n cap).ownBlock = some q → w.heap.size + 1 ≤ q ∧ q < w2.heap.size := fun q hq => HO2.out.2.lt q hq
              clear hO2 hb2 hb2d c0 c1 c2 HO HNEO hb hz hgl hEb hSr hg2l HC HCO hgo C3 hOLD
              have HO := HO2; have HNEO := HNE; have hb := hbw; have hz := hz2; have hgl := hg2u; have hEb := hEb2; have c0 := c0'; have c1 := c1'; have c2 := c2'; have HC := HC2; have HCO := HCO2; have hgo := hgo2
              clear HO2 HNE hbw hz2 hg2u hEb2 c0' c1' c2' HC2 HCO2 hgo2
              have HNE := HNE2
              clear HNE2
              obtain ⟨y, hy2⟩ : ∃ y, swD s r f (q + 1) = y := ⟨_, rfl⟩
              have HF1 : y ≤ K → endF (swD s r f) K ((q + 1) + 1) = endF (swD s r f) K ((q + 1)) ++ [(((q + 1) : Nat) : Int), y] := fun h => by rw [← hy2] at h ⊢; simp [endF, h]
              have HF2 : ¬ y ≤ K → endF (swD s r f) K ((q + 1) + 1) = endF (swD s r f) K ((q + 1)) := fun h => by rw [← hy2] at h; simp [endF, h]
              have HL1 : y ≤ K → (endF (swD s r f) K ((q + 1) + 1)).length = (n + 1) * 2 := fun h => by rw [HF1 h, List.length_append, endF_length, ← HNL.out]; simp; omega
              have e9 : swD s r f ((q + 1)) = y := hy2
              rw [e9] at hc
              clear hy2 e9
              by_cases hle : y ≤ K
              · have HF := Lib.hid (HF1 hle); have HL := Lib.hid (HL1 hle)
                clear HF1 HF2 HL1
                go_wp2_with fail
                go_quiet (fail)
                have hY := below_drewN (Below.refl w2.heap.size w2) nq
                have hYs : (w2.drewN nq).heap.size = w2.heap.size := by simp
                have hcY := (hY.cell (p := ⟨g2, s.size, none⟩) hgl).trans hc
                have HOY := Lib.hid (HO.out.kept hY)
                have d0 := (hY.cell (p := ⟨w.heap.size, 0, none⟩) (by show w.heap.size < _; omega)).trans c0
                have d1 := (hY.cell (p := ⟨w.heap.size, 1, none⟩) (by show w.heap.size < _; omega)).trans c1
                have d2 := (hY.cell (p := ⟨w.heap.size, 2, none⟩) (by show w.heap.size < _; omega)).trans c2
                have HCY := Lib.hid (HC.out.kept hY)
                have HCOY := Lib.hid (HCO.out.kept hY)
                have hbY := below_drewN hb nq
                generalize w2.drewN nq = Y at *
                clear hc c0 c1 c2 hY hb HO HC HCO
                rw [← hYs] at hgl hgo hz
                have hEY : ∀ q, (Value.slice a n cap).ownBlock = some q → w.heap.size + 1 ≤ q ∧ q < Y.heap.size := fun q hq => HOY.out.2.lt q hq
                have HYS := Lib.hid hYs
                clear hYs hEb
                go_wp2_with (at_builtin; refine wpList_append_own_at _ rfl _ _ 39 rfl (w.heap.size + 1) 44 i0 (.agg #[.int .i64 0, .int .i64 0]) 2 16 Try.underlying39 hi ht0 ht1 ht2 rfl (by decide) _ _ _ rfl (HOY.out.kept ((Below.refl Y.heap.size Y).alloc (Nat.le_refl _) (.cells #[.int .i64 ((q : Int) + 1), .int .i64 y] 44))).2 ⟨Y.heap.size, 0, none⟩ 1 1 [.int .i64 ((q : Int) + 1), .int .i64 y] rfl rfl (fun j u h => cells_new Y _ _ j u h) (by simp [Value.oneCell']) (by unfold maxLen; omega) (by omega) (by simp; omega) ?_; intro v' w3 hown' hg _ hat; obtain ⟨a', cap', rfl, hO'⟩ := OwnM.shape HL.out (by rw [HF.out, List.map_append]; exact hown'); have hgs := hg.size)
                have hk2 : ∀ b, b < Y.heap.size → some b ≠ (Value.slice a n cap).ownBlock → w3.heap[b]? = Y.heap[b]? := fun b h1 h2 => (hg.block b (by simp; omega) h2).trans (Below.heap_alloc Y (.cells #[.int .i64 ((q : Int) + 1), .int .i64 y] 44) b h1)
                simp only [World.size_alloc] at hgs
                have hw1 : some w.heap.size ≠ (Value.slice a n cap).ownBlock := fun e => by have := (hEY _ e.symm).1; omega
                have hB3 : Below w.heap.size Y w3 := ⟨hg.os, hg.tape, hg.output, by omega, fun b h => hk2 b (by omega) (fun e => by have := (hEY _ e.symm).1; omega)⟩
                have hne3 : ∀ g', g' < Y.heap.size → (Value.slice a n cap).ownBlock ≠ some g' → (Value.slice a' (n + 1) cap').ownBlock ≠ some g' := fun g' h1 h2 e => by
                  rcases hat with e2 | e2
                  · exact h2 (e2.symm.trans e)
                  · rw [e] at e2; simp at e2; omega
                have hgX : some g2 ≠ (Value.slice a n cap).ownBlock := fun e => HNE.out e.symm
                have hgoX : some g ≠ (Value.slice a n cap).ownBlock := fun e => HNEO.out e.symm
                clear hat hown' hg
                go_roundw
                case rel => exact ⟨(q + 1) + 1, a', n + 1, cap', g, s.size + 1, capc, g2, cap2, by omega, by go_num, rfl, rfl, (oldL_len G (s.size + 1) (q + 1)).symm, rfl, hO', HCOY.out.on (by omega) (hk2 g hgo hgoX), HCY.out.on (by omega) (hk2 g2 hgl hgX), hne3 g hgo HNEO.out, hne3 g2 hgl HNE.out, (World.cell?_of_block (w := Y) (hk2 w.heap.size (by omega) hw1)).trans d0, (World.cell?_of_block (w := Y) (hk2 w.heap.size (by omega) hw1)).trans d1, (World.cell?_of_block (w := Y) (hk2 w.heap.size (by omega) hw1)).trans d2, hbY.trans hB3, by omega⟩
                case measure => first | (simp [intOf]; done) | (simp [intOf]; omega)
              · have HF := Lib.hid (HF2 hle)
                clear HF1 HF2 HL1
                go_wp2_with fail
                go_quiet (fail)
                have hY := below_drewN (Below.refl w2.heap.size w2) nq
                have hYs : (w2.drewN nq).heap.size = w2.heap.size := by simp
                have HOY := Lib.hid (HO.out.kept hY)
                have d0 := (hY.cell (p := ⟨w.heap.size, 0, none⟩) (by show w.heap.size < _; omega)).trans c0
                have d1 := (hY.cell (p := ⟨w.heap.size, 1, none⟩) (by show w.heap.size < _; omega)).trans c1
                have d2 := (hY.cell (p := ⟨w.heap.size, 2, none⟩) (by show w.heap.size < _; omega)).trans c2
                have HCY := Lib.hid (HC.out.kept hY)
                have HCOY := Lib.hid (HCO.out.kept hY)
                have hbY := below_drewN hb nq
                generalize w2.drewN nq = Y at *
                clear hc c0 c1 c2 hY hb HO HC HCO
                go_wp2
                go_roundw
                case rel => exact ⟨(q + 1) + 1, a, n, cap, g, s.size + 1, capc, g2, cap2, by omega, by go_num, rfl, rfl, (oldL_len G (s.size + 1) (q + 1)).symm, rfl, by rw [HF.out]; exact HOY.out, HCOY.out, HCY.out, HNEO.out, HNE.out, d0, d1, d2, hbY, by omega⟩
                case measure => first | (simp [intOf]; done) | (simp [intOf]; omega)
            · obtain ⟨p, hpq⟩ : ∃ p, q - 1 = p := ⟨_, rfl⟩
              have p1 : IntKind.i64.wrap ((q : Int) + 1 - 2) = (q : Int) - 1 := by rw [IntKind.wrap_i64]; omega
              have p2 : (0 : Int) ≤ (q : Int) - 1 := by omega
              have p3 : (q : Int) - 1 < (r.size : Int) := by omega
              have p4 : (1 : Int) < (q : Int) + 1 := by omega
              have p5 : ((q : Int) - 1).toNat = p := by omega
              have hpr : p < r.size := by omega
              have hcp := r[p].toNat_lt
              have hbp := byteAt_eq r p hpr
              have HPQ := Lib.hid hpq
              clear hpq
              have C3 := Lib.hid (fun W hW => CALL2.out (r[p].toNat : Int) W hW (by omega) (by omega) (fun _ => by rw [HPQ.out, hbp]))
              clear CALL2 CALL
              go_wp2_with fail
              go_region_held3 (fun W => W.cell? ⟨w.heap.size, 0, none⟩ = some (.string s) ∧ W.cell? ⟨w.heap.size, 2, none⟩ = some (.bool f)) (first | with_reducible exact hSr | with_reducible exact hS2 | go_keep)
                (first | (go_at_call 41; with_reducible refine (C3.out _ ((Below.refl _ _).drew)).mono ?_; rintro e w2 ⟨a2, cap2, rfl, hO2, hb2d⟩; have hb2 := below_undrew hb2d; have hS2 := (⟨(hb2.cell (p := ⟨w.heap.size, 0, none⟩) (by show w.heap.size < _; omega)).trans c0, (hb2.cell (p := ⟨w.heap.size, 2, none⟩) (by show w.heap.size < _; omega)).trans c2⟩ : w2.cell? ⟨w.heap.size, 0, none⟩ = some (.string s) ∧ w2.cell? ⟨w.heap.size, 2, none⟩ = some (.bool f))))
              clear jw jw2
              obtain ⟨g2, rfl, hg2l, hg2u⟩ := hO2.head 0 (by omega)
              have c1' := (hb2.cell (p := ⟨w.heap.size, 1, none⟩) (by show w.heap.size < _; omega)).trans c1
              obtain ⟨c0', c2'⟩ := hS2
              simp only [heap_drew] at hg2l
              have HO2 := Lib.hid (HO.out.kept hb2)
              have HCO2 := Lib.hid (hOLD.out.kept hb2)
              have HC2 := Lib.hid (ColG.of hO2 hg2u)
              have HNE2 := Lib.hid (show (Value.slice a n cap).ownBlock ≠ some g2 from fun e => by have := (hEb _ e).2; omega)
              have hbw := hb.trans (hb2.mono hb.size)
              have hz2 : w.heap.size + 2 ≤ w2.heap.size := by have := hb2.size; omega
              have hgo2 : g < w2.heap.size := by have := hb2.size; omega
              have hc := HC2.out.2 s.size (by rw [tab_length]; omega)
              rw [intAt_tab _ _ _ (by omega), HD.out] at hc
              have hEb2 : ∀ q, (Value.slice a n cap).ownBlock = some q → w.heap.size + 1 ≤ q ∧ q < w2.heap.size := fun q hq => HO2.out.2.lt q hq
              clear hO2 hb2 hb2d c0 c1 c2 HO HNEO hb hz hgl hEb hSr hg2l HC HCO hgo C3 hOLD
              have HO := HO2; have HNEO := HNE; have hb := hbw; have hz := hz2; have hgl := hg2u; have hEb := hEb2; have c0 := c0'; have c1 := c1'; have c2 := c2'; have HC := HC2; have HCO := HCO2; have hgo := hgo2
              clear HO2 HNE hbw hz2 hg2u hEb2 c0' c1' c2' HC2 HCO2 hgo2
              have HNE := HNE2
              clear HNE2
              obtain ⟨y, hy2⟩ : ∃ y, swD s r f (q + 1) = y := ⟨_, rfl⟩
              have HF1 : y ≤ K → endF (swD s r f) K ((q + 1) + 1) = endF (swD s r f) K ((q + 1)) ++ [(((q + 1) : Nat) : Int), y] := fun h => by rw [← hy2] at h ⊢; simp [endF, h]
              have HF2 : ¬ y ≤ K → endF (swD s r f) K ((q + 1) + 1) = endF (swD s r f) K ((q + 1)) := fun h => by rw [← hy2] at h; simp [endF, h]
              have HL1 : y ≤ K → (endF (swD s r f) K ((q + 1) + 1)).length = (n + 1) * 2 := fun h => by rw [HF1 h, List.length_append, endF_length, ← HNL.out]; simp; omega
              have e9 : swD s r f ((q + 1)) = y := hy2
              rw [e9] at hc
              clear hy2 e9
              by_cases hle : y ≤ K
              · have HF := Lib.hid (HF1 hle); have HL := Lib.hid (HL1 hle)
                clear HF1 HF2 HL1
                go_wp2_with fail
                go_quiet (fail)
                have hY := below_drewN (Below.refl w2.heap.size w2) nq
                have hYs : (w2.drewN nq).heap.size = w2.heap.size := by simp
                have hcY := (hY.cell (p := ⟨g2, s.size, none⟩) hgl).trans hc
                have HOY := Lib.hid (HO.out.kept hY)
                have d0 := (hY.cell (p := ⟨w.heap.size, 0, none⟩) (by show w.heap.size < _; omega)).trans c0
                have d1 := (hY.cell (p := ⟨w.heap.size, 1, none⟩) (by show w.heap.size < _; omega)).trans c1
                have d2 := (hY.cell (p := ⟨w.heap.size, 2, none⟩) (by show w.heap.size < _; omega)).trans c2
                have HCY := Lib.hid (HC.out.kept hY)
                have HCOY := Lib.hid (HCO.out.kept hY)
                have hbY := below_drewN hb nq
                generalize w2.drewN nq = Y at *
                clear hc c0 c1 c2 hY hb HO HC HCO
                rw [← hYs] at hgl hgo hz
                have hEY : ∀ q, (Value.slice a n cap).ownBlock = some q → w.heap.size + 1 ≤ q ∧ q < Y.heap.size := fun q hq => HOY.out.2.lt q hq
                have HYS := Lib.hid hYs
                clear hYs hEb
                go_wp2_with (at_builtin; refine wpList_append_own_at _ rfl _ _ 39 rfl (w.heap.size + 1) 44 i0 (.agg #[.int .i64 0, .int .i64 0]) 2 16 Try.underlying39 hi ht0 ht1 ht2 rfl (by decide) _ _ _ rfl (HOY.out.kept ((Below.refl Y.heap.size Y).alloc (Nat.le_refl _) (.cells #[.int .i64 ((q : Int) + 1), .int .i64 y] 44))).2 ⟨Y.heap.size, 0, none⟩ 1 1 [.int .i64 ((q : Int) + 1), .int .i64 y] rfl rfl (fun j u h => cells_new Y _ _ j u h) (by simp [Value.oneCell']) (by unfold maxLen; omega) (by omega) (by simp; omega) ?_; intro v' w3 hown' hg _ hat; obtain ⟨a', cap', rfl, hO'⟩ := OwnM.shape HL.out (by rw [HF.out, List.map_append]; exact hown'); have hgs := hg.size)
                have hk2 : ∀ b, b < Y.heap.size → some b ≠ (Value.slice a n cap).ownBlock → w3.heap[b]? = Y.heap[b]? := fun b h1 h2 => (hg.block b (by simp; omega) h2).trans (Below.heap_alloc Y (.cells #[.int .i64 ((q : Int) + 1), .int .i64 y] 44) b h1)
                simp only [World.size_alloc] at hgs
                have hw1 : some w.heap.size ≠ (Value.slice a n cap).ownBlock := fun e => by have := (hEY _ e.symm).1; omega
                have hB3 : Below w.heap.size Y w3 := ⟨hg.os, hg.tape, hg.output, by omega, fun b h => hk2 b (by omega) (fun e => by have := (hEY _ e.symm).1; omega)⟩
                have hne3 : ∀ g', g' < Y.heap.size → (Value.slice a n cap).ownBlock ≠ some g' → (Value.slice a' (n + 1) cap').ownBlock ≠ some g' := fun g' h1 h2 e => by
                  rcases hat with e2 | e2
                  · exact h2 (e2.symm.trans e)
                  · rw [e] at e2; simp at e2; omega
                have hgX : some g2 ≠ (Value.slice a n cap).ownBlock := fun e => HNE.out e.symm
                have hgoX : some g ≠ (Value.slice a n cap).ownBlock := fun e => HNEO.out e.symm
                clear hat hown' hg
                go_roundw
                case rel => exact ⟨(q + 1) + 1, a', n + 1, cap', g, s.size + 1, capc, g2, cap2, by omega, by go_num, rfl, rfl, (oldL_len G (s.size + 1) (q + 1)).symm, rfl, hO', HCOY.out.on (by omega) (hk2 g hgo hgoX), HCY.out.on (by omega) (hk2 g2 hgl hgX), hne3 g hgo HNEO.out, hne3 g2 hgl HNE.out, (World.cell?_of_block (w := Y) (hk2 w.heap.size (by omega) hw1)).trans d0, (World.cell?_of_block (w := Y) (hk2 w.heap.size (by omega) hw1)).trans d1, (World.cell?_of_block (w := Y) (hk2 w.heap.size (by omega) hw1)).trans d2, hbY.trans hB3, by omega⟩
                case measure => first | (simp [intOf]; done) | (simp [intOf]; omega)
              · have HF := Lib.hid (HF2 hle)
                clear HF1 HF2 HL1
                go_wp2_with fail
                go_quiet (fail)
                have hY := below_drewN (Below.refl w2.heap.size w2) nq
                have hYs : (w2.drewN nq).heap.size = w2.heap.size := by simp
                have HOY := Lib.hid (HO.out.kept hY)
                have d0 := (hY.cell (p := ⟨w.heap.size, 0, none⟩) (by show w.heap.size < _; omega)).trans c0
                have d1 := (hY.cell (p := ⟨w.heap.size, 1, none⟩) (by show w.heap.size < _; omega)).trans c1
                have d2 := (hY.cell (p := ⟨w.heap.size, 2, none⟩) (by show w.heap.size < _; omega)).trans c2
                have HCY := Lib.hid (HC.out.kept hY)
                have HCOY := Lib.hid (HCO.out.kept hY)
                have hbY := below_drewN hb nq
                generalize w2.drewN nq = Y at *
                clear hc c0 c1 c2 hY hb HO HC HCO
                go_wp2
                go_roundw
                case rel => exact ⟨(q + 1) + 1, a, n, cap, g, s.size + 1, capc, g2, cap2, by omega, by go_num, rfl, rfl, (oldL_len G (s.size + 1) (q + 1)).symm, rfl, by rw [HF.out]; exact HOY.out, HCOY.out, HCY.out, HNEO.out, HNE.out, d0, d1, d2, hbY, by omega⟩
                case measure => first | (simp [intOf]; done) | (simp [intOf]; omega)
        · obtain rfl : k = r.size + 1 := by omega
          have HO := Lib.hid hO
          have hlt2 : ¬ (r.size : Int) + 1 ≤ (r.size : Int) := by omega
          clear hO hne hneo hCo hC hno
          go_wp2
          go_ret
          exact ⟨_, _, _, rfl, by rw [HR.out]; exact HO.out.mono (by omega), hb⟩
    · have HR := Lib.hid (show swEndsL s K f r = [] by unfold swEndsL; simp [h2])
      have HP := Lib.hid hp; clear hp
      have hd2 : decide (200 < (r.size : Int)) = true := by simp; omega
      go_enter Try.func23, Try.ntmps23
      go_wp2_with fail
      have hbx : Below w.heap.size w ((w.alloc (.cells #[.string s, .int .i64 K, .bool f] 36)).alloc (.cells #[] 44)) := (by repeat (first | exact Below.refl _ _ | assumption | (refine Below.drew ?_) | (refine below_drewN ?_ _) | (refine Below.alloc ?_ (by first | omega | (simp; done) | (simp; omega)) _) | (refine Below.setCell ?_ (by first | omega | (simp; done) | (simp; omega)) _)))
      have hO0 : OwnM 44 2 ((w.alloc (.cells #[.string s, .int .i64 K, .bool f] 36)).alloc (.cells #[] 44)) (w.heap.size + 1) (some ⟨w.heap.size + 1, 0, none⟩) 0 0 [] :=
        ⟨rfl, by have := World.ownsRow_made (base := w.heap.size + 1) (e := 44) (size := 2) (w.alloc (.cells #[.string s, .int .i64 K, .bool f] 36)) #[] 0 (by simp) (by decide) rfl; simpa using this⟩
      refine (spec_patternOk _ _ _ _ (by omega)).mono ?_
      rintro e w1 ⟨rfl, hb1⟩
      rw [HP.out]
      have HB := hbx.trans (hb1.mono hbx.size)
      have HO := hO0.kept hb1
      clear hb1 hbx hO0
      go_wp2_with fail
      go_ret
      exact ⟨_, _, _, rfl, by rw [HR.out]; exact HO.mono (by omega), HB⟩
end Go.Proofs.Ytgikjopmijomgab

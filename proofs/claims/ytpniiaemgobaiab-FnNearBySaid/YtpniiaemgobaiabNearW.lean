/-
  Chapter 15, the program: the walk over a tree that gathers the words that are near (by wip/tools/mk_nearwalk.py).
-/
import Derived.Test.YtpniiaemgobaiabNearU
import Derived.Test.YtpniiaemgobaiabNearIm
import Derived.Test.YtpniiaemgobaiabBkMem
import Derived.Test.YtpniiaemgobaiabAppV
namespace Go.Proofs.Ytpniiaemgobaiab
open Go.RowKit
set_option linter.unusedVariables false
set_option maxRecDepth 100000
theorem filter_both (p : Nat → Bool) : ∀ l : List Nat, (l.filter p).length + (l.filter fun x => !p x).length = l.length
  | [] => rfl
  | x :: l => by
    have ih := filter_both p l
    by_cases h : p x = true
    · rw [List.filter_cons_of_pos h, List.filter_cons_of_neg (by simp [h]), List.length_cons, List.length_cons]; omega
    · rw [List.filter_cons_of_neg h, List.filter_cons_of_pos (by simpa using h), List.length_cons, List.length_cons]; omega
theorem nodup_le : ∀ (n : Nat) (l : List Nat), l.Pairwise (· ≠ ·) → (∀ x ∈ l, x < n) → l.length ≤ n := by
  intro n
  induction n with
  | zero => intro l _ h; cases l with
    | nil => simp
    | cons x l => have := h x List.mem_cons_self; omega
  | succ n ih =>
    intro l hl h
    have h1 := ih (l.filter fun x => decide (x < n)) (hl.filter _) (fun x hx => by simpa using (List.mem_filter.1 hx).2)
    have h2 : (l.filter fun x => !decide (x < n)).length ≤ 1 := by
      have hp := hl.filter (fun x => !decide (x < n))
      have hm : ∀ x ∈ l.filter (fun x => !decide (x < n)), x = n := fun x hx => by
        obtain ⟨a, b⟩ := List.mem_filter.1 hx
        have := h x a
        simp at b; omega
      generalize l.filter (fun x => !decide (x < n)) = q at hp hm
      match q, hp, hm with
      | [], _, _ => simp
      | [x], _, _ => simp
      | x :: y :: q, hp, hm =>
        exfalso
        have e1 := hm x List.mem_cons_self
        have e2 := hm y (List.mem_cons_of_mem _ List.mem_cons_self)
        exact (List.pairwise_cons.1 hp).1 y List.mem_cons_self (e1.trans e2.symm)
    have h3 := filter_both (fun x => decide (x < n)) l
    omega
/-- the words of some places -/
def wdsB (L : List BkN) (P : List Nat) : List (List UInt8) := P.map fun j => bl (bkAt L j).t
def headB (L : List BkN) (s : ByteArray) (k : Int) (p : Nat) : List Nat := if distI (bkAt L p).t s false ≤ k then [p] else []
def okB (L : List BkN) (s : ByteArray) (k : Int) (p : Nat) (c : Nat) : Bool := decide (distI (bkAt L p).t s false - k ≤ (bkAt L c).d) && decide ((bkAt L c).d ≤ distI (bkAt L p).t s false + k)
/-- behind m kids -/
def partB (L : List BkN) (s : ByteArray) (k : Int) (f p m : Nat) : List Nat := headB L s k p ++ (((KB L p).take m).filter (okB L s k p)).flatMap (nearB L s k f)
theorem partB_all (L : List BkN) (s : ByteArray) (k : Int) (f p m : Nat) (h : (KB L p).length ≤ m) : partB L s k f p m = nearB L s k (f + 1) p := by
  unfold partB
  rw [List.take_of_length_le h]; rfl
theorem partB_none (L : List BkN) (s : ByteArray) (k : Int) (f p : Nat) : partB L s k f p 0 = headB L s k p := by
  unfold partB; simp
theorem partB_next (L : List BkN) (s : ByteArray) (k : Int) (f p m : Nat) (h : m < (KB L p).length) : partB L s k f p (m + 1) = partB L s k f p m ++ if okB L s k p ((KB L p).getD m 0) = true then nearB L s k f ((KB L p).getD m 0) else [] := by
  unfold partB
  have e : (KB L p).getD m 0 = (KB L p)[m] := by simp [List.getD_eq_getElem?_getD, h]
  rw [List.take_succ_eq_append_getElem h, List.filter_append, List.flatMap_append, ← List.append_assoc, e]
  congr 1
  by_cases ho : okB L s k p (KB L p)[m] = true
  · rw [if_pos ho]; simp [ho]
  · rw [if_neg ho]; simp [ho]
theorem partB_le (L : List BkN) (hu : UpB L) (s : ByteArray) (k : Int) (f p m : Nat) (hp : p < L.length) : (partB L s k f p m).length ≤ L.length := by
  have h1 : (nearB L s k (f + 1) p).length ≤ L.length := nodup_le _ _ (near_nodup hu s k (f + 1) p hp) fun x hx => (near_only hu s k (f + 1) p x hp hx).1
  have h2 : nearB L s k (f + 1) p = partB L s k f p m ++ (((KB L p).drop m).filter (okB L s k p)).flatMap (nearB L s k f) := by
    rw [← partB_all L s k f p (KB L p).length (Nat.le_refl _)]
    unfold partB
    rw [List.take_length, List.append_assoc, ← List.flatMap_append, ← List.filter_append, List.take_append_drop]
  rw [h2, List.length_append] at h1
  omega
theorem near_le {L : List BkN} (hu : UpB L) (s : ByteArray) (k : Int) (f p : Nat) (hp : p < L.length) : (nearB L s k f p).length ≤ L.length :=
  nodup_le _ _ (near_nodup hu s k f p hp) fun x hx => (near_only hu s k f p x hp hx).1
set_option maxHeartbeats 8000000 in
theorem impl_nearW (L : List BkN) (B : Nat) (A T : Nat → Nat) (ka : Nat → Option Addr) (kc : Nat → Nat) (s : ByteArray) (k : Int) (hU : UpB L) (hl : L.length ≤ 200) (hS : ∀ i, i < L.length → (bkAt L i).t.size ≤ 200) (hs : s.size ≤ 200) (hk0 : 0 ≤ k) (hk1 : k ≤ 20) :
    ∀ (f p : Nat) (w : World), BM w B L A T ka kc → p < L.length → L.length ≤ p + f → Calls Try.prog 57 #[.pointer (some ⟨A p, 0, none⟩), .string s, .int .i64 k] w fun e w' => ∃ a n cap, e = .returned (.slice a n cap) ∧ n = (wdsB L (nearB L s k f p)).length ∧ OwnV 9 1 w' w.heap.size a n cap (strs (wdsB L (nearB L s k f p))) ∧ Below w.heap.size w w' := by
  obtain ⟨i0, hi, ht0, ht1, ht2⟩ := info_parts str_info
  intro f
  induction f with
  | zero => intro p w h hp hf; omega
  | succ f ih =>
    intro p w h hp hf
    have hA := h.blk p hp
    have c1 : w.cell? ⟨A p, 1, none⟩ = some (.string (bkAt L p).t) := by rw [cell_of_row _ _ 1 _ _ _ hA]; rfl
    have c4 : w.cell? ⟨A p, 4, none⟩ = some (.slice (ka p) (KB L p).length (kc p)) := by rw [cell_of_row _ _ 4 _ _ _ hA]; rfl
    have hAl := h.lt hp
    have HOW := Lib.hid (h.own p hp)
    have HH := Lib.hid h
    have hkl := KB_len L p
    have HIN := Lib.hid (fun j (hj : j ∈ KB L p) => KB_in hj)
    have HPN := Lib.hid (partB_next L s k f p)
    have HPA := Lib.hid (partB_all L s k f p)
    have HPL := Lib.hid (fun m => partB_le L hU s k f p m hp)
    have HP0 := Lib.hid (partB_none L s k f p)
    have HNL := Lib.hid (fun y hy => near_le hU s k f y hy)
    have HS := Lib.hid hS
    have hsz := hS p hp
    have hbd := dist_bnd (bkAt L p).t s false hsz hs
    obtain ⟨d, hd⟩ : ∃ d, distI (bkAt L p).t s false = d := ⟨_, rfl⟩
    have HD := Lib.hid hd
    rw [hd] at hbd
    have hd0 : 0 ≤ d := hbd.2.1
    have hd1 : d ≤ 200 := by omega
    have dk1 : IntKind.i64.wrap (d - k) = d - k := by rw [IntKind.wrap_i64]; omega
    have dk2 : IntKind.i64.wrap (d + k) = d + k := by rw [IntKind.wrap_i64]; omega
    obtain ⟨x, hx⟩ : ∃ x, (bkAt L p).t = x := ⟨_, rfl⟩
    rw [hx] at c1 hsz
    have HX := Lib.hid hx
    have HDX := Lib.hid (show distI x s false = d by rw [← hx]; exact hd)
    have hxs : x.size ≤ 1048576 := by omega
    have hss : s.size ≤ 1048576 := by omega
    have HIH := Lib.hid ih
    have hL2 : L.length ≤ 1048576 := by omega
    have HHD : Hid (headB L s k p = if d ≤ k then [p] else []) := by show _ = _; unfold headB; rw [HD.out]
    have HOK : Hid (∀ c, okB L s k p c = (decide (d - k ≤ (bkAt L c).d) && decide ((bkAt L c).d ≤ d + k))) := fun c => by unfold okB; rw [HD.out]
    obtain ⟨K, hK⟩ : ∃ K, KB L p = K := ⟨_, rfl⟩
    rw [hK] at c4 HOW HIN HPN HPA hkl
    obtain ⟨ka', hka⟩ : ∃ x, ka p = x := ⟨_, rfl⟩
    obtain ⟨kc', hkc⟩ : ∃ x, kc p = x := ⟨_, rfl⟩
    rw [hka, hkc] at c4 HOW
    clear hA h ih hS hbd hd hx hK hka hkc
    by_cases hdk : d ≤ k
    · have HH0 := Lib.hid (show headB L s k p = [p] by rw [HHD.out, if_pos hdk])
      go_enter Try.func57, Try.ntmps57
      go_wp2_with (first
        | (go_at_call 17; refine (impl_distance x s false _ hxs hss).mono ?_; rintro e w2 ⟨rfl, hb2⟩; rw [HDX.out]; have HB2 := Lib.hid hb2; have c1b := (hb2.cell (p := ⟨A p, 1, none⟩) hAl).trans c1; have c4b := (hb2.cell (p := ⟨A p, 4, none⟩) hAl).trans c4; clear hb2)
        | (go_at_call 44; refine (str_clone x _ hxs).mono ?_; rintro e w3 ⟨rfl, hb3⟩; have HB3 := Lib.hid (HB2.out.trans (hb3.mono HB2.out.size)); have c4c := (hb3.cell (p := ⟨A p, 4, none⟩) (by have := HB2.out.size; show A p < _; omega)).trans c4b; clear hb3)
        | (at_builtin; refine wpList_append_own _ rfl _ _ 24 rfl w.heap.size 9 i0 (.string ⟨#[]⟩) 1 16 Try.underlying24 hi ht0 ht1 ht2 rfl (by decide) (.slice none 0 0) 0 [] rfl (World.ownsRow_nil _ _ _ _) ⟨w3.heap.size, 0, none⟩ 1 1 [Value.string x] rfl rfl (fun j u h => cells_new w3 _ _ j u h) (by simp [Value.oneCell']) (by unfold maxLen; omega) (by omega) (by have := HB3.out.size; simp; omega) ?_; intro v4 w4 hown4 hg4 _; have hz3 := HB3.out.size; have HB4 := Lib.hid ((HB3.out.alloc HB3.out.size (.cells #[Value.string x] 9)).grown hg4 (by simp; omega) (fun q hq => by cases hq)); have c4d := (hg4.cell (a := ⟨A p, 4, none⟩) (by rw [World.cell?_of_block (Below.heap_alloc w3 (.cells #[Value.string x] 9) (A p) (by omega))]; exact c4c) (by simp [Value.ownBlock])); obtain ⟨a4, cp4, rfl, hO4⟩ := OwnV.shape (show (strs (wdsB L [p])).length = 1 * 1 by simp [wdsB, strs]) (by have e : strs (wdsB L [p]) = [] ++ [Value.string x] := (by simp [wdsB, strs, strV, txt_bl, HX.out]); rw [e]; exact hown4); clear hown4 hg4))
      go_loopw [8, 33] (fun o i wr => ∃ (m : Nat) (a : Option Addr) (n cap : Nat), m ≤ K.length ∧ i = .int .i64 (m : Int) ∧ o = .slice a n cap ∧ n = (wdsB L (partB L s k f p m)).length ∧ OwnV 9 1 wr w.heap.size a n cap (strs (wdsB L (partB L s k f p m))) ∧ Below w.heap.size w wr)
        (fun _ i _ => K.length - (intOf i).toNat)
      case atStart => exact ⟨0, a4, 1, cp4, by omega, rfl, rfl, by rw [HP0.out, HH0.out]; rfl, by rw [HP0.out, HH0.out]; exact hO4, HB4.out⟩
      case round =>
        obtain ⟨m, a, n, cap, hm, rfl, rfl, hn, hO, hb⟩ := hrel
        by_cases hlt : m < K.length
        · have hM := HH.out.kept hb
          obtain ⟨b4, o4, rfl, hI⟩ := (HOW.out.kept hb).vals.at m (by simpa using hlt)
          have d4 := hI m (by simpa using hlt)
          rw [ptrsB_at A K m hlt] at d4
          have hk := HIN.out (K.getD m 0) (by rw [List.getD_eq_getElem?_getD, List.getElem?_eq_getElem hlt]; exact List.getElem_mem hlt)
          have hA' := hM.blk _ hk.2.1
          have hnx := HPN.out m hlt
          have hnle := HPL.out m
          obtain ⟨y, hy⟩ : ∃ y, K.getD m 0 = y := ⟨_, rfl⟩
          rw [hy] at d4 hk hA' hnx
          have e1 : wr.cell? ⟨A y, 2, none⟩ = some (.int .i64 (bkAt L y).d) := by rw [cell_of_row _ _ 2 _ _ _ hA']; rfl
          have hok := HOK.out y
          obtain ⟨z, hz⟩ : ∃ z, (bkAt L y).d = z := ⟨_, rfl⟩
          rw [hz] at e1 hok
          unfold ptrB at d4
          have hyl := hk.2.1
          have hyp := hk.1
          have HY := Lib.hid (HNL.out y hyl)
          have HM := Lib.hid hM; have HO := Lib.hid hO; have HB := Lib.hid hb; have HN := Lib.hid hn; have HNX := Lib.hid hnx
          have hn2 : n ≤ 200 := by rw [hn]; unfold wdsB; rw [List.length_map]; omega
          have CALL := Lib.hid (HIH.out y wr hM hyl (by omega))
          clear hI hA' hk hy hz hM hO hb hn hnx hnle
          by_cases h1 : d - k ≤ z
          · have g1 : decide (d - k ≤ z) = true := by simpa using h1
            by_cases h2 : z ≤ d + k
            · have g2 : decide (z ≤ d + k) = true := by simpa using h2
              have HE := Lib.hid (show partB L s k f p (m + 1) = partB L s k f p m ++ nearB L s k f y by rw [HNX.out, hok, g1, g2]; rfl)
              clear hok
              go_wp2_with (first
                | (go_at_call 57; refine CALL.out.mono ?_; rintro e w5 ⟨a5, n5, cp5, rfl, hn5, hO5, hb5⟩; have HO5 := Lib.hid hO5; have HN5 := Lib.hid hn5; have HOK5 := Lib.hid (HO.out.kept hb5); have HB5 := Lib.hid (HB.out.trans (hb5.mono HB.out.size)); have hn5b : n5 ≤ 200 := (by rw [hn5]; unfold wdsB; rw [List.length_map]; have := HY.out; omega); clear hO5 hb5 hn5)
                | (at_builtin; refine wpList_append_vals rfl _ _ 24 rfl w.heap.size 9 i0 (.string ⟨#[]⟩) 1 16 Try.underlying24 hi ht0 ht1 ht2 rfl (by decide) _ _ _ rfl HOK5.out.2 a5 n5 cp5 (strs (wdsB L (nearB L s k f y))) rfl HO5.out.1 HO5.out.vals.news (strs_one _) (by unfold maxLen; omega) (by omega) (by have := HB5.out.size; omega) ?_; intro v6 w6 hown6 hg6; have HB6 := Lib.hid (HB5.out.trans (HOK5.out.turn HB5.out.size hg6)); obtain ⟨a6, cp6, rfl, hO6⟩ := OwnV.shape (show (strs (wdsB L (partB L s k f p (m + 1)))).length = (n + n5) * 1 by rw [HE.out]; unfold wdsB; rw [List.map_append, strs_append, List.length_append, strs_length, strs_length, HN.out, HN5.out]; unfold wdsB; omega) (by have e : strs (wdsB L (partB L s k f p (m + 1))) = strs (wdsB L (partB L s k f p m)) ++ strs (wdsB L (nearB L s k f y)) := (by rw [HE.out]; unfold wdsB; rw [List.map_append, strs_append]); rw [e]; exact hown6); clear hown6 hg6))
              go_roundw
              case rel => exact ⟨m + 1, a6, n + n5, cp6, by omega, by go_num, rfl, by rw [HE.out]; unfold wdsB; rw [List.map_append, List.length_append, HN.out, HN5.out]; rfl, hO6, HB6.out⟩
              case measure => simp [intOf]; omega
            · have g2 : decide (z ≤ d + k) = false := by simpa using h2
              have HE := Lib.hid (show partB L s k f p (m + 1) = partB L s k f p m by rw [HNX.out, hok, g1, g2]; simp)
              clear hok CALL
              go_wp2
              go_roundw
              case rel => exact ⟨m + 1, a, n, cap, by omega, by go_num, rfl, by rw [HE.out]; exact HN.out, by rw [HE.out]; exact HO.out, HB.out⟩
              case measure => simp [intOf]; omega
          · have g1 : decide (d - k ≤ z) = false := by simpa using h1
            have HE := Lib.hid (show partB L s k f p (m + 1) = partB L s k f p m by rw [HNX.out, hok, g1]; simp)
            clear hok CALL
            go_wp2
            go_roundw
            case rel => exact ⟨m + 1, a, n, cap, by omega, by go_num, rfl, by rw [HE.out]; exact HN.out, by rw [HE.out]; exact HO.out, HB.out⟩
            case measure => simp [intOf]; omega
        · have hme : m = K.length := by omega
          have HE := Lib.hid (HPA.out m (by omega))
          have HO := Lib.hid hO; have HN := Lib.hid hn
          clear hO hn
          go_wp2
          go_ret
          exact ⟨a, n, cap, rfl, by rw [← HE.out]; exact HN.out, by rw [← HE.out]; exact HO.out, hb⟩
    · have HH0 := Lib.hid (show headB L s k p = [] by rw [HHD.out, if_neg hdk])
      go_enter Try.func57, Try.ntmps57
      have hdk2 : ¬ d ≤ k := hdk
      go_wp2_with (go_at_call 17; refine (impl_distance x s false _ hxs hss).mono ?_; rintro e w2 ⟨rfl, hb2⟩; rw [HDX.out]; have HB2 := Lib.hid hb2; have c1b := (hb2.cell (p := ⟨A p, 1, none⟩) hAl).trans c1; have c4b := (hb2.cell (p := ⟨A p, 4, none⟩) hAl).trans c4; clear hb2)
      go_loopw [8, 33] (fun o i wr => ∃ (m : Nat) (a : Option Addr) (n cap : Nat), m ≤ K.length ∧ i = .int .i64 (m : Int) ∧ o = .slice a n cap ∧ n = (wdsB L (partB L s k f p m)).length ∧ OwnV 9 1 wr w.heap.size a n cap (strs (wdsB L (partB L s k f p m))) ∧ Below w.heap.size w wr)
        (fun _ i _ => K.length - (intOf i).toNat)
      case atStart => exact ⟨0, none, 0, 0, by omega, rfl, rfl, by rw [HP0.out, HH0.out]; rfl, by rw [HP0.out, HH0.out]; exact OwnV.nil _ _, HB2.out⟩
      case round =>
        obtain ⟨m, a, n, cap, hm, rfl, rfl, hn, hO, hb⟩ := hrel
        by_cases hlt : m < K.length
        · have hM := HH.out.kept hb
          obtain ⟨b4, o4, rfl, hI⟩ := (HOW.out.kept hb).vals.at m (by simpa using hlt)
          have d4 := hI m (by simpa using hlt)
          rw [ptrsB_at A K m hlt] at d4
          have hk := HIN.out (K.getD m 0) (by rw [List.getD_eq_getElem?_getD, List.getElem?_eq_getElem hlt]; exact List.getElem_mem hlt)
          have hA' := hM.blk _ hk.2.1
          have hnx := HPN.out m hlt
          have hnle := HPL.out m
          obtain ⟨y, hy⟩ : ∃ y, K.getD m 0 = y := ⟨_, rfl⟩
          rw [hy] at d4 hk hA' hnx
          have e1 : wr.cell? ⟨A y, 2, none⟩ = some (.int .i64 (bkAt L y).d) := by rw [cell_of_row _ _ 2 _ _ _ hA']; rfl
          have hok := HOK.out y
          obtain ⟨z, hz⟩ : ∃ z, (bkAt L y).d = z := ⟨_, rfl⟩
          rw [hz] at e1 hok
          unfold ptrB at d4
          have hyl := hk.2.1
          have hyp := hk.1
          have HY := Lib.hid (HNL.out y hyl)
          have HM := Lib.hid hM; have HO := Lib.hid hO; have HB := Lib.hid hb; have HN := Lib.hid hn; have HNX := Lib.hid hnx
          have hn2 : n ≤ 200 := by rw [hn]; unfold wdsB; rw [List.length_map]; omega
          have CALL := Lib.hid (HIH.out y wr hM hyl (by omega))
          clear hI hA' hk hy hz hM hO hb hn hnx hnle
          by_cases h1 : d - k ≤ z
          · have g1 : decide (d - k ≤ z) = true := by simpa using h1
            by_cases h2 : z ≤ d + k
            · have g2 : decide (z ≤ d + k) = true := by simpa using h2
              have HE := Lib.hid (show partB L s k f p (m + 1) = partB L s k f p m ++ nearB L s k f y by rw [HNX.out, hok, g1, g2]; rfl)
              clear hok
              go_wp2_with (first
                | (go_at_call 57; refine CALL.out.mono ?_; rintro e w5 ⟨a5, n5, cp5, rfl, hn5, hO5, hb5⟩; have HO5 := Lib.hid hO5; have HN5 := Lib.hid hn5; have HOK5 := Lib.hid (HO.out.kept hb5); have HB5 := Lib.hid (HB.out.trans (hb5.mono HB.out.size)); have hn5b : n5 ≤ 200 := (by rw [hn5]; unfold wdsB; rw [List.length_map]; have := HY.out; omega); clear hO5 hb5 hn5)
                | (at_builtin; refine wpList_append_vals rfl _ _ 24 rfl w.heap.size 9 i0 (.string ⟨#[]⟩) 1 16 Try.underlying24 hi ht0 ht1 ht2 rfl (by decide) _ _ _ rfl HOK5.out.2 a5 n5 cp5 (strs (wdsB L (nearB L s k f y))) rfl HO5.out.1 HO5.out.vals.news (strs_one _) (by unfold maxLen; omega) (by omega) (by have := HB5.out.size; omega) ?_; intro v6 w6 hown6 hg6; have HB6 := Lib.hid (HB5.out.trans (HOK5.out.turn HB5.out.size hg6)); obtain ⟨a6, cp6, rfl, hO6⟩ := OwnV.shape (show (strs (wdsB L (partB L s k f p (m + 1)))).length = (n + n5) * 1 by rw [HE.out]; unfold wdsB; rw [List.map_append, strs_append, List.length_append, strs_length, strs_length, HN.out, HN5.out]; unfold wdsB; omega) (by have e : strs (wdsB L (partB L s k f p (m + 1))) = strs (wdsB L (partB L s k f p m)) ++ strs (wdsB L (nearB L s k f y)) := (by rw [HE.out]; unfold wdsB; rw [List.map_append, strs_append]); rw [e]; exact hown6); clear hown6 hg6))
              go_roundw
              case rel => exact ⟨m + 1, a6, n + n5, cp6, by omega, by go_num, rfl, by rw [HE.out]; unfold wdsB; rw [List.map_append, List.length_append, HN.out, HN5.out]; rfl, hO6, HB6.out⟩
              case measure => simp [intOf]; omega
            · have g2 : decide (z ≤ d + k) = false := by simpa using h2
              have HE := Lib.hid (show partB L s k f p (m + 1) = partB L s k f p m by rw [HNX.out, hok, g1, g2]; simp)
              clear hok CALL
              go_wp2
              go_roundw
              case rel => exact ⟨m + 1, a, n, cap, by omega, by go_num, rfl, by rw [HE.out]; exact HN.out, by rw [HE.out]; exact HO.out, HB.out⟩
              case measure => simp [intOf]; omega
          · have g1 : decide (d - k ≤ z) = false := by simpa using h1
            have HE := Lib.hid (show partB L s k f p (m + 1) = partB L s k f p m by rw [HNX.out, hok, g1]; simp)
            clear hok CALL
            go_wp2
            go_roundw
            case rel => exact ⟨m + 1, a, n, cap, by omega, by go_num, rfl, by rw [HE.out]; exact HN.out, by rw [HE.out]; exact HO.out, HB.out⟩
            case measure => simp [intOf]; omega
        · have hme : m = K.length := by omega
          have HE := Lib.hid (HPA.out m (by omega))
          have HO := Lib.hid hO; have HN := Lib.hid hn
          clear hO hn
          go_wp2
          go_ret
          exact ⟨a, n, cap, rfl, by rw [← HE.out]; exact HN.out, by rw [← HE.out]; exact HO.out, hb⟩
end Go.Proofs.Ytpniiaemgobaiab

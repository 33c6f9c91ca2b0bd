/-
  Chapter 18's model: SwapDist.
-/
import Derived.Test.YtgikjopmijomgabL18S
import Derived.Test.YtgikjopmijomgabL18Dist
import Derived.Test.YtgikjopmijomgabL3DistS
namespace Go.Proofs.Ytgikjopmijomgab
open Go.RowKit
set_option linter.unusedVariables false
set_option maxRecDepth 100000
theorem eqI_fold (s r : ByteArray) (f : Bool) (i k : Nat) (hi : i < s.size) (hk : k < r.size) : eqI ((byteAt s i).toNat) ((byteAt r k).toNat) f = (byteAt (foldIf f s) i == byteAt (foldIf f r) k) := by
  rw [eqI_foldB]
  cases f
  · rfl
  · simp only [foldIf, if_true]
    rw [byteAt_foldS s i hi, byteAt_foldS r k hk]
theorem swapMin_congr {y y' : Bool} {m m' o o' : Int} (h1 : y = y') (h2 : m = m') (h3 : y' = true → o = o') : swapMin y m o = swapMin y' m' o' := by
  subst h1 h2
  cases y
  · rfl
  · rw [h3 rfl]
theorem sw_rel (s r : ByteArray) (f : Bool) (rise : Int) (k : Nat) (hk : k < r.size) (OL LL : List Int) (no : Nat) (last : Int) (hL : ∀ i, i ≤ s.size → intAt LL i = swAt (foldIf f s) (foldIf f r) rise k i) (hn : 0 < no ↔ 0 < k)
    (hO : 0 < k → ∀ i, i ≤ s.size → intAt OL i = swAt (foldIf f s) (foldIf f r) rise (k - 1) i) (hl : 0 < k → last = ((byteAt r (k - 1)).toNat : Int)) (i : Nat) (hi : i < s.size) :
    swAt (foldIf f s) (foldIf f r) rise (k + 1) (i + 1) = swapMin (decide (0 < i) && decide (0 < no) && eqI ((byteAt s i).toNat) last f && eqI ((byteAt s (i - 1)).toNat) ((byteAt r k).toNat) f) (min3 (if maskG s f ((byteAt r k).toNat) i then intAt LL i else intAt LL i + 1) (intAt LL (i + 1) + 1) (swAt (foldIf f s) (foldIf f r) rise (k + 1) i + 1)) (intAt OL (i - 1)) := by
  rw [sw_step]
  refine swapMin_congr ?_ ?_ ?_
  · unfold swapB
    by_cases hk0 : 0 < k
    · have e : decide (0 < no) = decide (0 < k) := decide_eq_decide.2 hn
      rw [hl hk0, eqI_fold s r f i (k - 1) hi (by omega), eqI_fold s r f (i - 1) k (by omega) hk, e]
    · have e : decide (0 < k) = false := decide_eq_false hk0
      have e2 : decide (0 < no) = false := decide_eq_false fun h => hk0 (hn.1 h)
      rw [e, e2]; simp
  · have hm : maskG s f ((byteAt r k).toNat) i = (byteAt (foldIf f s) i == byteAt (foldIf f r) k) := eqI_fold s r f i k hi hk
    rw [hm, hL i (by omega), hL (i + 1) (by omega)]
    congr 1
    unfold df
    by_cases e : byteAt (foldIf f s) i = byteAt (foldIf f r) k
    · rw [if_pos e, if_pos (by simpa using e)]; simp
    · rw [if_neg e, if_neg (by simpa using e)]; rfl
  · intro h
    simp only [Bool.and_eq_true, decide_eq_true_eq] at h
    have hk0 : 0 < k := hn.1 h.1.1.2
    exact (hO hk0 (i - 1) (by omega)).symm
def oldL (G : Nat → Nat → Int) (n : Nat) : Nat → List Int
  | 0 => []
  | k + 1 => tab (G k) n
theorem oldL_len (G : Nat → Nat → Int) (n k : Nat) : (oldL G n k).length = if k = 0 then 0 else n := by
  cases k
  · rfl
  · simp [oldL, tab_length]
theorem oldL_at (G : Nat → Nat → Int) (n k i : Nat) (hk : 0 < k) (hi : i < n) : intAt (oldL G n k) i = G (k - 1) i := by
  obtain ⟨k, rfl⟩ : ∃ j, k = j + 1 := ⟨k - 1, by omega⟩
  exact intAt_tab _ _ _ hi
set_option maxHeartbeats 4000000 in
theorem spec_swapDist (s r : ByteArray) (f : Bool) (w : World) (hs : s.size ≤ 1048576) (hr : r.size ≤ 1048576) :
    Calls Try.prog 18 #[.string s, .string r, .bool f] w fun e w' => e = .returned (.int .i64 (swDI s r f)) ∧ Below w.heap.size w w' := by
  by_cases h1 : s.size ≤ 200
  · by_cases h2 : r.size ≤ 200
    · have hd1 : decide (200 < (s.size : Int)) = false := by simp; omega
      have hd2 : decide (200 < (r.size : Int)) = false := by simp; omega
      have HR := Lib.hid (swDI_yes (f := f) ⟨h1, h2⟩)
      obtain ⟨G, hG⟩ : ∃ G, swAt (foldIf f s) (foldIf f r) 1 = G := ⟨_, rfl⟩
      have HB : Hid (∀ k i, 0 ≤ G k i ∧ G k i ≤ (i : Int) + k) := fun k i => by rw [← hG]; exact sw_bnd _ _ (by decide) (by decide) k i
      have HH : Hid (∀ k, G k 0 = (k : Int)) := fun k => by rw [← hG]; exact sw_head _ _ k
      have H0 : Hid (∀ i, G 0 i = (i : Int)) := fun i => by rw [← hG]; exact sw_first _ _ _ i
      have HS : Hid (∀ (k : Nat) (OL LL : List Int) (no : Nat) (last : Int), k < r.size → (∀ i, i ≤ s.size → intAt LL i = G k i) → (0 < no ↔ 0 < k) → (0 < k → ∀ i, i ≤ s.size → intAt OL i = G (k - 1) i) → (0 < k → last = ((byteAt r (k - 1)).toNat : Int)) → ∀ i, i < s.size → G (k + 1) (i + 1) = swapMin (decide (0 < i) && decide (0 < no) && eqI ((byteAt s i).toNat) last f && eqI ((byteAt s (i - 1)).toNat) ((byteAt r k).toNat) f) (min3 (if maskG s f ((byteAt r k).toNat) i then intAt LL i else intAt LL i + 1) (intAt LL (i + 1) + 1) (G (k + 1) i + 1)) (intAt OL (i - 1))) := by
        intro k OL LL no last hk a1 a2 a3 a4 i hi
        rw [← hG] at a1 a3 ⊢
        exact sw_rel s r f 1 k hk OL LL no last a1 a2 a3 a4 i hi
      have HRR : Hid (swDI s r f = G r.size s.size) := by show _ = _; rw [← hG]; exact HR.out
      clear hG HR
      go_enter Try.func18, Try.ntmps18
      go_wp2_with fail
      have hI0 : Ints (w.alloc (.cells #[] 2)) (some ⟨w.heap.size, 0, none⟩) [] := .inr ⟨w.heap.size, 0, rfl, fun i hi => by simp at hi⟩
      have hba : Below w.heap.size w (w.alloc (.cells #[] 2)) := (Below.refl _ _).alloc (Nat.le_refl _) _
      generalize w.alloc (.cells #[] 2) = V at *
      refine (spec_l3First s _ hs).mono ?_
      rintro e w1 ⟨a1, cap1, rfl, hO1, hb1⟩
      have hI1 : Ints w1 a1 (tab (G 0) (s.size + 1)) := by
        have e : tab idI (s.size + 1) = tab (G 0) (s.size + 1) := tab_congr fun i hi => (H0.out i).symm
        rw [← e]; exact hO1.ints
      have hI2 : Ints w1 (some ⟨w.heap.size, 0, none⟩) (oldL G (s.size + 1) 0) := hI0.kept hb1
      have hB1 := hba.trans (hb1.mono hba.size)
      clear hO1 hb1 hba hI0
      go_wp2
      go_loopw [7, 8, 9] (fun o v i wr => ∃ (k : Nat) (ao a : Option Addr) (no co cap : Nat), k ≤ r.size ∧ i = .int .i64 k ∧ o = .slice ao no co ∧ no = (oldL G (s.size + 1) k).length ∧ v = .slice a (s.size + 1) cap ∧ Ints wr ao (oldL G (s.size + 1) k) ∧ Ints wr a (tab (G k) (s.size + 1)) ∧ Below w.heap.size w wr)
        (fun _ _ i _ => r.size - (intOf i).toNat)
      case atStart => exact ⟨0, _, a1, _, _, cap1, by omega, rfl, rfl, rfl, rfl, hI2, hI1, hB1⟩
      case round =>
        obtain ⟨k, ao, a, no, co, cap, hk, rfl, rfl, hno, rfl, hIo, hI, hb⟩ := hrel
        by_cases hlt : k < r.size
        · have hby := byteAt_eq r k hlt
          have hch := r[k].toNat_lt
          rw [oldL_len] at hno
          have kw : IntKind.i64.wrap ((k : Int) + 1) = (k : Int) + 1 := by rw [IntKind.wrap_i64]; omega
          have HIo := Lib.hid hIo; have HI := Lib.hid hI
          have HBY := Lib.hid hby
          have HT1 : Hid (∀ i, i ≤ s.size → intAt (tab (G k) (s.size + 1)) i = G k i) := fun i hi => intAt_tab _ _ _ (by omega)
          have HT2 : Hid (0 < k → ∀ i, i ≤ s.size → intAt (oldL G (s.size + 1) k) i = G (k - 1) i) := fun h i hi => oldL_at G _ k i h (by omega)
          have HOl := Lib.hid (oldL_len G (s.size + 1) k)
          have CALL : Hid (∀ (last : Int) (W : World), Below wr.heap.size wr W → 0 ≤ last → last ≤ 255 → (0 < k → last = ((byteAt r (k - 1)).toNat : Int)) → Calls Try.prog 41 #[.string s, .bool f, .slice ao no co, .slice a (s.size + 1) cap, .int .u8 last, .int .u8 (r[k].toNat : Int), .int .i64 ((k : Int) + 1)] W fun e w' => ∃ a' cap', e = .returned (.slice a' (s.size + 1) cap') ∧ OwnN w' W.heap.size a' (s.size + 1) cap' (tab (G (k + 1)) (s.size + 1)) ∧ Below W.heap.size W w') := by
            intro last W hW l0 l1 hl
            refine spec_l18Next s f (oldL G (s.size + 1) k) (tab (G k) (s.size + 1)) ao a no co cap last (r[k].toNat : Int) ((k : Int) + 1) (G (k + 1)) W h1 (by rw [hno]; split <;> simp) (HIo.out.kept hW) (by rw [HOl.out, hno]) (HI.out.kept hW) (tab_length _ _) (fun i hi => by rw [HT1.out i hi]; have := HB.out k i; omega) (fun i hi => by have hk0 : 0 < k := (by rw [hno] at hi; split at hi <;> omega); rw [HT2.out hk0 i (by rw [hno] at hi; split at hi <;> omega)]; have h9 : i ≤ s.size := (by rw [hno] at hi; split at hi <;> omega); have := HB.out (k - 1) i; omega) (fun i hi => by have := HB.out (k + 1) i; omega) (by omega) (by omega) l0 l1 (by omega) (by omega) (by rw [HH.out]; simp) ?_
            intro i hi
            have := HS.out k (oldL G (s.size + 1) k) (tab (G k) (s.size + 1)) no last hlt HT1.out (by rw [hno]; split <;> omega) HT2.out hl i hi
            rw [HBY.out] at this
            exact this
          have HNO := Lib.hid hno
          clear hIo hI hby hno
          by_cases hk0 : k = 0
          · subst hk0
            go_wp2_with fail
            refine (CALL.out 0 wr (Below.refl _ _) (by omega) (by omega) (fun h => absurd h (by omega))).mono ?_
            rintro e w2 ⟨a2, cap2, rfl, hO2, hb2⟩
            have hB2 := below_step hb hb2
            have hIn : Ints w2 a (oldL G (s.size + 1) (0 + 1)) := HI.out.kept hb2
            have hl9 := tab_length (G 0) (s.size + 1)
            have hI2' := hO2.ints
            clear hO2 hb2
            go_wp2
            go_roundw
            case rel => exact ⟨0 + 1, a, a2, s.size + 1, cap, cap2, by omega, by go_num, rfl, hl9.symm, rfl, hIn, hI2', hB2⟩
            case measure => simp [intOf]; omega
          · obtain ⟨q, rfl⟩ : ∃ q, k = q + 1 := ⟨k - 1, by omega⟩
            have q1 : IntKind.i64.wrap ((q : Int) + 1 - 1) = (q : Int) := by rw [IntKind.wrap_i64]; omega
            have q0 : (0 : Int) ≤ (q : Int) := by omega
            have q2 : (q : Int) < (r.size : Int) := by omega
            have q3 : (0 : Int) < (q : Int) + 1 := by omega
            have q4 : (q : Int) + 1 < (r.size : Int) := by omega
            have q5 : (0 : Int) ≤ (q : Int) + 1 := by omega
            have q6 : ((q : Int) + 1).toNat = q + 1 := by omega
            have hcq := r[q].toNat_lt
            have hbq := byteAt_eq r q (by omega)
            go_wp2_with fail
            refine (CALL.out (r[q].toNat : Int) wr (Below.refl _ _) (by omega) (by omega) (fun _ => by rw [Nat.add_sub_cancel, hbq])).mono ?_
            rintro e w2 ⟨a2, cap2, rfl, hO2, hb2⟩
            have hB2 := below_step hb hb2
            have hIn : Ints w2 a (oldL G (s.size + 1) (q + 1 + 1)) := HI.out.kept hb2
            have hl9 := tab_length (G (q + 1)) (s.size + 1)
            have hI2' := hO2.ints
            clear hO2 hb2
            go_wp2
            go_roundw
            case rel => exact ⟨q + 1 + 1, a, a2, s.size + 1, cap, cap2, by omega, by go_num, rfl, hl9.symm, rfl, hIn, hI2', hB2⟩
            case measure => simp [intOf]; omega
        · obtain rfl : k = r.size := by omega
          obtain ⟨b, off, rfl, hp⟩ := hI.at s.size (by rw [tab_length]; omega)
          have c0 := hp s.size (by rw [tab_length]; omega)
          rw [intAt_tab _ _ _ (by omega)] at c0
          have hl : (s.size : Int) < (s.size : Int) + 1 := by omega
          clear hp hI hI1 hIo hno hI2
          go_wp2
          go_ret
          exact ⟨by rw [HRR.out]; rfl, hb⟩
    · have HR := Lib.hid (swDI_no (f := f) (s := s) (fun h => h2 h.2))
      have hd1 : decide (200 < (s.size : Int)) = false := by simp; omega
      have hd2 : decide (200 < (r.size : Int)) = true := by simp; omega
      go_enter Try.func18, Try.ntmps18
      go_wp2
      go_ret
      exact ⟨by rw [HR.out]; rfl, Below.refl _ _⟩
  · have HR := Lib.hid (swDI_no (f := f) (r := r) (fun h => h1 h.1))
    have hd1 : decide (200 < (s.size : Int)) = true := by simp; omega
    go_enter Try.func18, Try.ntmps18
    go_wp2
    go_ret
    exact ⟨by rw [HR.out]; rfl, Below.refl _ _⟩
end Go.Proofs.Ytgikjopmijomgab

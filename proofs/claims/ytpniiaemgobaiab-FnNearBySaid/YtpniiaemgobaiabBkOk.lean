/-
  Chapter 15: BkOk, in the program and in its model.
-/
import Derived.Test.YtpniiaemgobaiabBkI
import Derived.Test.YtpniiaemgobaiabBkS
import Derived.Test.YtpniiaemgobaiabStrIn
namespace Go.Proofs.Ytpniiaemgobaiab
open Go.RowKit
set_option linter.unusedVariables false
set_option maxRecDepth 100000
abbrev nodeEqP (a b : BkN) : Prop := a.t.toList = b.t.toList ∧ a.d = b.d ∧ a.u = b.u
def bkSameB (A B : List BkN) : Bool := decide (A.length = B.length ∧ ∀ i, i < B.length → nodeEqP (bkAt A i) (bkAt B i))
theorem bkSame_iff {A B : List BkN} : bkSameB A B = true ↔ A.length = B.length ∧ ∀ i, i < B.length → nodeEqP (bkAt A i) (bkAt B i) := decide_eq_true_iff
theorem bkSame_no {A B : List BkN} {i : Nat} (hi : i < B.length) (h : ¬ nodeEqP (bkAt A i) (bkAt B i)) : bkSameB A B = false := decide_eq_false fun h2 => h (h2.2 i hi)
theorem bkSame_len {A B : List BkN} (h : ¬ A.length = B.length) : bkSameB A B = false := decide_eq_false fun h2 => h h2.1
/-- the tree's words -/
def bkW (T : List BkN) (i : Nat) : ByteArray := (bkAt T i).t
def bkOkB (T : List BkN) : Bool := wordsOkB (bkW T) T.length && bkSameB (bkV (bkW T) T.length) T
theorem strL_snoc (t : Nat → ByteArray) (k : Nat) : strL t (k + 1) = strL t k ++ [Value.string (t k)] := by
  unfold strL; rw [List.range_succ, List.map_append]; rfl
set_option maxHeartbeats 4000000 in
theorem impl_treeWords (T : List BkN) (n : Nat) (a : Option Addr) (cap : Nat) (w : World) (hn : T.length = n) (h : Vals w a (bks T)) (hlen : n ≤ 1048577) :
    Calls Try.prog 50 #[.slice a n cap] w fun e w' => ∃ a' cap', e = .returned (.slice a' n cap') ∧ OwnV 9 1 w' w.heap.size a' n cap' (strL (bkW T) n) ∧ Below w.heap.size w w' := by
  obtain ⟨i0, hi, ht0, ht1, ht2⟩ := info_parts str1_info
  have HL := Lib.hid (show (bks T).length = n * 3 by rw [bks_length, hn])
  have HN := Lib.hid hn
  clear hn
  go_enter Try.func50, Try.ntmps50
  go_wp2
  go_loopw [3, 8] (fun o i wr => ∃ (k cp : Nat) (a' : Option Addr), k ≤ n ∧ i = .int .i64 (k : Int) ∧ o = .slice a' k cp ∧ OwnV 9 1 wr w.heap.size a' k cp (strL (bkW T) k) ∧ Below w.heap.size w wr)
    (fun _ i _ => n - (intOf i).toNat)
  case atStart => exact ⟨0, 0, none, by omega, rfl, rfl, OwnV.nil _ _, Below.refl _ _⟩
  case round =>
    obtain ⟨k, cp, a', hk, rfl, rfl, hO, hb⟩ := hrel
    by_cases hlt : k < n
    · obtain ⟨b, off, rfl, hp⟩ := (h.kept hb).at (k * 3) (by rw [HL.out]; omega)
      have c0 := hp (k * 3) (by rw [HL.out]; omega)
      have c1 := hp (k * 3 + 1) (by rw [HL.out]; omega)
      have c2 := hp (k * 3 + 2) (by rw [HL.out]; omega)
      obtain ⟨q1, q2, q3⟩ := bks_at T k (by rw [HN.out]; exact hlt)
      rw [← Nat.add_assoc] at c1 c2
      rw [q1] at c0
      rw [q2] at c1
      rw [q3] at c2
      have HS := Lib.hid (strL_snoc (bkW T) k)
      have hx : bkW T k = (bkAt T k).t := rfl
      rw [hx] at HS
      have hlb := block_lt_of_cell c0
      generalize (bkAt T k).t = x at *
      generalize (bkAt T k).d = y at *
      generalize (bkAt T k).u = z at *
      have HO := Lib.hid hO
      have HL1 := Lib.hid (show (strL (bkW T) k ++ [Value.string x]).length = (k + 1) * 1 by rw [List.length_append, strL_length]; simp)
      have HCN := Lib.hid (show ∀ j u, [Value.string x][j]? = some u → ((wr.alloc (.cells #[Value.string x, .int .i64 y, .int .i64 z] 33)).alloc (.cells #[Value.string x] 9)).cell? ((⟨wr.heap.size + 1, 0, none⟩ : Addr).add j) = some u from fun j u hj => by have := cells_new (wr.alloc (.cells #[Value.string x, .int .i64 y, .int .i64 z] 33)) #[Value.string x] 9 j u hj; rwa [World.size_alloc] at this)
      clear h hp q1 q2 q3 hO hx
      go_wp2_with (at_builtin; refine wpList_append_own _ rfl _ _ 24 rfl w.heap.size 9 i0 (.string ⟨#[]⟩) 1 16 Try.underlying24 hi ht0 ht1 ht2 rfl (by decide) _ _ _ rfl (HO.out.kept (((Below.refl wr.heap.size wr).alloc (Nat.le_refl _) (.cells #[Value.string x, .int .i64 y, .int .i64 z] 33)).alloc (by simp) (.cells #[Value.string x] 9))).2 ⟨wr.heap.size + 1, 0, none⟩ 1 1 [Value.string x] rfl rfl HCN.out (by simp [Value.oneCell']) (by unfold maxLen; omega) (by omega) (by have := hb.size; simp; omega) ?_; intro v6 w6 hown6 hg6 _; obtain ⟨a6, cap6, rfl, hO6⟩ := OwnV.shape HL1.out (show w6.ownsRow w.heap.size 9 1 v6 (k + 1) (strL (bkW T) k ++ [Value.string x]) by exact hown6))
      have hB6 : Below w.heap.size w w6 := ((hb.alloc hb.size (.cells #[Value.string x, .int .i64 y, .int .i64 z] 33)).alloc (by have := hb.size; simp; omega) (.cells #[Value.string x] 9)).grown hg6 (by have := hb.size; simp; omega) (fun j hj => (HO.out.2.lt j hj).1)
      clear hown6 hg6
      go_roundw
      case rel => exact ⟨k + 1, cap6, a6, by omega, by go_num, rfl, by rw [HS.out]; exact hO6, hB6⟩
      case measure => simp [intOf]; omega
    · obtain rfl : k = n := by omega
      go_wp2
      go_ret
      exact ⟨a', cp, rfl, hO, hb⟩
set_option maxHeartbeats 4000000 in
theorem sl_equalBk (A B : List BkN) (n m : Nat) (a b : Option Addr) (ca cb : Nat) (w : World) (hn : A.length = n) (hm : B.length = m) (hA : Vals w a (bks A)) (hB : Vals w b (bks B)) (hn2 : n ≤ 1048577) (hm2 : m ≤ 1048577) :
    Calls Try.prog 51 #[.slice a n ca, .slice b m cb] w fun e w' => e = .returned (.bool (bkSameB A B)) ∧ Below w.heap.size w w' := by
  have HLA := Lib.hid (show (bks A).length = n * 3 by rw [bks_length, hn])
  have HLB := Lib.hid (show (bks B).length = m * 3 by rw [bks_length, hm])
  have HN := Lib.hid hn; have HM := Lib.hid hm
  clear hn hm
  by_cases hl : n = m
  · subst hl
    have g : ((n : Int) != (n : Int)) = false := by simp
    go_enter Try.func51, Try.ntmps51
    go_wp2
    go_loopw [13] (fun i wr => ∃ k : Nat, k ≤ n ∧ i = .int .i64 k ∧ (∀ i, i < k → nodeEqP (bkAt A i) (bkAt B i)) ∧ Below w.heap.size w wr) (fun i _ => n - (intOf i).toNat)
    case atStart => exact ⟨0, by omega, rfl, fun i hi => by omega, Below.refl _ _⟩
    case round =>
      obtain ⟨k, hk, rfl, hall, hb⟩ := hrel
      by_cases hlt : k < n
      · obtain ⟨b1, o1, rfl, hp⟩ := (hA.kept hb).at (k * 3) (by rw [HLA.out]; omega)
        obtain ⟨b2, o2, rfl, hq⟩ := (hB.kept hb).at (k * 3) (by rw [HLB.out]; omega)
        have c0 := hp (k * 3) (by rw [HLA.out]; omega)
        have c1 := hp (k * 3 + 1) (by rw [HLA.out]; omega)
        have c2 := hp (k * 3 + 2) (by rw [HLA.out]; omega)
        have d0 := hq (k * 3) (by rw [HLB.out]; omega)
        have d1 := hq (k * 3 + 1) (by rw [HLB.out]; omega)
        have d2 := hq (k * 3 + 2) (by rw [HLB.out]; omega)
        obtain ⟨q1, q2, q3⟩ := bks_at A k (by rw [HN.out]; exact hlt)
        obtain ⟨r1, r2, r3⟩ := bks_at B k (by rw [HM.out]; exact hlt)
        rw [← Nat.add_assoc] at c1 c2 d1 d2
        rw [q1] at c0; rw [q2] at c1; rw [q3] at c2
        rw [r1] at d0; rw [r2] at d1; rw [r3] at d2
        have HYES : Hid (nodeEqP (bkAt A k) (bkAt B k) → ∀ i, i < k + 1 → nodeEqP (bkAt A i) (bkAt B i)) := fun h2 i hi => by
          by_cases e : i = k
          · subst e; exact h2
          · exact hall i (by omega)
        have HNO : Hid (¬ nodeEqP (bkAt A k) (bkAt B k) → bkSameB A B = false) := fun h2 => bkSame_no (by rw [HM.out]; exact hlt) h2
        have HNO2 : Hid (¬ ((bkAt A k).t.toList = (bkAt B k).t.toList ∧ (bkAt A k).d = (bkAt B k).d ∧ (bkAt A k).u = (bkAt B k).u) → bkSameB A B = false) := HNO.out
        have HYES2 : Hid ((bkAt A k).t.toList = (bkAt B k).t.toList ∧ (bkAt A k).d = (bkAt B k).d ∧ (bkAt A k).u = (bkAt B k).u → ∀ i, i < k + 1 → nodeEqP (bkAt A i) (bkAt B i)) := HYES.out
        clear hA hB hp hq q1 q2 q3 r1 r2 r3 hall HNO HYES
        generalize (bkAt A k).t = x1 at c0 HNO2 HYES2
        generalize (bkAt A k).d = y1 at c1 HNO2 HYES2
        generalize (bkAt A k).u = z1 at c2 HNO2 HYES2
        generalize (bkAt B k).t = x2 at d0 HNO2 HYES2
        generalize (bkAt B k).d = y2 at d1 HNO2 HYES2
        generalize (bkAt B k).u = z2 at d2 HNO2 HYES2
        have hl1 := block_lt_of_cell c0
        have hl2 := block_lt_of_cell d0
        by_cases hx : x1.toList = x2.toList
        · by_cases hy : y1 = y2
          · by_cases hz : z1 = z2
            · have HY := Lib.hid (HYES2.out ⟨hx, hy, hz⟩)
              subst hy hz
              clear HYES2 HNO2
              go_wp2_with fail
              go_quiet (fail)
              go_wp2
              go_roundw
              case rel => exact ⟨k + 1, by omega, by go_num, HY.out, below_drewN hb _⟩
              case measure => simp [intOf]; omega
            · have HF := Lib.hid (HNO2.out fun h => hz h.2.2)
              subst hy
              clear HYES2 HNO2
              go_wp2_with fail
              go_quiet (fail)
              go_wp2
              go_ret
              exact ⟨by rw [HF.out]; rfl, below_drewN hb _⟩
          · have HF := Lib.hid (HNO2.out fun h => hy h.2.1)
            clear HYES2 HNO2
            go_wp2_with fail
            go_quiet (fail)
            go_wp2
            go_ret
            exact ⟨by rw [HF.out]; rfl, below_drewN hb _⟩
        · have HF := Lib.hid (HNO2.out fun h => hx h.1)
          clear HYES2 HNO2
          go_wp2_with fail
          go_quiet (fail)
          go_wp2
          go_ret
          exact ⟨by rw [HF.out]; rfl, below_drewN hb _⟩
      · obtain rfl : k = n := by omega
        have HF := Lib.hid ((bkSame_iff (A := A) (B := B)).2 ⟨by rw [HN.out, HM.out], by rw [HM.out]; exact hall⟩)
        clear hall
        go_wp2
        go_ret
        exact ⟨by rw [HF.out]; rfl, hb⟩
  · have g : ((n : Int) != (m : Int)) = true := by simp; omega
    have HF := Lib.hid (bkSame_len (A := A) (B := B) (by rw [HN.out, HM.out]; exact hl))
    clear hl
    go_enter Try.func51, Try.ntmps51
    go_wp2
    go_ret
    exact ⟨by rw [HF.out]; rfl, Below.refl _ _⟩
set_option maxHeartbeats 4000000 in
theorem impl_bkOk (T : List BkN) (n : Nat) (a : Option Addr) (cap : Nat) (w : World) (hn : T.length = n) (h : Vals w a (bks T)) (hlen : n ≤ 1048576) (hts : ∀ i, i < n → (bkAt T i).t.size ≤ 1048576) :
    Calls Try.prog 15 #[.slice a n cap] w fun e w' => e = .returned (.bool (bkOkB T)) ∧ Below w.heap.size w w' := by
  have HN := Lib.hid hn
  have HV := Lib.hid h
  have hlv := bkV_len (bkW T) n
  have HI := fun a' cap' W (hv : Vals W a' (strL (bkW T) n)) => impl_bkOf (bkW T) n a' cap' W hv (by omega) hts
  have HE := fun A m a' ca' W (hm : A.length = m) (hA : Vals W a' (bks A)) (hB : Vals W a (bks T)) (hm2 : m ≤ 1048577) => sl_equalBk A T m n a' a ca' cap W hm hn hA hB hm2 (by omega)
  have hok : bkOkB T = (wordsOkB (bkW T) n && bkSameB (bkV (bkW T) n) T) := by unfold bkOkB; rw [hn]
  generalize bkV (bkW T) n = A at *
  have HI := Lib.hid HI
  have HE := Lib.hid HE
  obtain ⟨m, hm⟩ : ∃ m, A.length = m := ⟨_, rfl⟩
  have HMM := Lib.hid hm
  have hm9 : m ≤ 1048576 := by omega
  clear hn h hts hlv hm
  cases hwd : wordsOkB (bkW T) n
  · rw [hwd] at hok
    have HF := Lib.hid (show bkOkB T = false from hok)
    have HW := Lib.hid hwd
    clear hok hwd
    go_enter Try.func15, Try.ntmps15
    go_wp2_with fail
    refine (impl_treeWords T n a cap _ HN.out HV.out (by omega)).mono ?_
    rintro e w1 ⟨a1, cap1, rfl, hO1, hb1⟩
    go_wp2_with fail
    refine (HI.out _ _ _ hO1.vals).mono ?_
    rintro e w2 ⟨a2, cap2, rfl, hO2, hb2⟩
    rw [HW.out]
    have hB := below_step hb1 hb2
    go_wp2_with fail
    go_ret
    exact ⟨by rw [HF.out]; rfl, hB⟩
  · rw [hwd, Bool.true_and] at hok
    have HF := Lib.hid hok
    have HW := Lib.hid hwd
    clear hok hwd
    go_enter Try.func15, Try.ntmps15
    go_wp2_with fail
    refine (impl_treeWords T n a cap _ HN.out HV.out (by omega)).mono ?_
    rintro e w1 ⟨a1, cap1, rfl, hO1, hb1⟩
    go_wp2_with fail
    refine (HI.out _ _ _ hO1.vals).mono ?_
    rintro e w2 ⟨a2, cap2, rfl, hO2, hb2⟩
    rw [HW.out]
    have hB := below_step hb1 hb2
    rw [HMM.out] at hO2 ⊢
    go_wp2_with fail
    refine (HE.out A m _ _ _ HMM.out hO2.vals (HV.out.kept hB) (by omega)).mono ?_
    rintro e w3 ⟨rfl, hb3⟩
    have hB3 := below_step hB hb3
    go_wp2_with fail
    go_ret
    exact ⟨by rw [HF.out]; rfl, hB3⟩
set_option maxHeartbeats 8000000 in
theorem spec_bkOk (T : List BkN) (n : Nat) (a : Option Addr) (cap : Nat) (w : World) (hn : T.length = n) (h : Vals w a (bks T)) (hlen : n ≤ 1048576) (hts : ∀ i, i < n → (bkAt T i).t.size ≤ 1048576) :
    Calls Try.prog 16 #[.slice a n cap] w fun e w' => e = .returned (.bool (bkOkB T)) ∧ Below w.heap.size w w' := by
  obtain ⟨i0, hi, ht0, ht1, ht2⟩ := info_parts str1_info
  have HL := Lib.hid (show (bks T).length = n * 3 by rw [bks_length, hn])
  have HN := Lib.hid hn
  have hlv := bkV_len (bkW T) n
  have HI := fun a' cap' W (hv : Vals W a' (strL (bkW T) n)) => spec_bkOf (bkW T) n a' cap' W hv (by omega) hts
  have hok : bkOkB T = (wordsOkB (bkW T) n && bkSameB (bkV (bkW T) n) T) := by unfold bkOkB; rw [hn]
  generalize bkV (bkW T) n = A at *
  have HI := Lib.hid HI
  obtain ⟨m, hm⟩ : ∃ m, A.length = m := ⟨_, rfl⟩
  have HMM := Lib.hid hm
  have HLA := Lib.hid (show (bks A).length = m * 3 by rw [bks_length, hm])
  have hm9 : m ≤ 1048576 := by omega
  have HOK := Lib.hid hok
  clear hn hts hlv hm hok
  go_enter Try.func16, Try.ntmps16
  go_wp2
  go_loopw [3, 4] (fun o i wr => ∃ (k cp : Nat) (a' : Option Addr), k ≤ n ∧ i = .int .i64 (k : Int) ∧ o = .slice a' k cp ∧ OwnV 9 1 wr w.heap.size a' k cp (strL (bkW T) k) ∧ Below w.heap.size w wr)
    (fun _ i _ => n - (intOf i).toNat)
  case atStart => exact ⟨0, 0, some ⟨w.heap.size, 0, none⟩, by omega, rfl, rfl, ⟨by simp [strL], World.ownsRow_made w #[] 0 (Nat.le_refl _) (by decide) rfl⟩, (Below.refl _ _).alloc (Nat.le_refl _) _⟩
  case round =>
    obtain ⟨k, cp, a', hk, rfl, rfl, hO, hb⟩ := hrel
    by_cases hlt : k < n
    · obtain ⟨b, off, rfl, hp⟩ := (h.kept hb).at (k * 3) (by rw [HL.out]; omega)
      have c0 := hp (k * 3) (by rw [HL.out]; omega)
      obtain ⟨q1, q2, q3⟩ := bks_at T k (by rw [HN.out]; exact hlt)
      rw [q1] at c0
      have HS := Lib.hid (strL_snoc (bkW T) k)
      have hx : bkW T k = (bkAt T k).t := rfl
      rw [hx] at HS
      have hlb := block_lt_of_cell c0
      generalize (bkAt T k).t = x at *
      have HO := Lib.hid hO
      have HL1 := Lib.hid (show (strL (bkW T) k ++ [Value.string x]).length = (k + 1) * 1 by rw [List.length_append, strL_length]; simp)
      clear h hp q1 q2 q3 hO hx
      go_wp2_with (at_builtin; refine wpList_append_own _ rfl _ _ 24 rfl w.heap.size 9 i0 (.string ⟨#[]⟩) 1 16 Try.underlying24 hi ht0 ht1 ht2 rfl (by decide) _ _ _ rfl (HO.out.kept ((Below.refl wr.heap.size wr).alloc (Nat.le_refl _) (.cells #[Value.string x] 9))).2 ⟨wr.heap.size, 0, none⟩ 1 1 [Value.string x] rfl rfl (cells_new _ #[Value.string x] 9) (by simp [Value.oneCell']) (by unfold maxLen; omega) (by omega) (by have := hb.size; simp; omega) ?_; intro v6 w6 hown6 hg6 _; obtain ⟨a6, cap6, rfl, hO6⟩ := OwnV.shape HL1.out (show w6.ownsRow w.heap.size 9 1 v6 (k + 1) (strL (bkW T) k ++ [Value.string x]) by exact hown6))
      have hB6 : Below w.heap.size w w6 := (hb.alloc hb.size (.cells #[Value.string x] 9)).grown hg6 (by have := hb.size; simp; omega) (fun j hj => (HO.out.2.lt j hj).1)
      clear hown6 hg6
      go_roundw
      case rel => exact ⟨k + 1, cap6, a6, by omega, by go_num, rfl, by rw [HS.out]; exact hO6, hB6⟩
      case measure => simp [intOf]; omega
    · obtain rfl : k = n := by omega
      have HH := Lib.hid h
      have HBB := Lib.hid hb
      clear hb h
      go_wp2_with fail
      refine (HI.out _ _ _ hO.vals).mono ?_
      rintro e w2 ⟨a2, cap2, rfl, hO2, hb2⟩
      have hB2 := below_step HBB.out hb2
      rw [HMM.out] at hO2 ⊢
      have hV2 := hO2.vals
      have hT2 := HH.out.kept hB2
      clear hO hO2 hb2
      cases hwd : wordsOkB (bkW T) k
      · have HF := Lib.hid (show bkOkB T = false by rw [HOK.out, hwd]; rfl)
        clear hwd
        go_wp2_with fail
        go_ret
        exact ⟨by rw [HF.out]; rfl, hB2⟩
      · have HF := Lib.hid (show bkOkB T = bkSameB A T by rw [HOK.out, hwd]; rfl)
        clear hwd
        by_cases hl : m = k
        · subst hl
          have g : ((m : Int) != (m : Int)) = false := by simp
          go_wp2_with fail
          generalize w2 = w3 at *
          go_loopw [7] (fun i wr => ∃ j : Nat, j ≤ m ∧ i = .int .i64 j ∧ (∀ i, i < j → nodeEqP (bkAt A i) (bkAt T i)) ∧ Vals wr a2 (bks A) ∧ Vals wr a (bks T) ∧ Below w.heap.size w wr) (fun i _ => m - (intOf i).toNat)
          case atStart => exact ⟨0, by omega, rfl, fun i hi => by omega, hV2, hT2, hB2⟩
          case round =>
            clear hV2 hT2 hB2
            obtain ⟨j, hj, rfl, hall, hA, hB, hb⟩ := hrel
            by_cases hjt : j < m
            · have HAK := Lib.hid (fun W (hW : Below wr.heap.size wr W) => hA.kept hW)
              have HBK := Lib.hid (fun W (hW : Below wr.heap.size wr W) => hB.kept hW)
              obtain ⟨b1, o1, rfl, hp⟩ := hA.at (j * 3) (by rw [HLA.out]; omega)
              obtain ⟨b2, o2, rfl, hq⟩ := hB.at (j * 3) (by rw [HL.out]; omega)
              have c0 := hp (j * 3) (by rw [HLA.out]; omega)
              have c1 := hp (j * 3 + 1) (by rw [HLA.out]; omega)
              have c2 := hp (j * 3 + 2) (by rw [HLA.out]; omega)
              have d0 := hq (j * 3) (by rw [HL.out]; omega)
              have d1 := hq (j * 3 + 1) (by rw [HL.out]; omega)
              have d2 := hq (j * 3 + 2) (by rw [HL.out]; omega)
              obtain ⟨q1, q2, q3⟩ := bks_at A j (by rw [HMM.out]; exact hjt)
              obtain ⟨r1, r2, r3⟩ := bks_at T j (by rw [HN.out]; exact hjt)
              rw [← Nat.add_assoc] at c1 c2 d1 d2
              rw [q1] at c0; rw [q2] at c1; rw [q3] at c2
              rw [r1] at d0; rw [r2] at d1; rw [r3] at d2
              have HNO2 : Hid (¬ ((bkAt A j).t.toList = (bkAt T j).t.toList ∧ (bkAt A j).d = (bkAt T j).d ∧ (bkAt A j).u = (bkAt T j).u) → bkSameB A T = false) := fun h2 => bkSame_no (by rw [HN.out]; exact hjt) h2
              have HYES2 : Hid ((bkAt A j).t.toList = (bkAt T j).t.toList ∧ (bkAt A j).d = (bkAt T j).d ∧ (bkAt A j).u = (bkAt T j).u → ∀ i, i < j + 1 → nodeEqP (bkAt A i) (bkAt T i)) := fun h2 i hi => by
                by_cases e : i = j
                · subst e; exact h2
                · exact hall i (by omega)
              clear hA hB hp hq q1 q2 q3 r1 r2 r3 hall
              generalize (bkAt A j).t = x1 at c0 HNO2 HYES2
              generalize (bkAt A j).d = y1 at c1 HNO2 HYES2
              generalize (bkAt A j).u = z1 at c2 HNO2 HYES2
              generalize (bkAt T j).t = x2 at d0 HNO2 HYES2
              generalize (bkAt T j).d = y2 at d1 HNO2 HYES2
              generalize (bkAt T j).u = z2 at d2 HNO2 HYES2
              have hl1 := block_lt_of_cell c0
              have hl2 := block_lt_of_cell d0
              by_cases hx : x1.toList = x2.toList
              · by_cases hy : y1 = y2
                · by_cases hz : z1 = z2
                  · have HY := Lib.hid (HYES2.out ⟨hx, hy, hz⟩)
                    subst hy hz
                    clear HYES2 HNO2
                    go_wp2_with fail
                    go_quiet (fail)
                    go_wp2
                    go_roundw
                    case rel => exact ⟨j + 1, by omega, by go_num, HY.out, HAK.out _ (below_drewN (Below.refl _ _) _), HBK.out _ (below_drewN (Below.refl _ _) _), below_drewN hb _⟩
                    case measure => simp [intOf]; omega
                  · have HG := Lib.hid (HNO2.out fun h => hz h.2.2)
                    subst hy
                    clear HYES2 HNO2
                    go_wp2_with fail
                    go_quiet (fail)
                    go_wp2
                    go_ret
                    exact ⟨by rw [HF.out, HG.out]; rfl, below_drewN hb _⟩
                · have HG := Lib.hid (HNO2.out fun h => hy h.2.1)
                  clear HYES2 HNO2
                  go_wp2_with fail
                  go_quiet (fail)
                  go_wp2
                  go_ret
                  exact ⟨by rw [HF.out, HG.out]; rfl, below_drewN hb _⟩
              · have HG := Lib.hid (HNO2.out fun h => hx h.1)
                clear HYES2 HNO2
                go_wp2_with fail
                go_quiet (fail)
                go_wp2
                go_ret
                exact ⟨by rw [HF.out, HG.out]; rfl, below_drewN hb _⟩
            · obtain rfl : j = m := by omega
              have HG := Lib.hid ((bkSame_iff (A := A) (B := T)).2 ⟨by rw [HMM.out, HN.out], by rw [HN.out]; exact hall⟩)
              clear hall
              go_wp2
              go_ret
              exact ⟨by rw [HF.out, HG.out]; rfl, hb⟩
        · have g : ((m : Int) != (k : Int)) = true := by simp; omega
          have HG := Lib.hid (bkSame_len (A := A) (B := T) (by rw [HN.out, HMM.out]; exact hl))
          clear hl
          go_wp2_with fail
          go_ret
          exact ⟨by rw [HF.out, HG.out]; rfl, hB2⟩
end Go.Proofs.Ytpniiaemgobaiab

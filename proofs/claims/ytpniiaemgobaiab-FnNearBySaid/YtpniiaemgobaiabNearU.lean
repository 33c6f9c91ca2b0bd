/-
  Chapter 15: the walk over a tree comes by each word that is near just once; sorted they are those put in one by one (plain).
-/
import Derived.Test.YtpniiaemgobaiabMTree
import Derived.Test.YtpniiaemgobaiabNearP
namespace Go.Proofs.Ytpniiaemgobaiab
open Go.RowKit
set_option linter.unusedVariables false
set_option maxRecDepth 100000
/-- two kids of one node do not differ from it alike -/
def KidsD (T : List BkN) : Prop := ∀ a b, 0 < a → a < T.length → 0 < b → b < T.length → upOf T a = upOf T b → (bkAt T a).d = (bkAt T b).d → a = b
theorem kidB_none {T : List BkN} {up : Nat} {d : Int} : ∀ {f i : Nat}, kidB T up d f i = none → ∀ k, i ≤ k → k < i + f → ¬ ((bkAt T k).u = (up : Int) ∧ (bkAt T k).d = d)
  | 0, _, _, k, h1, h2 => by omega
  | f + 1, i, h, k, h1, h2 => by
    rw [kidB] at h
    split at h
    · cases h
    · rename_i h3
      by_cases e : i = k
      · subst e; exact h3
      · exact kidB_none h k (by omega) (by omega)
theorem goB_none {T : List BkN} {w : ByteArray} : ∀ {f p q : Nat} {d : Int}, goB T w f p = some (q, d) → kidB T q d (T.length - 1) 1 = none
  | 0, _, _, _, h => by cases h
  | f + 1, p, q, d, h => by
    rw [goB] at h
    split at h
    · cases h
    · split at h
      · rename_i hk
        injection h with h
        injection h with h2 h3
        subst h2 h3
        exact hk
      · exact goB_none h
theorem addB_kids {T : List BkN} (hu : UpB T) (h : KidsD T) (w : ByteArray) : KidsD (addB T w) := by
  unfold addB
  split
  · intro a b h1 h2; simp at h2; omega
  · rename_i hne
    have hT : 0 < T.length := by cases T; exact absurd rfl hne; simp
    split
    · exact h
    · rename_i q d hg
      have hn := kidB_none (goB_none hg)
      have hun : upOf (T ++ [⟨w, d, (q : Int)⟩]) T.length = q := by unfold upOf; rw [bkAt_new]; simp
      have hdn : (bkAt (T ++ [⟨w, d, (q : Int)⟩]) T.length).d = d := by rw [bkAt_new]
      have hold : ∀ c, c < T.length → upOf (T ++ [⟨w, d, (q : Int)⟩]) c = upOf T c ∧ (bkAt (T ++ [⟨w, d, (q : Int)⟩]) c).d = (bkAt T c).d := fun c hc => ⟨by unfold upOf; rw [bkAt_old hc], by rw [bkAt_old hc]⟩
      have hno : ∀ c, 0 < c → c < T.length → upOf T c = q → (bkAt T c).d = d → False := fun c h0 hc hq hd => by
        have := hu c h0 hc
        unfold upOf at hq
        exact hn c h0 (by omega) ⟨by omega, hd⟩
      intro a b ha hal hb hbl e1 e2
      rw [List.length_append, List.length_singleton] at hal hbl
      by_cases h1 : a < T.length
      · by_cases h2 : b < T.length
        · rw [(hold a h1).1, (hold b h2).1] at e1
          rw [(hold a h1).2, (hold b h2).2] at e2
          exact h a b ha h1 hb h2 e1 e2
        · exfalso
          have hbe : b = T.length := by omega
          subst hbe
          rw [(hold a h1).1, hun] at e1
          rw [(hold a h1).2, hdn] at e2
          exact hno a ha h1 e1 e2
      · have hae : a = T.length := by omega
        by_cases h2 : b < T.length
        · exfalso
          subst hae
          rw [(hold b h2).1, hun] at e1
          rw [(hold b h2).2, hdn] at e2
          exact hno b hb h2 e1.symm e2.symm
        · omega
theorem bkTo_kids (t : Nat → ByteArray) (m : Nat) : KidsD (bkTo t m) := by
  induction m with
  | zero => intro a b h1 h2; simp [bkTo] at h2
  | succ m ih => exact addB_kids (bkTo_up t m) ih _
/-- each word stands once -/
theorem words_once {T : List BkN} (hu : UpB T) (hP : PathB T) (hpos : PosB T) (hk : KidsD T) (hs : ∀ j, j < T.length → (bkAt T j).t.size ≤ 200) :
    ∀ n p i j, T.length ≤ p + n → p < T.length → i < T.length → j < T.length → Bel T p i → Bel T p j → (bkAt T i).t = (bkAt T j).t → i = j := by
  intro n
  induction n with
  | zero => intro p i j h1 h2; omega
  | succ n ih =>
    intro p i j h1 hp hi hj bi bj e
    have one : ∀ j, j < T.length → Bel T p j → j ≠ p → (bkAt T j).t ≠ (bkAt T p).t := fun j hj bj hne e => by
      obtain ⟨c, hc, huc, hcj⟩ := bj.kid hne
      have hcl : c < T.length := Nat.lt_of_le_of_lt (hcj.le hu hj) hj
      have h3 := hP c j hc hcl hj hcj
      rw [huc, e, dist_self _ _ (hs p hp)] at h3
      exact hpos c hc hcl h3.symm
    by_cases ei : i = p
    · by_cases ej : j = p
      · omega
      · subst ei; exact absurd e.symm (one j hj bj ej)
    · by_cases ej : j = p
      · subst ej; exact absurd e (one i hi bi ei)
      · obtain ⟨c1, hc1, hu1, hb1⟩ := bi.kid ei
        obtain ⟨c2, hc2, hu2, hb2⟩ := bj.kid ej
        have hl1 : c1 < T.length := Nat.lt_of_le_of_lt (hb1.le hu hi) hi
        have hl2 : c2 < T.length := Nat.lt_of_le_of_lt (hb2.le hu hj) hj
        have d1 := hP c1 i hc1 hl1 hi hb1
        have d2 := hP c2 j hc2 hl2 hj hb2
        rw [hu1, e] at d1
        rw [hu2] at d2
        have : c1 = c2 := hk c1 c2 hc1 hl1 hc2 hl2 (by rw [hu1, hu2]) (by rw [← d1, ← d2])
        subst this
        have := upOf_lt hu hc1 hl1
        exact ih c1 i j (by omega) hl1 hi hj hb1 hb2 e
theorem kidsB_rise (L : List BkN) (p : Nat) : ∀ f i, (kidsB L p f i).Pairwise (· < ·)
  | 0, _ => List.Pairwise.nil
  | f + 1, i => by
    rw [kidsB]
    split
    · exact List.pairwise_cons.2 ⟨fun k hk => by have := (kidsB_in hk).1; omega, kidsB_rise L p f (i + 1)⟩
    · exact kidsB_rise L p f (i + 1)
theorem near_nodup {T : List BkN} (hu : UpB T) (w : ByteArray) (k : Int) : ∀ f p, p < T.length → (nearB T w k f p).Pairwise (· ≠ ·) := by
  intro f
  induction f with
  | zero => intro p _; exact List.Pairwise.nil
  | succ f ih =>
    intro p hp
    rw [nearB]
    refine List.pairwise_append.2 ⟨?_, ?_, ?_⟩
    · split
      · exact List.pairwise_singleton _ _
      · exact List.Pairwise.nil
    · refine List.pairwise_flatMap.2 ⟨fun c hc => ih c (KB_in (List.mem_filter.1 hc).1).2.1, ?_⟩
      refine List.Pairwise.imp_of_mem ?_ (List.Pairwise.filter _ (kidsB_rise T p (T.length - (p + 1)) (p + 1)))
      intro c1 c2 h1 h2 hlt x hx y hy exy
      subst exy
      obtain ⟨k1, k2, k3⟩ := KB_in (List.mem_filter.1 h1).1
      obtain ⟨l1, l2, l3⟩ := KB_in (List.mem_filter.1 h2).1
      obtain ⟨a1, a2, _⟩ := near_only hu w k f c1 x k2 hx
      obtain ⟨_, b2, _⟩ := near_only hu w k f c2 x l2 hy
      have up1 : upOf T c1 = p := by unfold upOf; omega
      have up2 : upOf T c2 = p := by unfold upOf; omega
      rcases a2.line b2 with h | h
      · rcases h.cases with e | ⟨_, e⟩
        · omega
        · rw [up2] at e; have := e.le hu hp; omega
      · rcases h.cases with e | ⟨_, e⟩
        · omega
        · rw [up1] at e; have := e.le hu hp; omega
    · intro a ha b hb
      split at ha
      · rw [List.mem_singleton] at ha
        subst ha
        obtain ⟨c, hc, hj⟩ := List.mem_flatMap.1 hb
        obtain ⟨k1, k2, k3⟩ := KB_in (List.mem_filter.1 hc).1
        obtain ⟨a1, a2, _⟩ := near_only hu w k f c b k2 hj
        have := a2.le hu a1
        omega
      · cases ha
theorem found_iff (t : Nat → ByteArray) (s : ByteArray) (k : Int) (m : Nat) (u : List UInt8) : u ∈ foundTo t s k m ↔ ∃ i, i < m ∧ distI (t i) s false ≤ k ∧ u = bl (t i) := by
  induction m with
  | zero => exact ⟨fun h => (by cases h), fun ⟨i, h, _⟩ => (by omega)⟩
  | succ m ih =>
    rw [foundTo]
    constructor
    · intro h
      split at h
      · rename_i hd
        rcases List.mem_append.1 h with h | h
        · obtain ⟨i, h1, h2⟩ := ih.1 h; exact ⟨i, by omega, h2⟩
        · rw [List.mem_singleton] at h; exact ⟨m, by omega, hd, h⟩
      · obtain ⟨i, h1, h2⟩ := ih.1 h; exact ⟨i, by omega, h2⟩
    · rintro ⟨i, h1, h2, h3⟩
      by_cases e : i = m
      · subst e; rw [if_pos h2]; exact List.mem_append_right _ (List.mem_singleton.2 h3)
      · have := ih.2 ⟨i, by omega, h2, h3⟩
        split
        · exact List.mem_append_left _ this
        · exact this
theorem count_once {L : List (List UInt8)} (h : L.Pairwise (· ≠ ·)) (u : List UInt8) : L.count u = if u ∈ L then 1 else 0 := by
  induction L with
  | nil => simp
  | cons y L ih =>
    obtain ⟨h1, h2⟩ := List.pairwise_cons.1 h
    rw [List.count_cons, ih h2]
    by_cases e : y = u
    · subst e
      have hn : ¬ y ∈ L := fun hm => h1 y hm rfl
      simp [hn]
    · have e2 : ¬ u = y := fun h => e h.symm
      simp [e, e2]
/-- the words that the walk comes by, sorted, are those that are near, put in one by one -/
theorem near_sorted (t : Nat → ByteArray) (m : Nat) (w : ByteArray) (k : Int) (hw : w.size ≤ 200) (hs : ∀ j, j < (bkTo t m).length → (bkAt (bkTo t m) j).t.size ≤ 200) (h0 : 0 < (bkTo t m).length) (f : Nat) (hf : (bkTo t m).length ≤ f) :
    ((nearB (bkTo t m) w k f 0).map fun j => bl (bkAt (bkTo t m) j).t).mergeSort (fun x y => decide (x ≤ y)) = nearTo (fun i => (bkAt (bkTo t m) i).t) w k (bkTo t m).length := by
  obtain ⟨T, hT⟩ : ∃ T, bkTo t m = T := ⟨_, rfl⟩
  have hu := bkTo_up t m; have hP := bkTo_path t m; have hpos := bkTo_pos t m; have hk := bkTo_kids t m
  rw [hT] at hu hP hpos hk hs h0 hf ⊢
  have hmem : ∀ j, j ∈ nearB T w k f 0 ↔ j < T.length ∧ distI (bkAt T j).t w false ≤ k := fun j =>
    ⟨fun h => by obtain ⟨a, _, c⟩ := near_only hu w k f 0 j h0 h; exact ⟨a, c⟩, fun ⟨a, c⟩ => near_all hu hP w k hw hs f 0 j h0 (by omega) a (bel_root hu j a) c⟩
  refine upL_eq _ _ (sorted_up _) (nearTo_rise _ _ _ _).up fun u => ?_
  rw [(List.mergeSort_perm _ _).count_eq, (nearTo_rise _ _ _ _).count]
  have hnd : ((nearB T w k f 0).map fun j => bl (bkAt T j).t).Pairwise (· ≠ ·) := by
    rw [List.pairwise_map]
    refine List.Pairwise.imp_of_mem ?_ (near_nodup hu w k f 0 h0)
    intro a b ha hb hne e
    have ha2 := (hmem a).1 ha
    have hb2 := (hmem b).1 hb
    have e2 : (bkAt T a).t = (bkAt T b).t := by
      have := congrArg txt e
      rwa [txt_bl, txt_bl] at this
    exact hne (words_once hu hP hpos hk hs T.length 0 a b (by omega) h0 ha2.1 hb2.1 (bel_root hu a ha2.1) (bel_root hu b hb2.1) e2)
  rw [count_once hnd]
  have hiff : (u ∈ (nearB T w k f 0).map fun j => bl (bkAt T j).t) ↔ u ∈ nearTo (fun i => (bkAt T i).t) w k T.length := by
    rw [near_found, found_iff, List.mem_map]
    constructor
    · rintro ⟨j, hj, e⟩
      obtain ⟨h1, h2⟩ := (hmem j).1 hj
      exact ⟨j, h1, h2, e.symm⟩
    · rintro ⟨i, h1, h2, h3⟩
      exact ⟨i, (hmem i).2 ⟨h1, h2⟩, h3.symm⟩
  by_cases h : u ∈ (nearB T w k f 0).map fun j => bl (bkAt T j).t
  · rw [if_pos h, if_pos (hiff.1 h)]
  · rw [if_neg h, if_neg fun h2 => h (hiff.2 h2)]
end Go.Proofs.Ytpniiaemgobaiab

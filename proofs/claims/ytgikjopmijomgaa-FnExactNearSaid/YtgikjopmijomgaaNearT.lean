/-
  Chapter 15: what is near in a tree (plain): what stands under a node's kid differs from the node's word by as much as the kid says; so the walk that passes by what cannot be near finds all.
-/
import Derived.Test.YtgikjopmijomgaaBkK
import Derived.Test.YtgikjopmijomgaaMNear
namespace Go.Proofs.Ytgikjopmijomgaa
open Go.RowKit
set_option linter.unusedVariables false
set_option maxRecDepth 100000
def upOf (T : List BkN) (j : Nat) : Nat := (bkAt T j).u.toNat
def upOfN (T : List BkN) : Nat → Nat → Nat
  | 0, j => j
  | n + 1, j => upOfN T n (upOf T j)
theorem upOfN_last (T : List BkN) : ∀ n j, upOfN T (n + 1) j = upOf T (upOfN T n j)
  | 0, _ => rfl
  | n + 1, j => by rw [upOfN, upOfN_last T n (upOf T j)]; rfl
theorem upOfN_add (T : List BkN) : ∀ m n j, upOfN T (m + n) j = upOfN T n (upOfN T m j)
  | 0, n, j => by rw [Nat.zero_add]; rfl
  | m + 1, n, j => by rw [Nat.add_right_comm, upOfN, upOfN_add T m n, upOfN]
/-- j is c, or stands under it -/
def Bel (T : List BkN) (c j : Nat) : Prop := ∃ n, upOfN T n j = c ∧ ∀ m, m < n → 0 < upOfN T m j
theorem Bel.self (T : List BkN) (c : Nat) : Bel T c c := ⟨0, rfl, fun m h => by omega⟩
theorem Bel.step {T : List BkN} {c j : Nat} (hj : 0 < j) (h : Bel T c (upOf T j)) : Bel T c j := by
  obtain ⟨n, hn, hm⟩ := h
  refine ⟨n + 1, hn, fun m h => ?_⟩
  cases m with
  | zero => exact hj
  | succ m => exact hm m (by omega)
theorem Bel.cases {T : List BkN} {c j : Nat} (h : Bel T c j) : j = c ∨ (0 < j ∧ Bel T c (upOf T j)) := by
  obtain ⟨n, hn, hm⟩ := h
  cases n with
  | zero => exact .inl hn
  | succ n => exact .inr ⟨hm 0 (by omega), n, hn, fun m h => hm (m + 1) (by omega)⟩
theorem Bel.trans {T : List BkN} {a b c : Nat} (h : Bel T a b) (k : Bel T b c) : Bel T a c := by
  obtain ⟨n, hn, hm⟩ := h
  obtain ⟨m, hm2, hk⟩ := k
  refine ⟨m + n, by rw [upOfN_add, hm2, hn], fun i hi => ?_⟩
  by_cases h : i < m
  · exact hk i h
  · obtain ⟨d, rfl⟩ : ∃ d, i = m + d := ⟨i - m, by omega⟩
    rw [upOfN_add, hm2]; exact hm d (by omega)
theorem upOf_lt {T : List BkN} (h : UpB T) {j : Nat} (h0 : 0 < j) (hj : j < T.length) : upOf T j < j := by
  have := h j h0 hj
  unfold upOf; omega
theorem upOfN_le {T : List BkN} (h : UpB T) : ∀ n j, j < T.length → (∀ m, m < n → 0 < upOfN T m j) → upOfN T n j + n ≤ j := by
  intro n
  induction n with
  | zero => intro j _ _; exact Nat.le_refl _
  | succ n ih =>
    intro j hj hm
    have h0 : 0 < j := hm 0 (by omega)
    have := upOf_lt h h0 hj
    have h2 := ih (upOf T j) (by omega) (fun m hh => hm (m + 1) (by omega))
    rw [upOfN]; omega
theorem Bel.le {T : List BkN} (h : UpB T) {c j : Nat} (hj : j < T.length) (hb : Bel T c j) : c ≤ j := by
  obtain ⟨n, hn, hm⟩ := hb
  have := upOfN_le h n j hj hm
  omega
theorem Bel.line {T : List BkN} {a b j : Nat} (ha : Bel T a j) (hb : Bel T b j) : Bel T a b ∨ Bel T b a := by
  obtain ⟨n, hn, hn2⟩ := ha
  obtain ⟨m, hm, hm2⟩ := hb
  rcases Nat.le_total n m with h | h
  · obtain ⟨d, rfl⟩ : ∃ d, m = n + d := ⟨m - n, by omega⟩
    exact .inr ⟨d, by rw [← hn, ← upOfN_add]; exact hm, fun i hi => by rw [← hn, ← upOfN_add]; exact hm2 _ (by omega)⟩
  · obtain ⟨d, rfl⟩ : ∃ d, n = m + d := ⟨n - m, by omega⟩
    exact .inl ⟨d, by rw [← hm, ← upOfN_add]; exact hn, fun i hi => by rw [← hm, ← upOfN_add]; exact hn2 _ (by omega)⟩
/-- under a node, but not it: under one of its kids -/
theorem Bel.kid {T : List BkN} {p j : Nat} (h : Bel T p j) (hne : j ≠ p) : ∃ c, 0 < c ∧ upOf T c = p ∧ Bel T c j := by
  obtain ⟨n, hn, hm⟩ := h
  cases n with
  | zero => exact absurd hn hne
  | succ n =>
    rw [upOfN_last] at hn
    exact ⟨upOfN T n j, hm n (by omega), hn, n, rfl, fun m h => hm m (by omega)⟩
/-- what stands under a kid differs from the node's word as the kid says -/
def PathB (T : List BkN) : Prop := ∀ c j, 0 < c → c < T.length → j < T.length → Bel T c j → distI (bkAt T (upOf T c)).t (bkAt T j).t false = (bkAt T c).d
theorem goB_bel {T : List BkN} (h : UpB T) {w : ByteArray} : ∀ {f p q : Nat} {d : Int}, p < T.length → goB T w f p = some (q, d) → Bel T p q ∧ q < T.length ∧ d = distI (bkAt T q).t w false ∧
    ∀ c, 0 < c → c < T.length → Bel T c q → Bel T p (upOf T c) → distI (bkAt T (upOf T c)).t w false = (bkAt T c).d
  | 0, _, _, _, _, h2 => by cases h2
  | f + 1, p, q, d, hp, h2 => by
    rw [goB] at h2
    split at h2
    · cases h2
    · split at h2
      · injection h2 with h2
        injection h2 with h2 h3
        subst h2
        refine ⟨Bel.self _ _, hp, h3.symm, fun c hc hcl hcq hpc => ?_⟩
        have h1 := hcq.le h hp
        have h4 := hpc.le h (by have := upOf_lt h hc hcl; omega)
        have := upOf_lt h hc hcl
        omega
      · rename_i k hk
        have hk2 := kidB_up h hk
        obtain ⟨hk3, hk4, hk5, hk6⟩ := kidB_lt hk
        have huk : upOf T k = p := by unfold upOf; omega
        obtain ⟨b1, b2, b3, b4⟩ := goB_bel h hk2.2 h2
        have hpk : Bel T p k := Bel.step (by omega) (by rw [huk]; exact Bel.self _ _)
        refine ⟨hpk.trans b1, b2, b3, fun c hc hcl hcq hpc => ?_⟩
        rcases hcq.line b1 with hck | hkc
        · rcases hck.cases with e | ⟨_, e⟩
          · rw [← e, huk, hk6]
          · exfalso
            rw [huk] at e
            have h1 := e.le h hp
            have h4 := hpc.le h (by have := upOf_lt h hc hcl; omega)
            have := upOf_lt h hc hcl
            omega
        · rcases hkc.cases with e | ⟨_, e⟩
          · rw [e, huk, hk6]
          · exact b4 c hc hcl hcq e
theorem bel_old {T : List BkN} (h : UpB T) {b : BkN} {c : Nat} : ∀ j, j < T.length → (Bel (T ++ [b]) c j ↔ Bel T c j) := by
  intro j
  induction j using Nat.strongRecOn with
  | ind j ih =>
    intro hj
    have hu : upOf (T ++ [b]) j = upOf T j := by unfold upOf; rw [bkAt_old hj]
    constructor
    · intro hb
      rcases hb.cases with e | ⟨h0, e⟩
      · rw [e]; exact Bel.self _ _
      · rw [hu] at e
        have := upOf_lt h h0 hj
        exact Bel.step h0 ((ih _ this (by omega)).1 e)
    · intro hb
      rcases hb.cases with e | ⟨h0, e⟩
      · rw [e]; exact Bel.self _ _
      · have := upOf_lt h h0 hj
        exact Bel.step h0 (by rw [hu]; exact (ih _ this (by omega)).2 e)
theorem bel_root {T : List BkN} (h : UpB T) : ∀ j, j < T.length → Bel T 0 j := by
  intro j
  induction j using Nat.strongRecOn with
  | ind j ih =>
    intro hj
    by_cases e : j = 0
    · rw [e]; exact Bel.self _ _
    · have := upOf_lt h (by omega) hj
      exact Bel.step (by omega) (ih _ this (by omega))
theorem addB_path {T : List BkN} (hu : UpB T) (h : PathB T) (w : ByteArray) : PathB (addB T w) := by
  unfold addB
  split
  · intro c j hc hcl; simp at hcl; omega
  · rename_i hne
    have hT : 0 < T.length := by cases T; exact absurd rfl hne; simp
    split
    · exact h
    · rename_i q d hg
      obtain ⟨b1, b2, b3, b4⟩ := goB_bel hu hT hg
      have hu2 : UpB (T ++ [⟨w, d, (q : Int)⟩]) := by
        have := addB_up hu w
        unfold addB at this
        rw [if_neg hne, hg] at this
        exact this
      intro c j hc hcl hjl hb
      rw [List.length_append, List.length_singleton] at hcl hjl
      have hun : upOf (T ++ [⟨w, d, (q : Int)⟩]) T.length = q := by unfold upOf; rw [bkAt_new]; simp
      have hwn : (bkAt (T ++ [⟨w, d, (q : Int)⟩]) T.length).t = w := by rw [bkAt_new]
      by_cases hcT : c < T.length
      · have huc : upOf (T ++ [⟨w, d, (q : Int)⟩]) c = upOf T c := by unfold upOf; rw [bkAt_old hcT]
        have hlt := upOf_lt hu hc hcT
        rw [huc, bkAt_old (by omega), bkAt_old hcT]
        by_cases hjT : j < T.length
        · rw [bkAt_old hjT]
          exact h c j hc hcT hjT ((bel_old hu j hjT).1 hb)
        · have hj : j = T.length := by omega
          subst hj
          rw [hwn]
          rcases hb.cases with e | ⟨_, e⟩
          · omega
          · rw [hun] at e
            exact b4 c hc hcT ((bel_old hu q b2).1 e) (bel_root hu _ (by omega))
      · have hcn : c = T.length := by omega
        subst hcn
        have hjn : j = T.length := by
          have := hb.le hu2 (by rw [List.length_append, List.length_singleton]; exact hjl)
          omega
        subst hjn
        rw [hun, hwn, bkAt_old b2, bkAt_new]
        exact b3.symm
theorem bkTo_path (t : Nat → ByteArray) (m : Nat) : PathB (bkTo t m) := by
  induction m with
  | zero => intro c j hc hcl; simp [bkTo] at hcl
  | succ m ih => exact addB_path (bkTo_up t m) ih _
/-- the walk: the places of the words that are near, as it comes by -/
def nearB (T : List BkN) (w : ByteArray) (k : Int) : Nat → Nat → List Nat
  | 0, _ => []
  | f + 1, p => (if distI (bkAt T p).t w false ≤ k then [p] else []) ++ ((KB T p).filter fun c => decide (distI (bkAt T p).t w false - k ≤ (bkAt T c).d) && decide ((bkAt T c).d ≤ distI (bkAt T p).t w false + k)).flatMap (nearB T w k f)
theorem kidsB_has {T : List BkN} {p : Nat} : ∀ {f i c : Nat}, i ≤ c → c < i + f → (bkAt T c).u = (p : Int) → c ∈ kidsB T p f i
  | 0, _, _, h1, h2, _ => by omega
  | f + 1, i, c, h1, h2, h3 => by
    rw [kidsB]
    by_cases e : i = c
    · subst e; rw [if_pos h3]; exact List.mem_cons_self
    · have := kidsB_has (f := f) (i := i + 1) (c := c) (by omega) (by omega) h3
      split
      · exact List.mem_cons_of_mem _ this
      · exact this
theorem KB_has {T : List BkN} (h : UpB T) {p c : Nat} (hc : 0 < c) (hcl : c < T.length) (hu : upOf T c = p) : c ∈ KB T p := by
  have := h c hc hcl
  unfold upOf at hu
  exact kidsB_has (by omega) (by omega) (by omega)
theorem near_all {T : List BkN} (hu : UpB T) (hP : PathB T) (w : ByteArray) (k : Int) (hw : w.size ≤ 200) (hs : ∀ j, j < T.length → (bkAt T j).t.size ≤ 200) :
    ∀ f p j, p < T.length → T.length ≤ p + f → j < T.length → Bel T p j → distI (bkAt T j).t w false ≤ k → j ∈ nearB T w k f p := by
  intro f
  induction f with
  | zero => intro p j hp hf; omega
  | succ f ih =>
    intro p j hp hf hj hb hd
    rw [nearB, List.mem_append]
    by_cases e : j = p
    · subst e; left; rw [if_pos hd]; exact List.mem_singleton.2 rfl
    · right
      obtain ⟨c, hc, huc, hcj⟩ := hb.kid e
      have hcl : c < T.length := Nat.lt_of_le_of_lt (hcj.le hu hj) hj
      have hpath := hP c j hc hcl hj hcj
      rw [huc] at hpath
      have t1 := dist_tri (bkAt T p).t (bkAt T j).t w false (hs p hp) (hs j hj) hw
      have t2 := dist_tri (bkAt T p).t w (bkAt T j).t false (hs p hp) hw (hs j hj)
      rw [dist_symm (bkAt T j).t w false] at t2
      have hlt := upOf_lt hu hc hcl
      refine List.mem_flatMap.2 ⟨c, List.mem_filter.2 ⟨KB_has hu hc hcl huc, ?_⟩, ih c j hcl (by omega) hj hcj hd⟩
      rw [Bool.and_eq_true, decide_eq_true_eq, decide_eq_true_eq]
      omega
theorem near_only {T : List BkN} (hu : UpB T) (w : ByteArray) (k : Int) : ∀ f p j, p < T.length → j ∈ nearB T w k f p → j < T.length ∧ Bel T p j ∧ distI (bkAt T j).t w false ≤ k := by
  intro f
  induction f with
  | zero => intro p j _ h; cases h
  | succ f ih =>
    intro p j hp h
    rw [nearB, List.mem_append] at h
    rcases h with h | h
    · split at h
      · rename_i hd
        rw [List.mem_singleton] at h
        subst h
        exact ⟨hp, Bel.self _ _, hd⟩
      · cases h
    · obtain ⟨c, hc, hj⟩ := List.mem_flatMap.1 h
      obtain ⟨hk, _⟩ := List.mem_filter.1 hc
      obtain ⟨h1, h2, h3⟩ := KB_in hk
      obtain ⟨a1, a2, a3⟩ := ih c j h2 hj
      have hpc : Bel T p c := Bel.step (by omega) (by unfold upOf; rw [h3]; simpa using Bel.self T p)
      exact ⟨a1, hpc.trans a2, a3⟩
end Go.Proofs.Ytgikjopmijomgaa

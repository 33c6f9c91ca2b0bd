/-
  Texts in order, as often as they stand (plain; split off XIter).
-/
import Derived.Test.YtpniiaemgobaiabL16M
import Derived.Sort.KeysCollected
namespace Go.Proofs.Ytpniiaemgobaiab
open Go.RowKit Go.Maps Go.Sort Go.Shelf
set_option linter.unusedVariables false
set_option maxRecDepth 100000
theorem keys_facts {w : World} {b n : Nat} {D : DataW Unit} {G : List (List UInt8)} (h : Bag w b n D G) : (strKeys D).Nodup ∧ ∀ x, x ∈ strKeys D ↔ Maps.has D (.string x) = true := by
  obtain ⟨es, hD, hpw, _⟩ := h.1.entries bag_law
  obtain ⟨es', hD', hko⟩ := h.1.keysOf
  obtain rfl : es = es' := by rw [hD] at hD'; simpa using hD'
  subst hD
  have hk : ∀ p ∈ es, ∃ x, p.1 = Lit.string x := fun p hp => by obtain ⟨v, hv⟩ := hko p hp; obtain ⟨x, _, hx, _⟩ := Maps.keyOf_str Try.underlying9 hv; exact ⟨x, hx⟩
  refine ⟨?_, fun x => ?_⟩
  · show (es.map fun p => strOf p.1).Nodup
    refine List.pairwise_map.2 (hpw.imp_of_mem fun {p q} hp' hq' hne e => hne ?_)
    obtain ⟨a, ha⟩ := hk p hp'
    obtain ⟨b, hb⟩ := hk q hq'
    rw [ha, hb] at e ⊢
    exact congrArg _ e
  · show x ∈ es.map (fun p => strOf p.1) ↔ es.any (fun p => p.1.sameKey (.string x)) = true
    rw [List.mem_map, List.any_eq_true]
    constructor
    · rintro ⟨p, hp, e⟩
      obtain ⟨a, ha⟩ := hk p hp
      refine ⟨p, hp, ?_⟩
      rw [ha] at e ⊢
      have : a = x := e
      subst this
      exact WideAt.sameKey_self trivial
    · rintro ⟨p, hp, e⟩
      obtain ⟨a, ha⟩ := hk p hp
      refine ⟨p, hp, ?_⟩
      rw [ha] at e ⊢
      have := WideAt.sameKey_eq e
      injection this
/-- each text as often as G has it -/
def repL (G : List (List UInt8)) : List (List UInt8) → List (List UInt8)
  | [] => []
  | x :: K => List.replicate (G.count x) x ++ repL G K
theorem repL_append (G K K' : List (List UInt8)) : repL G (K ++ K') = repL G K ++ repL G K' := by
  induction K with
  | nil => rfl
  | cons x K ih => rw [List.cons_append, repL, repL, ih, List.append_assoc]
theorem repL_mem {G K : List (List UInt8)} {y : List UInt8} (h : y ∈ repL G K) : y ∈ K := by
  induction K with
  | nil => cases h
  | cons x K ih =>
    rw [repL, List.mem_append] at h
    rcases h with h | h
    · rw [List.eq_of_mem_replicate h]; exact List.mem_cons_self
    · exact List.mem_cons_of_mem _ (ih h)
theorem repL_count_out {G K : List (List UInt8)} {u : List UInt8} (h : u ∉ K) : (repL G K).count u = 0 := List.count_eq_zero_of_not_mem fun h2 => h (repL_mem h2)
theorem repL_count {G K : List (List UInt8)} (hn : K.Nodup) {u : List UInt8} (h : u ∈ K) : (repL G K).count u = G.count u := by
  induction K with
  | nil => cases h
  | cons x K ih =>
    rw [List.nodup_cons] at hn
    rw [repL, List.count_append]
    by_cases e : x = u
    · subst e
      rw [List.count_replicate_self, repL_count_out hn.1]; rfl
    · rcases List.mem_cons.1 h with h2 | h2
      · exact absurd h2.symm e
      · rw [ih hn.2 h2, List.count_replicate]
        have : (x == u) = false := by simpa using e
        rw [this]; simp
theorem upL_append {A B : List (List UInt8)} (hA : UpL A) (hB : UpL B) (h : ∀ x ∈ A, ∀ y ∈ B, ¬ y < x) : UpL (A ++ B) := by
  induction A with
  | nil => exact hB
  | cons a A ih =>
    refine ⟨fun y hy => ?_, ih hA.2 fun x hx => h x (List.mem_cons_of_mem _ hx)⟩
    rcases List.mem_append.1 hy with h1 | h1
    · exact hA.1 y h1
    · exact h a List.mem_cons_self y h1
theorem upL_replicate (n : Nat) (x : List UInt8) : UpL (List.replicate n x) := by
  induction n with
  | zero => trivial
  | succ n ih => exact ⟨fun y hy => by rw [List.eq_of_mem_replicate hy]; exact bl_irrefl x, ih⟩
theorem repL_up {G K : List (List UInt8)} (h : UpL K) : UpL (repL G K) := by
  induction K with
  | nil => trivial
  | cons x K ih => exact upL_append (upL_replicate _ _) (ih h.2) fun a ha y hy => by rw [List.eq_of_mem_replicate ha]; exact h.1 y (repL_mem hy)
/-- two lists in order that have the same texts as often are one -/
theorem upL_eq : ∀ (A B : List (List UInt8)), UpL A → UpL B → (∀ u, A.count u = B.count u) → A = B
  | [], [], _, _, _ => rfl
  | [], y :: B, _, _, h => by have := h y; rw [List.count_cons_self] at this; simp at this
  | x :: A, [], _, _, h => by have := h x; rw [List.count_cons_self] at this; simp at this
  | x :: A, y :: B, hA, hB, h => by
    have hx : x ∈ y :: B := List.count_pos_iff.1 (by rw [← h x, List.count_cons_self]; omega)
    have hy : y ∈ x :: A := List.count_pos_iff.1 (by rw [h y, List.count_cons_self]; omega)
    have e : x = y := by
      rcases List.mem_cons.1 hx with h1 | h1
      · exact h1
      · rcases List.mem_cons.1 hy with h2 | h2
        · exact h2.symm
        · exact bl_tri (hB.1 x h1) (hA.1 y h2)
    subst e
    rw [upL_eq A B hA.2 hB.2 fun u => by have := h u; rw [List.count_cons, List.count_cons] at this; omega]
theorem sorted_up (ss : List (List UInt8)) : UpL (ss.mergeSort (fun x y => decide (x ≤ y))) := by
  have tr : ∀ a b c : List UInt8, decide (a ≤ b) = true → decide (b ≤ c) = true → decide (a ≤ c) = true := fun a b c h1 h2 => by simp only [decide_eq_true_eq] at *; exact List.le_trans h1 h2
  have to : ∀ a b : List UInt8, (decide (a ≤ b) || decide (b ≤ a)) = true := fun a b => by simp only [Bool.or_eq_true, decide_eq_true_eq]; exact List.le_total a b
  have hp := List.pairwise_mergeSort tr to ss
  generalize ss.mergeSort (fun x y => decide (x ≤ y)) = K at hp
  induction K with
  | nil => trivial
  | cons x K ih =>
    rw [List.pairwise_cons] at hp
    exact ⟨fun y hy h => by
      have := hp.1 y hy
      simp only [decide_eq_true_eq] at this
      exact absurd h (List.not_lt.2 this), ih hp.2⟩
/-- the bag's keys in order, each as often as it is there, are all texts in order -/
theorem repL_all {w : World} {b n : Nat} {D : DataW Unit} {G L ss : List (List UInt8)} (h : Bag w b n D G) (hs : ss.Perm (strKeys D)) (hL : UpL L) (hc : ∀ u, L.count u = G.count u) :
    repL G (ss.mergeSort (fun x y => decide (x ≤ y))) = L := by
  obtain ⟨hn, hm⟩ := keys_facts h
  have hp : (ss.mergeSort (fun x y => decide (x ≤ y))).Perm (strKeys D) := (List.mergeSort_perm ss _).trans hs
  have hn2 := hp.nodup_iff.2 hn
  refine upL_eq _ _ (repL_up (sorted_up ss)) hL fun u => ?_
  rw [hc u]
  by_cases hu : u ∈ G
  · exact repL_count hn2 (hp.mem_iff.2 ((hm u).2 (has_of_count h hu)))
  · rw [List.count_eq_zero_of_not_mem hu, List.count_eq_zero_of_not_mem]
    intro h2
    have h3 : 0 < (repL G (ss.mergeSort (fun x y => decide (x ≤ y)))).count u := List.count_pos_iff.2 h2
    rw [repL_count hn2 (repL_mem h2), List.count_eq_zero_of_not_mem hu] at h3
    omega
end Go.Proofs.Ytpniiaemgobaiab

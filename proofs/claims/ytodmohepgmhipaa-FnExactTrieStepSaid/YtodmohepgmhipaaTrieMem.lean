/-
  Chapter 7, the program: a trie's nodes as pointers, while they are made: who lies where.
-/
import Derived.Test.YtodmohepgmhipaaTrieKids
import Derived.Test.YtodmohepgmhipaaWr
import Derived.Test.YtodmohepgmhipaaOwnOn
namespace Go.Proofs.Ytodmohepgmhipaa
open Go.RowKit
set_option linter.unusedVariables false
set_option maxRecDepth 100000
theorem ptr_info : (Try.prog.info? 92).map (fun i => (i.zero, i.size, i.bytes)) = some (some (.pointer none), 1, 8) := by kernel_rfl
theorem OwnV.on {e m : Nat} {w w1 : World} {B : Nat} {a : Option Addr} {n cap : Nat} {V : List Value} (h : OwnV e m w B a n cap V) (hb : ∀ g, (Value.slice a n cap).ownBlock = some g → w1.heap[g]? = w.heap[g]?) : OwnV e m w1 B a n cap V := by
  refine ⟨h.1, h.2.1, ?_⟩
  rcases h.2.2 with h1 | ⟨g, c, cur, hv, hB, hg, r⟩
  · exact .inl h1
  · exact .inr ⟨g, c, cur, hv, hB, (hb g (by simp only [Value.slice.injEq] at hv; rw [hv.1]; rfl)).trans hg, r⟩
/-- node i's kids among the first n nodes -/
def KQ (L : List Nd) (n i : Nat) : List Int := kidsFrom L i (n - (i + 1)) (i + 1)
theorem KQ_in {L : List Nd} {n i : Nat} (hi : i < n) {k : Int} (h : k ∈ KQ L n i) : 0 < k ∧ k.toNat < n := by
  obtain ⟨a, b, _⟩ := kidsFrom_in L i _ _ k h
  omega
theorem KQ_succ (L : List Nd) (n i : Nat) (hi : i < n) : KQ L (n + 1) i = if (ndAt L n).p = i then KQ L n i ++ [(n : Int)] else KQ L n i := by
  have h := kidsFrom_snoc L i (n - (i + 1)) (i + 1)
  unfold KQ
  rw [show n + 1 - (i + 1) = n - (i + 1) + 1 by omega, h, show i + 1 + (n - (i + 1)) = n by omega]
theorem KQ_new (L : List Nd) (n : Nat) : KQ L (n + 1) n = [] := by unfold KQ; rw [Nat.sub_self]; rfl
theorem KQ_length (L : List Nd) (n i : Nat) : (KQ L n i).length ≤ n := by
  have := kidsFrom_length L i (n - (i + 1)) (i + 1); unfold KQ; omega
def parV (L : List Nd) (A : Nat → Nat) (i : Nat) : Value := if i = 0 then .pointer none else ptrOf A (ndAt L i).p
def nodeC (L : List Nd) (n : Nat) (A : Nat → Nat) (F : Nat → Value) (ka : Option Addr) (kc : Nat) (i : Nat) : Array Value :=
  #[.int .i64 i, .int .i64 (letA L i), .int .i64 (deepN L i), parV L A i, F i, .slice ka (KQ L n i).length kc, .slice none 0 0]
/-- n nodes lie in memory from block B on; T tells whose a block is -/
structure TM (w : World) (B : Nat) (L : List Nd) (n : Nat) (A T : Nat → Nat) (F : Nat → Value) (ka : Nat → Option Addr) (kc : Nat → Nat) : Prop where
  blk : ∀ i, i < n → w.heap[A i]? = some (.cells (nodeC L n A F (ka i) (kc i) i) 94 (0, 0))
  own : ∀ i, i < n → OwnV 92 1 w B (ka i) (KQ L n i).length (kc i) ((KQ L n i).map (ptrOf A))
  base : ∀ i, i < n → B ≤ A i
  tag : ∀ i, i < n → T (A i) = 2 * i + 2
  tagk : ∀ i, i < n → ∀ g, (Value.slice (ka i) (KQ L n i).length (kc i)).ownBlock = some g → T g = 2 * i + 3
theorem ptrs_upf {A : Nat → Nat} {n g : Nat} {K : List Int} (h : ∀ k, k ∈ K → k.toNat < n) : K.map (ptrOf (upf A n g)) = K.map (ptrOf A) := by
  apply List.map_congr_left
  intro k hk
  have := h k hk
  unfold ptrOf
  rw [upf_other _ _ _ _ (by omega)]
theorem parV_upf {L : List Nd} (hW : WellP L) {A : Nat → Nat} {n g i : Nat} (hi : i ≤ n) (hl : i < L.length) : parV L (upf A n g) i = parV L A i := by
  unfold parV
  by_cases h0 : i = 0
  · rw [if_pos h0, if_pos h0]
  · rw [if_neg h0, if_neg h0]
    have := hW i (by omega) hl
    unfold ptrOf
    rw [upf_other _ _ _ _ (by omega)]
theorem TM.lt {w : World} {B : Nat} {L : List Nd} {n : Nat} {A T : Nat → Nat} {F : Nat → Value} {ka : Nat → Option Addr} {kc : Nat → Nat} (h : TM w B L n A T F ka kc) {i : Nat} (hi : i < n) : A i < w.heap.size := by
  have := h.blk i hi
  by_cases hlt : A i < w.heap.size
  · exact hlt
  · rw [Array.getElem?_eq_none (by omega)] at this; exact absurd this (by simp)
theorem TM.add {w w4 : World} {B : Nat} {L : List Nd} {n p gf c' : Nat} {A T : Nat → Nat} {F : Nat → Value} {ka : Nat → Option Addr} {kc : Nat → Nat} {a' : Option Addr} (h : TM w B L n A T F ka kc) (hB : B ≤ w.heap.size)
    (hW : WellP L) (hn : n < L.length) (h0 : 0 < n) (hp : (ndAt L n).p = (p : Int)) (hpn : p < n) (hF : F n = .pointer none) (hgf : w.heap.size < gf)
    (hnew : w4.heap[w.heap.size]? = some (.cells #[.int .i64 n, .int .i64 (ndAt L n).b, .int .i64 (deepN L p + 1 : Nat), .pointer (some ⟨A p, 0, none⟩), .pointer none, .slice none 0 0, .slice none 0 0] 94 (0, 0)))
    (hpb : w4.heap[A p]? = some (.cells #[.int .i64 p, .int .i64 (letA L p), .int .i64 (deepN L p), parV L A p, F p, .slice a' ((KQ L n p).length + 1) c', .slice none 0 0] 94 (0, 0)))
    (hown : OwnV 92 1 w4 B a' ((KQ L n p).length + 1) c' ((KQ L n p).map (ptrOf A) ++ [.pointer (some ⟨w.heap.size, 0, none⟩)]))
    (hat : ∀ g, (Value.slice a' ((KQ L n p).length + 1) c').ownBlock = some g → (Value.slice (ka p) (KQ L n p).length (kc p)).ownBlock = some g ∨ g = gf)
    (hoth : ∀ k, k < w.heap.size → k ≠ A p → (Value.slice (ka p) (KQ L n p).length (kc p)).ownBlock ≠ some k → w4.heap[k]? = w.heap[k]?) :
    TM w4 B L (n + 1) (upf A n w.heap.size) (upf (upf T w.heap.size (2 * n + 2)) gf (2 * p + 3)) F (upf (upf ka p a') n none) (upf (upf kc p c') n 0) := by
  have hkq : ∀ i, i < n → i ≠ p → KQ L (n + 1) i = KQ L n i := fun i hi hip => by rw [KQ_succ L n i hi, if_neg (by omega)]
  have hkp : KQ L (n + 1) p = KQ L n p ++ [(n : Int)] := by rw [KQ_succ L n p hpn, if_pos hp]
  have hkn : KQ L (n + 1) n = [] := KQ_new L n
  have hT : ∀ g, g < w.heap.size → upf (upf T w.heap.size (2 * n + 2)) gf (2 * p + 3) g = T g := fun g hg => by
    rw [upf_other _ _ _ _ (by omega), upf_other _ _ _ _ (by omega)]
  have hA : ∀ i, i < n → upf A n w.heap.size i = A i := fun i hi => upf_other _ _ _ _ (by omega)
  have hkb : ∀ i, i < n → ∀ g, (Value.slice (ka i) (KQ L n i).length (kc i)).ownBlock = some g → g < w.heap.size := fun i hi => (h.own i hi).turn_lt
  refine ⟨fun i hi => ?_, fun i hi => ?_, fun i hi => ?_, fun i hi => ?_, fun i hi g hg => ?_⟩
  · by_cases e : i = n
    · subst e
      rw [upf_self, hnew]
      unfold nodeC
      rw [hkn, upf_self, upf_self, parV_upf hW (Nat.le_refl _) hn]
      unfold parV letA ptrOf
      rw [if_neg (by omega), if_neg (by omega), hp, Int.toNat_natCast, deepN_pos hW h0 hn, hp, Int.toNat_natCast, hF]
      rfl
    · have hi' : i < n := by omega
      rw [hA i hi', upf_other _ _ _ _ e, upf_other _ _ _ _ e]
      by_cases ep : i = p
      · subst ep
        rw [hpb, upf_self, upf_self]
        unfold nodeC
        rw [hkp, List.length_append, parV_upf hW (by omega) (by omega)]
        rfl
      · rw [upf_other _ _ _ _ ep, upf_other _ _ _ _ ep, hoth (A i) (h.lt hi') (fun e2 => by
          have h1 := h.tag i hi'; have h2 := h.tag p hpn; rw [e2] at h1; omega) (fun e2 => by
          have h1 := h.tag i hi'; have h2 := h.tagk p hpn _ e2; omega), h.blk i hi']
        unfold nodeC
        rw [hkq i hi' ep, parV_upf hW (by omega) (by omega)]
  · by_cases e : i = n
    · subst e
      rw [hkn, upf_self, upf_self]
      exact OwnV.nil _ _
    · have hi' : i < n := by omega
      rw [upf_other _ _ _ _ e, upf_other _ _ _ _ e]
      by_cases ep : i = p
      · subst ep
        rw [upf_self, upf_self, hkp, List.length_append, List.map_append, ptrs_upf (fun k hk => (KQ_in hi' hk).2)]
        have hl : [(n : Int)].map (ptrOf (upf A n w.heap.size)) = [.pointer (some ⟨w.heap.size, 0, none⟩)] := by
          simp only [List.map_cons, List.map_nil, ptrOf, Int.toNat_natCast, upf_self]
        rw [hl]
        exact hown
      · rw [upf_other _ _ _ _ ep, upf_other _ _ _ _ ep, hkq i hi' ep, ptrs_upf (fun k hk => (KQ_in hi' hk).2)]
        exact (h.own i hi').on fun g hg => hoth g (hkb i hi' g hg) (fun e2 => by
          have h1 := h.tagk i hi' g hg; have h2 := h.tag p hpn; rw [e2] at h1; omega) (fun e2 => by
          have h1 := h.tagk i hi' g hg; have h2 := h.tagk p hpn _ e2; omega)
  · by_cases e : i = n
    · subst e; rw [upf_self]; exact hB
    · rw [hA i (by omega)]; exact h.base i (by omega)
  · by_cases e : i = n
    · subst e; rw [upf_self, upf_other _ _ _ _ (by omega), upf_self]
    · have hi' : i < n := by omega
      rw [hA i hi', hT _ (h.lt hi')]; exact h.tag i hi'
  · by_cases e : i = n
    · subst e
      rw [hkn, upf_self] at hg
      exact absurd hg (by simp [Value.ownBlock])
    · have hi' : i < n := by omega
      rw [upf_other _ _ _ _ e, upf_other _ _ _ _ e] at hg
      by_cases ep : i = p
      · subst ep
        rw [upf_self, upf_self, hkp, List.length_append] at hg
        rcases hat g hg with h1 | h1
        · rw [hT g (hkb _ hi' g h1)]; exact h.tagk _ hi' g h1
        · rw [h1, upf_self]
      · rw [upf_other _ _ _ _ ep, upf_other _ _ _ _ ep, hkq i hi' ep] at hg
        rw [hT g (hkb _ hi' g hg)]; exact h.tagk i hi' g hg
end Go.Proofs.Ytodmohepgmhipaa

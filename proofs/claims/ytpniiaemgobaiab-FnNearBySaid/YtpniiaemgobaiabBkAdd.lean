/-
  Chapter 15, the program: one node more among those in memory.
-/
import Derived.Test.YtpniiaemgobaiabBkMem
namespace Go.Proofs.Ytpniiaemgobaiab
open Go.RowKit
set_option linter.unusedVariables false
set_option maxRecDepth 100000
theorem ptrsB_up {A : Nat → Nat} {n g : Nat} {K : List Nat} (h : ∀ k, k ∈ K → k < n) : K.map (ptrB (upN A n g)) = K.map (ptrB A) := by
  apply List.map_congr_left
  intro k hk
  have := h k hk
  unfold ptrB
  rw [upN_other _ _ _ _ (by omega)]
theorem upV_up {L : List BkN} (hU : UpB L) {A : Nat → Nat} {g i : Nat} (b : BkN) (hi : i < L.length) : upV (L ++ [b]) (upN A L.length g) i = upV L A i := by
  unfold upV
  by_cases h0 : i = 0
  · rw [if_pos h0, if_pos h0]
  · rw [if_neg h0, if_neg h0, bkAt_old hi]
    have := hU i (by omega) hi
    unfold ptrB
    rw [upN_other _ _ _ _ (by omega)]
theorem nodeB_new {L : List BkN} {b : BkN} {A : Nat → Nat} {g q : Nat} (h0 : 0 < L.length) (hbu : b.u = (q : Int)) (hq : q < L.length) :
    nodeB (L ++ [b]) (upN A L.length g) none 0 L.length = #[.int .i64 L.length, .string b.t, .int .i64 b.d, ptrB A q, .slice none 0 0] := by
  unfold nodeB upV
  rw [if_neg (by omega), bkAt_new, KB_new, hbu, Int.toNat_natCast]
  unfold ptrB
  rw [upN_other _ _ _ _ (by omega)]
  rfl
theorem BM.add {w w4 : World} {B : Nat} {L : List BkN} {A T : Nat → Nat} {ka : Nat → Option Addr} {kc : Nat → Nat} (h : BM w B L A T ka kc) (b : BkN) (q g0 gf c' : Nat) (a' : Option Addr) (hq : q < L.length) (hbu : b.u = (q : Int)) (hU : UpB L)
    (hg0 : w.heap.size ≤ g0) (hgf : g0 < gf) (hB : B ≤ g0)
    (hnew : w4.heap[g0]? = some (.cells #[.int .i64 L.length, .string b.t, .int .i64 b.d, ptrB A q, .slice none 0 0] 63 (0, 0)))
    (hpb : w4.heap[A q]? = some (.cells #[.int .i64 q, .string (bkAt L q).t, .int .i64 (bkAt L q).d, upV L A q, .slice a' ((KB L q).length + 1) c'] 63 (0, 0)))
    (hown : OwnV 60 1 w4 B a' ((KB L q).length + 1) c' ((KB L q).map (ptrB A) ++ [.pointer (some ⟨g0, 0, none⟩)]))
    (hat : ∀ g, (Value.slice a' ((KB L q).length + 1) c').ownBlock = some g → (Value.slice (ka q) (KB L q).length (kc q)).ownBlock = some g ∨ g = gf)
    (hoth : ∀ k, k < w.heap.size → k ≠ A q → (Value.slice (ka q) (KB L q).length (kc q)).ownBlock ≠ some k → w4.heap[k]? = w.heap[k]?) :
    BM w4 B (L ++ [b]) (upN A L.length g0) (upN (upN T g0 (2 * L.length + 2)) gf (2 * q + 3)) (upN (upN ka q a') L.length none) (upN (upN kc q c') L.length 0) := by
  have hlen : (L ++ [b]).length = L.length + 1 := by rw [List.length_append]; rfl
  have h0 : 0 < L.length := by omega
  have hko : ∀ i, i < L.length → i ≠ q → KB (L ++ [b]) i = KB L i := fun i hi hiq => by rw [KB_add L b i hi, if_neg (by omega), List.append_nil]
  have hkq : KB (L ++ [b]) q = KB L q ++ [L.length] := by rw [KB_add L b q hq, if_pos hbu]
  have hkn : KB (L ++ [b]) L.length = [] := KB_new L b
  have hT : ∀ g, g < w.heap.size → upN (upN T g0 (2 * L.length + 2)) gf (2 * q + 3) g = T g := fun g hg => by
    rw [upN_other _ _ _ _ (by omega), upN_other _ _ _ _ (by omega)]
  have hA : ∀ i, i < L.length → upN A L.length g0 i = A i := fun i hi => upN_other _ _ _ _ (by omega)
  have hkb : ∀ i, i < L.length → ∀ g, (Value.slice (ka i) (KB L i).length (kc i)).ownBlock = some g → g < w.heap.size := fun i hi => (h.own i hi).turn_lt
  refine ⟨fun i hi => ?_, fun i hi => ?_, fun i hi => ?_, fun i hi => ?_, fun i hi g hg => ?_⟩
  · rw [hlen] at hi
    by_cases e : i = L.length
    · subst e
      rw [upN_self, hnew, upN_self, upN_self, nodeB_new h0 hbu hq]
    · have hi' : i < L.length := by omega
      rw [hA i hi', upN_other _ _ _ _ e, upN_other _ _ _ _ e]
      by_cases ep : i = q
      · subst ep
        rw [hpb, upN_self, upN_self]
        unfold nodeB
        rw [hkq, List.length_append, upV_up hU b hi', bkAt_old hi']
        rfl
      · rw [upN_other _ _ _ _ ep, upN_other _ _ _ _ ep, hoth (A i) (h.lt hi') (fun e2 => by
          have h1 := h.tag i hi'; have h2 := h.tag q hq; rw [e2] at h1; omega) (fun e2 => by
          have h1 := h.tag i hi'; have h2 := h.tagk q hq _ e2; omega), h.blk i hi']
        unfold nodeB
        rw [hko i hi' ep, upV_up hU b hi', bkAt_old hi']
  · rw [hlen] at hi
    by_cases e : i = L.length
    · subst e
      rw [hkn, upN_self, upN_self]
      exact OwnV.nil _ _
    · have hi' : i < L.length := by omega
      rw [upN_other _ _ _ _ e, upN_other _ _ _ _ e]
      by_cases ep : i = q
      · subst ep
        rw [upN_self, upN_self, hkq, List.length_append, List.map_append, ptrsB_up (fun k hk => (KB_in hk).2.1)]
        have hl : [L.length].map (ptrB (upN A L.length g0)) = [.pointer (some ⟨g0, 0, none⟩)] := by
          simp only [List.map_cons, List.map_nil, ptrB, upN_self]
        rw [hl]
        exact hown
      · rw [upN_other _ _ _ _ ep, upN_other _ _ _ _ ep, hko i hi' ep, ptrsB_up (fun k hk => (KB_in hk).2.1)]
        exact (h.own i hi').onB fun g hg => hoth g (hkb i hi' g hg) (fun e2 => by
          have h1 := h.tagk i hi' g hg; have h2 := h.tag q hq; rw [e2] at h1; omega) (fun e2 => by
          have h1 := h.tagk i hi' g hg; have h2 := h.tagk q hq _ e2; omega)
  · rw [hlen] at hi
    by_cases e : i = L.length
    · subst e; rw [upN_self]; exact hB
    · rw [hA i (by omega)]; exact h.base i (by omega)
  · rw [hlen] at hi
    by_cases e : i = L.length
    · subst e; rw [upN_self, upN_other _ _ _ _ (by omega), upN_self]
    · have hi' : i < L.length := by omega
      rw [hA i hi', hT _ (h.lt hi')]; exact h.tag i hi'
  · rw [hlen] at hi
    by_cases e : i = L.length
    · subst e
      rw [hkn, upN_self] at hg
      exact absurd hg (by simp [Value.ownBlock])
    · have hi' : i < L.length := by omega
      rw [upN_other _ _ _ _ e, upN_other _ _ _ _ e] at hg
      by_cases ep : i = q
      · subst ep
        rw [upN_self, upN_self, hkq, List.length_append] at hg
        rcases hat g hg with h1 | h1
        · rw [hT g (hkb _ hi' g h1)]; exact h.tagk _ hi' g h1
        · rw [h1, upN_self]
      · rw [upN_other _ _ _ _ ep, upN_other _ _ _ _ ep, hko i hi' ep] at hg
        rw [hT g (hkb _ hi' g hg)]; exact h.tagk i hi' g hg
/-- the first node -/
theorem BM.one {w4 : World} {B : Nat} (b : BkN) (g0 : Nat) (hB : B ≤ g0) (hbd : b.d = 0)
    (hnew : w4.heap[g0]? = some (.cells #[.int .i64 0, .string b.t, .int .i64 0, .pointer none, .slice none 0 0] 63 (0, 0))) :
    BM w4 B [b] (fun _ => g0) (fun k => if k = g0 then 2 else 0) (fun _ => none) (fun _ => 0) := by
  refine ⟨fun i hi => ?_, fun i hi => ?_, fun i hi => hB, fun i hi => ?_, fun i hi g hg => ?_⟩
  · obtain rfl : i = 0 := by simpa using hi
    rw [hnew]
    unfold nodeB upV
    rw [if_pos rfl, show KB [b] 0 = [] from rfl, show bkAt [b] 0 = b from rfl, hbd]
    rfl
  · obtain rfl : i = 0 := by simpa using hi
    exact OwnV.nil _ _
  · obtain rfl : i = 0 := by simpa using hi
    simp
  · obtain rfl : i = 0 := by simpa using hi
    exact absurd hg (by simp [Value.ownBlock])
end Go.Proofs.Ytpniiaemgobaiab

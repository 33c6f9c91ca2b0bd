/-
  Slices of nodes that a law makes: where they lie.
-/
import Derived.Test.YtodmohepgmhipaaNodesEq
namespace Go.Proofs.Ytodmohepgmhipaa
open Go.RowKit
set_option linter.unusedVariables false
set_option maxRecDepth 100000
theorem OwnN.lo {w : World} {B : Nat} {a : Option Addr} {n cap : Nat} {L : List Int} (h : OwnN w B a n cap L) {g : Nat} (o : Nat) (v : Value) (hg : g < B) : OwnN (w.setCell ⟨g, o, none⟩ v) B a n cap L :=
  h.kept_hi (r := some g) (hg := grownBy_setCell1 _ g o v) (fun k hk => by cases hk; exact hg)
set_option maxHeartbeats 2000000 in
theorem laws_toNode (x y z : Int) (K O : List Int) (ka oa : Option Addr) (kc oc : Nat) (w : World) (hk : Ints w ka K) (ho : Ints w oa O) (hK : K.length ≤ 1048576) (hO : O.length ≤ 1048576) :
    Calls Try.prog 55 #[.agg #[.int .i64 x, .int .i64 y, .int .i64 z, .slice ka K.length kc, .slice oa O.length oc]] w fun e w' =>
      ∃ a1 c1 a2 c2 C, e = .returned (.agg #[.int .i64 x, .int .i64 y, .int .i64 z, .slice a1 K.length c1, .slice a2 O.length c2]) ∧ OwnN w' w.heap.size a1 K.length c1 K ∧ OwnN w' C a2 O.length c2 O ∧ w.heap.size ≤ C ∧ (∀ k, (Value.slice a1 K.length c1).ownBlock = some k → k < C) ∧ Below w.heap.size w w' := by
  go_enter Try.func55, Try.ntmps55
  go_wp2_with fail
  refine (laws_toInt64S K _ _ _ _ rfl (hk.kept (by repeat (first | exact Below.refl _ _ | assumption | (refine Below.drew ?_) | (refine below_drewN ?_ _) | (refine Below.alloc ?_ (by first | omega | (simp; done) | (simp; omega)) _) | (refine Below.setCell ?_ (by first | omega | (simp; done) | (simp; omega)) _)))) (by omega)).mono ?_
  rintro e w1 ⟨a1, c1, rfl, hO1, hb1⟩
  obtain ⟨hc_w1, hf_w1⟩ := bcell hb1; have HT_w1 : Below w.heap.size w w1 := below_step (by repeat (first | exact Below.refl _ _ | assumption | (refine Below.drew ?_) | (refine below_drewN ?_ _) | (refine Below.alloc ?_ (by first | omega | (simp; done) | (simp; omega)) _) | (refine Below.setCell ?_ (by first | omega | (simp; done) | (simp; omega)) _))) hb1; have hz_w_w1 : w.heap.size < w1.heap.size := (by have h1 := hb1.size; (try simp at h1); omega)
  have hz1 : w.heap.size + 1 < w1.heap.size := by have h1 := hb1.size; (try simp at h1); omega
  have hz2 : w.heap.size + 2 < w1.heap.size := by have h1 := hb1.size; (try simp at h1); omega
  have hO1' := hO1.mono (C := w.heap.size + 3) (by simp)
  have hlt1 : ∀ k, (Value.slice a1 K.length c1).ownBlock = some k → k < w1.heap.size := fun k hk => (hO1.2.lt k hk).2
  clear hO1
  go_wp2_with fail
  have HT1 : Below w.heap.size w (w1.setCell ⟨w.heap.size + 2, 3, none⟩ (.slice a1 K.length c1)) := HT_w1.setCell (p := ⟨w.heap.size + 2, 3, none⟩) (by simp) _
  have hO1 := hO1'.kept_hi (r := some (w.heap.size + 2)) (hg := grownBy_setCell1 _ (w.heap.size + 2) 3 (.slice a1 K.length c1)) (fun k hk => by cases hk; omega)
  clear hO1'
  refine (laws_toInt64S O _ _ _ _ rfl (ho.kept HT1) (by omega)).mono ?_
  rintro e w2 ⟨a2, c2, rfl, hO2, hb2⟩
  obtain ⟨hc_w2, hf_w2⟩ := bcell hb2
  have HT_w2 := below_step HT1 hb2
  have hy1 : w.heap.size + 1 < w2.heap.size := by have h1 := hb2.size; (try simp at h1); omega
  have hy2 : w.heap.size + 2 < w2.heap.size := by have h1 := hb2.size; (try simp at h1); omega
  have hO1b := hO1.kept hb2
  have hO2b := hO2.mono (C := w1.heap.size) (by simp)
  clear hO1 hO2
  go_wp2_with fail
  have q1 : w.heap.size + 1 < w.heap.size + 3 := by omega
  have q2 : w.heap.size + 1 + 1 < w.heap.size + 3 := by omega
  have r1 : w.heap.size + 1 < w1.heap.size := hz1
  have r2 : w.heap.size + 1 + 1 < w1.heap.size := hz2
  refine bodyPost_ret (v := .agg #[.int .i64 x, .int .i64 y, .int .i64 z, .slice a1 K.length c1, .slice a2 O.length c2]) (by simp [results, Try.results55, go_sem, hc_w2, hc_w1, hz1]) rfl ⟨a1, c1, a2, c2, w1.heap.size, rfl, ?_, ?_, by omega, hlt1, ?_⟩
  · exact (((((((hO1b.lo 4 _ q2).lo 0 _ q1).lo 1 _ q1).lo 2 _ q1).lo 3 _ q1).lo 4 _ q1)).mono (by omega)
  · exact (((((hO2b.lo 4 _ r2).lo 0 _ r1).lo 1 _ r1).lo 2 _ r1).lo 3 _ r1).lo 4 _ r1
  · exact (((((HT_w2.setCell (p := ⟨w.heap.size + 2, 4, none⟩) (by simp) _).setCell (p := ⟨w.heap.size + 1, 0, none⟩) (by simp) _).setCell (p := ⟨w.heap.size + 1, 1, none⟩) (by simp) _).setCell (p := ⟨w.heap.size + 1, 2, none⟩) (by simp) _).setCell (p := ⟨w.heap.size + 1, 3, none⟩) (by simp) _).setCell (p := ⟨w.heap.size + 1, 4, none⟩) (by simp) _
end Go.Proofs.Ytodmohepgmhipaa

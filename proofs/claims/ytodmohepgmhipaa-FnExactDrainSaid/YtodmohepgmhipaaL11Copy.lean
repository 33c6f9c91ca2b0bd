/-
  l11Copy: the model's copy of a session.
-/
import Derived.Test.YtodmohepgmhipaaClones
import Derived.Test.YtodmohepgmhipaaColsApp
import Derived.Deep.RegionHeldLaw
import Derived.Deep.Cut
namespace Go.Proofs.Ytodmohepgmhipaa
open Go.RowKit
set_option linter.unusedVariables false
set_option maxRecDepth 100000
/-- an owned row of something in it does not lie where cells of another type lie -/
theorem OwnV.ne_block {e m : Nat} {w : World} {B n cap k : Nat} {a : Option Addr} {V : List Value} {cs : Array Value} {t : TypeId} {fr : Nat × Nat} (h : OwnV e m w B a n cap V) (hk : w.heap[k]? = some (.cells cs t fr)) (ht : t ≠ e) : (Value.slice a n cap).ownBlock ≠ some k := by
  intro hb
  rcases h.2.2 with ⟨hv, _⟩ | ⟨g, c, cur, hv, _, hg, _⟩
  · rw [hv] at hb; cases hb
  · rw [hv] at hb
    simp only [Value.ownBlock, Option.some.injEq] at hb
    subst hb
    rw [hk] at hg
    simp only [Option.some.injEq, Obj.cells.injEq] at hg
    exact ht hg.2.1
theorem OwnV.past {e m e2 : Nat} {w1 W w2 : World} {B n cap k : Nat} {a : Option Addr} {V : List Value} {cs : Array Value} {fr : Nat × Nat} (h : OwnV e m w1 B a n cap V) (hb : Below w1.heap.size w1 W) (hg : W.grownBy w2 (Value.slice (some ⟨k, 0, none⟩) 0 0).ownBlock) (hk : W.heap[k]? = some (.cells cs e2 fr)) (ht : e2 ≠ e) : OwnV e m w2 B a n cap V := by
  have h1 := h.kept hb
  have h2 := h1.ne_block hk ht
  refine ⟨h1.1, h1.2.kept hg ?_⟩
  cases hv : (Value.slice a n cap).ownBlock with
  | none => exact .inl rfl
  | some q => exact .inr fun e3 => h2 (hv.trans e3)
theorem cell_at_drew {w : World} {a : Addr} {v : Value} (h : w.cell? a = some v) : w.drew.cell? a = some v := h
theorem cell_at_alloc {w : World} {A : Obj} {a : Addr} {v : Value} (h : w.cell? a = some v) : (w.alloc A).cell? a = some v := (World.cell?_alloc_lt w A a (World.block_lt_of_cell? w a h)).trans h
theorem cell_at_set {w : World} {b o q : Nat} {B : Nat} {x v : Value} (h : w.cell? ⟨B, q, none⟩ = some v) (hne : ¬ b = B) : (w.setCell ⟨b, o, none⟩ x).cell? ⟨B, q, none⟩ = some v :=
  (World.cell?_setCell_other w ⟨b, o, none⟩ ⟨B, q, none⟩ x (fun e => hne (by simp only [Addr.mk.injEq] at e; exact e.1))).trans h
theorem heap_at_new {w : World} {A : Obj} {k : Nat} (h : k = w.heap.size) : (w.alloc A).heap[k]? = some A := by subst h; exact heap_alloc_new w A
theorem heap_at_old {w : World} {A x : Obj} {k : Nat} (h : w.heap[k]? = some x) : (w.alloc A).heap[k]? = some x := by
  have hk : k < w.heap.size := by
    rcases Nat.lt_or_ge k w.heap.size with h1 | h1
    · exact h1
    · rw [Array.getElem?_eq_none h1] at h; cases h
  exact (Below.heap_alloc w A k hk).trans h
theorem heap_at_drew {w : World} {x : Obj} {k : Nat} (h : w.heap[k]? = some x) : w.drew.heap[k]? = some x := h
theorem heap_at_grown {w w1 : World} {x : Obj} {k : Nat} {r : Option Nat} (h : w.heap[k]? = some x) (hg : w.grownBy w1 r) (hne : some k ≠ r) : w1.heap[k]? = some x := by
  have hk : k < w.heap.size := by
    rcases Nat.lt_or_ge k w.heap.size with h1 | h1
    · exact h1
    · rw [Array.getElem?_eq_none h1] at h; cases h
  exact (hg.block k hk hne).trans h
theorem OwnV.headOf {e m : Nat} {w : World} {B n cap : Nat} {a : Option Addr} {V : List Value} (h : OwnV e m w B a n cap V) (hne : Value.slice a n cap ≠ .slice none 0 0) : ∃ g, a = some ⟨g, 0, none⟩ ∧ n ≤ cap := by
  rcases h.form0 with ⟨rfl, rfl, rfl⟩ | h
  · exact absurd rfl hne
  · exact h
theorem step_append_vals2 {P : Program} {w : World} {ops : Array Oper} {o : Oper} {a : Act} {K : Act → World → Prop} {Q : Exit → Act → World → Prop} {E : Prop} (hgd : o.guard = none) (s x : Operand) (t : TypeId)
    (ho : o.op = .call { callee := .builtin .append, args := #[s, x], argTypes := #[t, t] })
    (base : Nat) (e : TypeId) (i : TypeInfo) (z : Value) (size bytes : Nat) (ht : P.underlying t = some (.slice e)) (hi : P.info? e = some i) (hz : i.zero = some z)
    (hsize : i.size = size) (hby : i.bytes = bytes) (hzs : z.cells.size = size) (hsz : 0 < size)
    (v : Value) (n : Nat) (xs : List Value) (hs : a.eval s = v) (hown : w.ownsRow base e size v n xs)
    (ad : Option Addr) (m c : Nat) (news : List Value) (hx : a.eval x = .slice ad m c) (hl : news.length = m * size) (hnews : News w ad news) (h1 : ∀ u ∈ news, u.oneCell' = true)
    (h63 : n + m ≤ maxLen) (hbytes : (n + m) * bytes ≤ 140737488355328) (hbase : base ≤ w.heap.size)
    (h : ∀ v' w', w'.ownsRow base e size v' (n + m) (xs ++ news) → w.grownBy w' v.ownBlock → (v ≠ .slice none 0 0 → v' ≠ .slice none 0 0) → K (a.put o.dst v') w') :
    if Region.wanted o (yielded ops a.tmps) = true then Oper.wp P o a w K Q else E := by
  have hw : Region.wanted o (yielded ops a.tmps) = true := by simp [Region.wanted, hgd]
  rw [if_pos hw]
  obtain ⟨v', w', hr, h2, h3, h4⟩ : ∃ v' w', (Builtin.append_ #[t, t] o.type #[v, .slice ad m c]).run P w = .ok v' w' ∧ w'.ownsRow base e size v' (n + m) (xs ++ news) ∧ w.grownBy w' v.ownBlock ∧ (v ≠ .slice none 0 0 → v' ≠ .slice none 0 0) := by
    rcases hnews with ⟨rfl, rfl⟩ | ⟨ad, rfl, hn⟩
    · have hm : m = 0 := by
        have h0 : m * size = 0 := by rw [← hl]; rfl
        rcases Nat.mul_eq_zero.1 h0 with h | h
        · exact h
        · omega
      subst hm
      exact ⟨v, w, run_append_none_c base t o.type e i size c ht hi v n xs hown, by simpa using hown, World.grownBy.refl _ _, fun h => h⟩
    · obtain ⟨v', w', hr, h2, h3, h4⟩ := run_append_own (P := P) w base t o.type e i z size bytes ht hi hz hsize hby hzs hsz v n xs hown ad m c news hl hn h1 h63 hbytes hbase
      exact ⟨v', w', hr, h2, h3, fun h e => h (h4.1 e).1⟩
  unfold Oper.wp execOp
  simp only [ho, resolve, invoke, builtin, Sem.run_bind, Sem.run_pure, Result.andThen_ok, List.map_toArray, List.map_cons, List.map_nil, hs, hx, hr]
  exact h v' w' h2 h3 h4
def sesRow (a8 : Option Addr) (c8 : Nat) (a' : Option Addr) (k cap' q nq c18 : Nat) (s : Ses) : Array Value := #[.slice a8 s.D.length c8, .int .i64 s.r, .int .i64 s.b, .int .i64 s.a, .slice a' k cap', .slice (some ⟨q, 0, none⟩) nq c18, .bool s.z]
/-- x leads to a new session like s, but without columns -/
def CopyAt (s : Ses) (nq : Nat) (w0 : World) (x : Value) (wr : World) : Prop := ∃ g a8 c8 q c18, x = .pointer (some ⟨g, 0, none⟩) ∧ w0.heap.size ≤ g ∧ wr.heap[g]? = some (.cells (sesRow a8 c8 none 0 0 q nq c18 s) 49 (0, 0)) ∧ nq ≤ c18 ∧
  (∀ w', Trn (fun k => k = g ∨ k < w0.heap.size ∨ wr.heap.size ≤ k) wr w' → Pats w' a8 s.D ∧ Ints w' (some ⟨q, 0, none⟩) s.Q) ∧ Below w0.heap.size w0 wr
theorem copy_keep {W w' : World} {s : Ses} {a1 : Option Addr} {c1 q2 c2 nq g B : Nat} {cs : Array Value} (h1 : OwnV 73 3 W B a1 s.D.length c1 (patsTo s.D s.D.length)) (h2 : OwnV 106 3 W B (some ⟨q2, 0, none⟩) nq c2 (s.Q.map (Value.int .i64)))
    (hg : W.heap[g]? = some (.cells cs 49 (0, 0))) (ht : Trn (fun k => k = g ∨ k < B ∨ W.heap.size ≤ k) W w') : Pats w' a1 s.D ∧ Ints w' (some ⟨q2, 0, none⟩) s.Q := by
  refine ⟨(patsTo_pats s.D).pats (h1.wr.trn ht fun hV g' o e => ?_).vals, WrI.ints (Wr.trn h2.wr ht fun hV g' o e => ?_)⟩
  · have n1 := h1.ne_block hg (by decide)
    have n2 := h1.turn_lt g' (by rw [e]; rfl)
    have n3 := (h1.2.lt g' (by rw [e]; rfl)).1
    rw [e] at n1
    simp only [Value.ownBlock, ne_eq, Option.some.injEq] at n1
    omega
  · cases e
    have n1 := h2.ne_block hg (by decide)
    have n2 := h2.turn_lt q2 rfl
    have n3 := (h2.2.lt q2 rfl).1
    simp only [Value.ownBlock, ne_eq, Option.some.injEq] at n1
    omega
theorem OwnV.far {e m : Nat} {w w1 : World} {B n cap g : Nat} {a : Option Addr} {V : List Value} {cs : Array Value} {t : TypeId} {fr : Nat × Nat} (h : OwnV e m w B a n cap V) (hk : w.heap[g]? = some (.cells cs t fr)) (ht : t ≠ e) (hg : w.grownBy w1 (some g)) : OwnV e m w1 B a n cap V := by
  have h2 := h.ne_block hk ht
  refine ⟨h.1, h.2.kept hg ?_⟩
  cases hv : (Value.slice a n cap).ownBlock with
  | none => exact .inl rfl
  | some q => exact .inr fun e3 => h2 (hv.trans e3)
theorem copy_A {w0 w2 : World} {s : Ses} {a1 : Option Addr} {c1 q2 c2 nq : Nat} (h1 : OwnV 73 3 w2 w0.heap.size a1 s.D.length c1 (patsTo s.D s.D.length)) (h2 : OwnV 106 3 w2 w0.heap.size (some ⟨q2, 0, none⟩) nq c2 (s.Q.map (Value.int .i64))) (hq : nq ≤ c2) (hA : Below w0.heap.size w0 w2) :
    CopyAt s nq w0 (.pointer (some ⟨w2.heap.size, 0, none⟩)) (w2.alloc (.cells #[.slice a1 s.D.length c1, .int .i64 s.r, .int .i64 s.b, .int .i64 s.a, .slice none 0 0, .slice (some ⟨q2, 0, none⟩) nq c2, .bool s.z] 49)) := by
  have hB : Below w2.heap.size w2 (w2.alloc (.cells #[.slice a1 s.D.length c1, .int .i64 s.r, .int .i64 s.b, .int .i64 s.a, .slice none 0 0, .slice (some ⟨q2, 0, none⟩) nq c2, .bool s.z] 49)) := (Below.refl _ _).alloc (Nat.le_refl _) _
  exact ⟨_, a1, c1, q2, c2, rfl, hA.size, heap_alloc_new _ _, hq, fun w' ht => copy_keep (h1.kept hB) (h2.kept hB) (heap_alloc_new _ _) ht, hA.trans (hB.mono hA.size)⟩
theorem copy_B {w0 w2 : World} {s : Ses} {a1 : Option Addr} {c1 q2 c2 nq g : Nat} (h1 : OwnV 73 3 w2 w0.heap.size a1 s.D.length c1 (patsTo s.D s.D.length)) (h2 : OwnV 106 3 w2 w0.heap.size (some ⟨q2, 0, none⟩) nq c2 (s.Q.map (Value.int .i64))) (hq : nq ≤ c2) (hA : Below w0.heap.size w0 w2) (hB : w0.heap.size ≤ g)
    (hg : w2.heap[g]? = some (.cells #[.slice none 0 0, .int .i64 0, .int .i64 0, .int .i64 0, .slice none 0 0, .slice none 0 0, .bool false] 49 (0, 0))) :
    CopyAt s nq w0 (.pointer (some ⟨g, 0, none⟩)) (((((((w2.setCell ⟨g, 0, none⟩ (.slice a1 s.D.length c1)).setCell ⟨g, 1, none⟩ (.int .i64 s.r)).setCell ⟨g, 2, none⟩ (.int .i64 s.b)).setCell ⟨g, 3, none⟩ (.int .i64 s.a)).setCell ⟨g, 4, none⟩ (.slice none 0 0)).setCell ⟨g, 5, none⟩ (.slice (some ⟨q2, 0, none⟩) nq c2)).setCell ⟨g, 6, none⟩ (.bool s.z)) := by
  have st : ∀ (W : World) (cs : Array Value) (o : Nat) (x : Value), (OwnV 73 3 W w0.heap.size a1 s.D.length c1 (patsTo s.D s.D.length) ∧ OwnV 106 3 W w0.heap.size (some ⟨q2, 0, none⟩) nq c2 (s.Q.map (Value.int .i64)) ∧ Below w0.heap.size w0 W ∧ W.heap[g]? = some (.cells cs 49 (0, 0))) →
      (OwnV 73 3 (W.setCell ⟨g, o, none⟩ x) w0.heap.size a1 s.D.length c1 (patsTo s.D s.D.length) ∧ OwnV 106 3 (W.setCell ⟨g, o, none⟩ x) w0.heap.size (some ⟨q2, 0, none⟩) nq c2 (s.Q.map (Value.int .i64)) ∧ Below w0.heap.size w0 (W.setCell ⟨g, o, none⟩ x) ∧ (W.setCell ⟨g, o, none⟩ x).heap[g]? = some (.cells (cs.setIfInBounds o x) 49 (0, 0))) :=
    fun W cs o x ⟨i1, i2, i3, i4⟩ => ⟨i1.far i4 (by decide) (grownBy_setCell1 W g o x), i2.far i4 (by decide) (grownBy_setCell1 W g o x), i3.setCell (p := ⟨g, o, none⟩) hB x, heap_setCell_same W g o cs _ x i4⟩
  have f := st _ _ 6 (.bool s.z) (st _ _ 5 (.slice (some ⟨q2, 0, none⟩) nq c2) (st _ _ 4 (.slice none 0 0) (st _ _ 3 (.int .i64 s.a) (st _ _ 2 (.int .i64 s.b) (st _ _ 1 (.int .i64 s.r) (st _ _ 0 (.slice a1 s.D.length c1) ⟨h1, h2, hA, hg⟩))))))
  obtain ⟨f1, f2, f3, f4⟩ := f
  exact ⟨g, a1, c1, q2, c2, rfl, hB, f4, hq, fun w' ht => copy_keep f1 f2 f4 ht, f3⟩
set_option maxHeartbeats 1000000 in
theorem spec_l1CopyG (L : List Int) (a : Option Addr) (n cap : Nat) (w : World) (hn : L.length = n) (h : Ints w a L) (hlen : n ≤ 1048577) :
    Calls Try.prog 113 #[.slice a n cap] w fun e w' => ∃ a' cap', e = .returned (.slice a' n cap') ∧ OwnN w' w.heap.size a' n cap' L ∧ Below w.heap.size w w' := by
  obtain ⟨i0, hi, ht0, ht1, ht2⟩ := info_parts int_info
  have HN := Lib.hid hn; clear hn
  have hnews := Lib.hid (show News (w.alloc (.cells #[] 2)) a (L.map (Value.int .i64)) from (h.kept ((Below.refl _ w).alloc (Nat.le_refl _) _)).vals.news)
  have hone := Lib.hid (ints_oneCell .i64 L)
  have HL2 := Lib.hid (show (L.map (Value.int .i64)).length = n * 1 by rw [List.length_map, HN.out, Nat.mul_one])
  go_enter Try.func113, Try.ntmps113
  go_wp2_with (at_builtin; refine wpList_append_vals rfl _ _ 56 rfl w.heap.size 2 i0 (.int .i64 0) 1 8 Try.underlying56 hi ht0 ht1 ht2 rfl (by decide) _ _ _ rfl (World.ownsRow_made w #[] 0 (Nat.le_refl _) (by decide) rfl) a n cap (L.map (Value.int .i64)) rfl HL2.out hnews.out hone.out (by unfold maxLen; omega) (by omega) (by simp) ?_; intro v' w1 hown' hg)
  have hown2 : w1.ownsRow w.heap.size 2 1 v' n (L.map (Value.int .i64)) := by simpa using hown'
  obtain ⟨a', cap', rfl, hO⟩ := OwnN.shape hown2
  go_wp2
  go_ret
  exact ⟨_, _, rfl, ⟨HN.out, hO.2⟩, ((Below.refl _ w).alloc (Nat.le_refl _) _).grown hg (by simp) (fun q hq => by cases hq; exact Nat.le_refl _)⟩
theorem CApp.low {w : World} {B k cap g o : Nat} {C : List (List Int)} {ac : Option Addr} {cA : Nat → Option Addr} {cC : Nat → Nat} (h : CApp w B k C ac cap cA cC) (hg : g < B) (x : Value) : CApp (w.setCell ⟨g, o, none⟩ x) B k C ac cap cA cC := by
  have hgr := grownBy_setCell1 w g o x
  refine ⟨⟨h.top.1, h.top.2.kept hgr ?_⟩, fun j hj => Wr.grown (h.row j hj) hgr fun hV g' o' e e2 => ?_, ?_, h.far⟩
  · cases hv : (Value.slice ac k cap).ownBlock with
    | none => exact .inl rfl
    | some q => exact .inr fun e => by have := (h.top.2.lt q hv).1; simp only [Option.some.injEq] at e; omega
  · obtain ⟨g2, o2, e3, h3, _⟩ := h.lies.inn j hj (map_nil hV)
    rw [e] at e3; cases e3
    simp only [Option.some.injEq] at e2
    omega
  · have : (w.setCell ⟨g, o, none⟩ x).heap.size = w.heap.size := by simp [World.setCell]
    rw [this]; exact h.lies
theorem Trn.low {u v : World} {B g : Nat} (h : Below B u v) : Trn (fun j => j = g ∨ B ≤ j) u v := ⟨h.os, h.tape, h.output, h.size, fun k _ hn => h.block k (by omega)⟩
theorem CApp.cols_trn {S : Nat → Prop} {w w1 : World} {B cap : Nat} {C : List (List Int)} {ac : Option Addr} {cA : Nat → Option Addr} {cC : Nat → Nat} (h : CApp w B C.length C ac cap cA cC) (ht : Trn S w w1) (hS : ∀ k, S k → k < B ∨ w.heap.size ≤ k) : Cols w1 ac C := by
  have hd := h.done.1
  refine ColsW.cols (cA := cA) (cC := cC) ⟨Wr.trn hd.top ht fun hV g o e hs => ?_, fun j hj => Wr.trn (hd.row j hj) ht fun hV g o e hs => ?_⟩
  · have hn : C.length ≠ 0 := fun e0 => hV (List.eq_nil_of_length_eq_zero (by rw [colV_length]; exact e0))
    obtain ⟨g2, o2, e2, h1, h2⟩ := h.top.lie hn
    rw [e] at e2; cases e2
    have := hS g hs; omega
  · obtain ⟨g2, o2, e2, h1, h2⟩ := h.lies.inn j hj (map_nil hV)
    rw [e] at e2; cases e2
    have := hS g hs; omega
theorem app_turn {w w3 V w5 : World} {B k cap : Nat} {C : List (List Int)} {ac : Option Addr} {cA : Nat → Option Addr} {cC : Nat → Nat} (hM : CApp w B k C ac cap cA cC) (hB : B ≤ w.heap.size) (hb : Below w.heap.size w w3) (hv : Below w3.heap.size w3 V) (hg : V.grownBy w5 (Value.slice ac k cap).ownBlock) : Below B w w5 := by
  have h1 := hb.trans (hv.mono hb.size)
  exact (h1.mono hB).trans ((hM.kept h1).top.turn (by have := h1.size; omega) hg)
theorem app_step {w w3 V w5 : World} {B k cap c g cap2 : Nat} {C : List (List Int)} {ac a : Option Addr} {cA : Nat → Option Addr} {cC : Nat → Nat} (h : CApp w B k C ac cap cA cC) (hB : B ≤ w.heap.size) (hb : Below w.heap.size w w3) (hv : Below w3.heap.size w3 V)
    (ho : OwnN w3 w.heap.size a (rowAt C k).length c (rowAt C k)) (hown : w5.ownsRow B 56 1 (.slice (some ⟨g, 0, none⟩) (k + 1) cap2) (k + 1) (colTo cA cC C k ++ [.slice a (rowAt C k).length c]))
    (hg : V.grownBy w5 (Value.slice ac k cap).ownBlock) (hgl : (Value.slice ac k cap).ownBlock = some g ∨ g = V.heap.size) (hlt : g < w5.heap.size) : CApp w5 B (k + 1) C (some ⟨g, 0, none⟩) cap2 (upf cA k a) (upf cC k c) :=
  h.step hB (hb.trans (hv.mono hb.size)) (ho.kept hv) hown hg hgl hlt
set_option maxHeartbeats 8000000 in
theorem spec_l11Copy (s : Ses) (v : Value) (w : World) (h : SesV w v s) (hB : SesB 1048576 s) :
    Calls Try.prog 73 #[v] w fun e w' => ∃ ad ac aq cd cc cq nq, e = .returned (.agg #[.slice ad s.D.length cd, .int .i64 s.r, .int .i64 s.b, .int .i64 s.a, .slice ac s.C.length cc, .slice aq nq cq, .bool s.z]) ∧ (∀ w2, Trn (fun k => k < w.heap.size ∨ w'.heap.size ≤ k) w' w2 → SesV w2 (.agg #[.slice ad s.D.length cd, .int .i64 s.r, .int .i64 s.b, .int .i64 s.a, .slice ac s.C.length cc, .slice aq nq cq, .bool s.z]) s) ∧ (∃ g, aq = some ⟨g, 0, none⟩ ∧ nq ≤ cq) ∧ Below w.heap.size w w' := by
  obtain ⟨ad, ac, aq, cd, cc, cq, nq, rfl, hn, hD, hC, hQ⟩ := h
  obtain ⟨hd, ht, hc, hr, hq⟩ := hB
  obtain ⟨i0, hi, hz0, hz1, hz2⟩ := info_parts row_info
  obtain ⟨ip, hip, hp0, hp1, hp2⟩ := info_parts pat_info
  obtain ⟨ir, hir, hr0, hr1, hr2⟩ := info_parts rec_info
  have HT := Lib.hid ht
  have HRR := Lib.hid hr
  clear ht hr
  unfold sesV
  go_enter Try.func73, Try.ntmps73
  go_wp2_with fail
  have b0 : ((w.alloc (.cells #[.slice ad s.D.length cd, .int .i64 s.r, .int .i64 s.b, .int .i64 s.a, .slice ac s.C.length cc, .slice aq nq cq, .bool s.z] 49)).alloc (.cells #[.slice none 0 0, .int .i64 0, .int .i64 0, .int .i64 0, .slice none 0 0, .slice none 0 0, .bool false] 49)).cell? ⟨w.heap.size, 0, none⟩ = some (.slice ad s.D.length cd) := by rw [cell_of_row _ _ 0 _ _ _ (heap_alloc2_old _ _ _)]; rfl
  have b1 : ((w.alloc (.cells #[.slice ad s.D.length cd, .int .i64 s.r, .int .i64 s.b, .int .i64 s.a, .slice ac s.C.length cc, .slice aq nq cq, .bool s.z] 49)).alloc (.cells #[.slice none 0 0, .int .i64 0, .int .i64 0, .int .i64 0, .slice none 0 0, .slice none 0 0, .bool false] 49)).cell? ⟨w.heap.size, 1, none⟩ = some (.int .i64 s.r) := by rw [cell_of_row _ _ 1 _ _ _ (heap_alloc2_old _ _ _)]; rfl
  have b2 : ((w.alloc (.cells #[.slice ad s.D.length cd, .int .i64 s.r, .int .i64 s.b, .int .i64 s.a, .slice ac s.C.length cc, .slice aq nq cq, .bool s.z] 49)).alloc (.cells #[.slice none 0 0, .int .i64 0, .int .i64 0, .int .i64 0, .slice none 0 0, .slice none 0 0, .bool false] 49)).cell? ⟨w.heap.size, 2, none⟩ = some (.int .i64 s.b) := by rw [cell_of_row _ _ 2 _ _ _ (heap_alloc2_old _ _ _)]; rfl
  have b3 : ((w.alloc (.cells #[.slice ad s.D.length cd, .int .i64 s.r, .int .i64 s.b, .int .i64 s.a, .slice ac s.C.length cc, .slice aq nq cq, .bool s.z] 49)).alloc (.cells #[.slice none 0 0, .int .i64 0, .int .i64 0, .int .i64 0, .slice none 0 0, .slice none 0 0, .bool false] 49)).cell? ⟨w.heap.size, 3, none⟩ = some (.int .i64 s.a) := by rw [cell_of_row _ _ 3 _ _ _ (heap_alloc2_old _ _ _)]; rfl
  have b4 : ((w.alloc (.cells #[.slice ad s.D.length cd, .int .i64 s.r, .int .i64 s.b, .int .i64 s.a, .slice ac s.C.length cc, .slice aq nq cq, .bool s.z] 49)).alloc (.cells #[.slice none 0 0, .int .i64 0, .int .i64 0, .int .i64 0, .slice none 0 0, .slice none 0 0, .bool false] 49)).cell? ⟨w.heap.size, 4, none⟩ = some (.slice ac s.C.length cc) := by rw [cell_of_row _ _ 4 _ _ _ (heap_alloc2_old _ _ _)]; rfl
  have b5 : ((w.alloc (.cells #[.slice ad s.D.length cd, .int .i64 s.r, .int .i64 s.b, .int .i64 s.a, .slice ac s.C.length cc, .slice aq nq cq, .bool s.z] 49)).alloc (.cells #[.slice none 0 0, .int .i64 0, .int .i64 0, .int .i64 0, .slice none 0 0, .slice none 0 0, .bool false] 49)).cell? ⟨w.heap.size, 5, none⟩ = some (.slice aq nq cq) := by rw [cell_of_row _ _ 5 _ _ _ (heap_alloc2_old _ _ _)]; rfl
  have b6 : ((w.alloc (.cells #[.slice ad s.D.length cd, .int .i64 s.r, .int .i64 s.b, .int .i64 s.a, .slice ac s.C.length cc, .slice aq nq cq, .bool s.z] 49)).alloc (.cells #[.slice none 0 0, .int .i64 0, .int .i64 0, .int .i64 0, .slice none 0 0, .slice none 0 0, .bool false] 49)).cell? ⟨w.heap.size, 6, none⟩ = some (.bool s.z) := by rw [cell_of_row _ _ 6 _ _ _ (heap_alloc2_old _ _ _)]; rfl
  have HT0 : Below w.heap.size w ((w.alloc (.cells #[.slice ad s.D.length cd, .int .i64 s.r, .int .i64 s.b, .int .i64 s.a, .slice ac s.C.length cc, .slice aq nq cq, .bool s.z] 49)).alloc (.cells #[.slice none 0 0, .int .i64 0, .int .i64 0, .int .i64 0, .slice none 0 0, .slice none 0 0, .bool false] 49)) := (by repeat (first | exact Below.refl _ _ | assumption | (refine Below.drew ?_) | (refine below_drewN ?_ _) | (refine Below.alloc ?_ (by first | omega | (simp; done) | (simp; omega)) _) | (refine Below.setCell ?_ (by first | omega | (simp; done) | (simp; omega)) _)))
  have hs0 : w.heap.size + 2 ≤ ((w.alloc (.cells #[.slice ad s.D.length cd, .int .i64 s.r, .int .i64 s.b, .int .i64 s.a, .slice ac s.C.length cc, .slice aq nq cq, .bool s.z] 49)).alloc (.cells #[.slice none 0 0, .int .i64 0, .int .i64 0, .int .i64 0, .slice none 0 0, .slice none 0 0, .bool false] 49)).heap.size := by simp
  have hlw : w.heap.size < ((w.alloc (.cells #[.slice ad s.D.length cd, .int .i64 s.r, .int .i64 s.b, .int .i64 s.a, .slice ac s.C.length cc, .slice aq nq cq, .bool s.z] 49)).alloc (.cells #[.slice none 0 0, .int .i64 0, .int .i64 0, .int .i64 0, .slice none 0 0, .slice none 0 0, .bool false] 49)).heap.size := by simp; omega
  have HZ0 := Lib.hid (show ((w.alloc (.cells #[.slice ad s.D.length cd, .int .i64 s.r, .int .i64 s.b, .int .i64 s.a, .slice ac s.C.length cc, .slice aq nq cq, .bool s.z] 49)).alloc (.cells #[.slice none 0 0, .int .i64 0, .int .i64 0, .int .i64 0, .slice none 0 0, .slice none 0 0, .bool false] 49)).heap[w.heap.size + 1]? = some (.cells #[.slice none 0 0, .int .i64 0, .int .i64 0, .int .i64 0, .slice none 0 0, .slice none 0 0, .bool false] 49 (0, 0)) from heap_alloc2_new _ _ _)
  replace hD := hD.kept HT0
  replace hQ := hQ.kept HT0
  generalize ((w.alloc (.cells #[.slice ad s.D.length cd, .int .i64 s.r, .int .i64 s.b, .int .i64 s.a, .slice ac s.C.length cc, .slice aq nq cq, .bool s.z] 49)).alloc (.cells #[.slice none 0 0, .int .i64 0, .int .i64 0, .int .i64 0, .slice none 0 0, .slice none 0 0, .bool false] 49)) = w0 at *
  go_cut [3] from 5 (fun x wr => CopyAt s nq w0 x wr)
  case first =>
    have b0' := b0; have b1' := b1; have b2' := b2; have b3' := b3; have b5' := b5; have b6' := b6
    clear hC HRR HT hi hz0 hz1 hz2 b4 hs0 hc HT0 b0' b1' b2' b3' b5' b6'
    have hne00 : ¬ w0.heap.size = w.heap.size := by omega
    have hne01 : ¬ w0.heap.size + 1 = w.heap.size := by omega
    have hnf0 : ¬ w0.heap.size + 1 + 1 = w0.heap.size := by omega
    have hnf1 : ¬ w0.heap.size + 1 + 1 = w0.heap.size + 1 := by omega
    have hnf2 : ¬ w0.heap.size + 2 = w0.heap.size := by omega
    have hnf3 : ¬ w0.heap.size + 2 = w0.heap.size + 1 := by omega
    have hnf4 : ¬ w0.heap.size + 1 = w0.heap.size := by omega
    have hng0 : ¬ w0.heap.size = w0.heap.size + 1 + 1 := by omega
    have hng1 : ¬ w0.heap.size + 1 = w0.heap.size + 1 + 1 := by omega
    have hng2 : ¬ w0.heap.size = w0.heap.size + 1 := by omega
    have hne03 : ¬ w0.heap.size + 1 + 1 = w.heap.size := by omega
    have hne02 : ¬ w0.heap.size + 2 = w.heap.size := by omega
    go_region_held_law (fun W => W.cell? ⟨w.heap.size, 0, none⟩ = some (.slice ad s.D.length cd) ∧ W.cell? ⟨w.heap.size, 1, none⟩ = some (.int .i64 s.r) ∧ W.cell? ⟨w.heap.size, 2, none⟩ = some (.int .i64 s.b) ∧ W.cell? ⟨w.heap.size, 3, none⟩ = some (.int .i64 s.a) ∧ W.cell? ⟨w.heap.size, 5, none⟩ = some (.slice aq nq cq) ∧ W.cell? ⟨w.heap.size, 6, none⟩ = some (.bool s.z)) (first | (refine ⟨?_, ?_, ?_, ?_, ?_, ?_⟩ <;> (repeat (first | with_reducible assumption | with_reducible refine cell_at_drew ?_ | with_reducible refine cell_at_alloc ?_ | with_reducible refine cell_at_set ?_ (by omega))); done) | fail) (first
      | (refine step_append_vals rfl (.tmp 5) (.tmp 7) 22 rfl w0.heap.size 73 ip (.agg #[.string ⟨#[]⟩, .int .i64 0, .bool false]) 3 32 Try.underlying22 hip hp0 hp1 hp2 rfl (by decide) _ 0 [] (by simp [Act.eval]; rfl) (own_empty (by repeat (first | with_reducible exact heap_at_new (by simp; done) | with_reducible refine heap_at_drew ?_ | with_reducible refine heap_at_old ?_)) (by first | exact Nat.le_refl _ | (simp; done) | (simp; omega) | omega) rfl) ad s.D.length cd (patsTo s.D s.D.length) (by rfl) (patsTo_length _ _) (hD.kept (by repeat (first | exact Below.refl _ _ | assumption | (refine Below.drew ?_) | (refine below_drewN ?_ _) | (refine Below.alloc ?_ (by first | omega | (simp; done) | (simp; omega)) _) | (refine Below.setCell ?_ (by first | omega | (simp; done) | (simp; omega)) _)))).vals.news (patsTo_one _ _) (by unfold maxLen; omega) (by omega) (by first | exact Nat.le_refl _ | (simp; done) | (simp; omega) | omega) ?_; intro v1 w1 hown1 hg1; have HA1 : Below w0.heap.size w0 w1 := (show Below w0.heap.size w0 _ from (by repeat (first | exact Below.refl _ _ | assumption | (refine Below.drew ?_) | (refine below_drewN ?_ _) | (refine Below.alloc ?_ (by first | omega | (simp; done) | (simp; omega)) _) | (refine Below.setCell ?_ (by first | omega | (simp; done) | (simp; omega)) _)))).grown hg1 (by first | exact Nat.le_refl _ | (simp; done) | (simp; omega) | omega) (fun q hq => by cases hq; first | exact Nat.le_refl _ | (simp; done) | (simp; omega)); obtain ⟨a1, c1, rfl, hO1⟩ := OwnV.shape (patsTo_length s.D s.D.length) (show w1.ownsRow w0.heap.size 73 3 v1 s.D.length (patsTo s.D s.D.length) by simpa using hown1); have hS1 := (show w1.cell? ⟨w.heap.size, 0, none⟩ = some (.slice ad s.D.length cd) ∧ w1.cell? ⟨w.heap.size, 1, none⟩ = some (.int .i64 s.r) ∧ w1.cell? ⟨w.heap.size, 2, none⟩ = some (.int .i64 s.b) ∧ w1.cell? ⟨w.heap.size, 3, none⟩ = some (.int .i64 s.a) ∧ w1.cell? ⟨w.heap.size, 5, none⟩ = some (.slice aq nq cq) ∧ w1.cell? ⟨w.heap.size, 6, none⟩ = some (.bool s.z) from ⟨(HA1.cell (p := ⟨w.heap.size, 0, none⟩) hlw).trans b0, (HA1.cell (p := ⟨w.heap.size, 1, none⟩) hlw).trans b1, (HA1.cell (p := ⟨w.heap.size, 2, none⟩) hlw).trans b2, (HA1.cell (p := ⟨w.heap.size, 3, none⟩) hlw).trans b3, (HA1.cell (p := ⟨w.heap.size, 5, none⟩) hlw).trans b5, (HA1.cell (p := ⟨w.heap.size, 6, none⟩) hlw).trans b6⟩); obtain ⟨p10, p11, p12, p13, p15, p16⟩ := hS1; have hlw1 : w.heap.size < w1.heap.size := (by have := HA1.size; omega); have hs1 := HA1.size; have hnea0 : ¬ w1.heap.size = w.heap.size := (by omega); have hnea1 : ¬ w1.heap.size + 1 = w.heap.size := (by omega); have hnea2 : ¬ w1.heap.size + 2 = w.heap.size := (by omega); have hgs1 := hg1.size; (try simp at hgs1); (try (have hx0 : w0.heap.size < w1.heap.size := (by omega); have hy0 : ¬ w0.heap.size = w1.heap.size := (by omega); have hyr0 : ¬ w1.heap.size = w0.heap.size := (by omega); have hys0 : ¬ w1.heap.size + 1 = w0.heap.size := (by omega))); (try (have hx1 : w0.heap.size + 1 < w1.heap.size := (by omega); have hy1 : ¬ w0.heap.size + 1 = w1.heap.size := (by omega); have hyr1 : ¬ w1.heap.size = w0.heap.size + 1 := (by omega); have hys1 : ¬ w1.heap.size + 1 = w0.heap.size + 1 := (by omega))); (try (have hx3 : w0.heap.size + 1 + 1 < w1.heap.size := (by omega); have hy3 : ¬ w0.heap.size + 1 + 1 = w1.heap.size := (by omega); have hyr3 : ¬ w1.heap.size = w0.heap.size + 1 + 1 := (by omega))); (try (have hx2 : w0.heap.size + 2 < w1.heap.size := (by omega); have hy2 : ¬ w0.heap.size + 2 = w1.heap.size := (by omega); have hyr2 : ¬ w1.heap.size = w0.heap.size + 2 := (by omega); have hys2 : ¬ w1.heap.size + 1 = w0.heap.size + 2 := (by omega))); have hgc1 := fun b o (hb : b < _) (hne : _) => hg1.cell_far ⟨b, o, none⟩ hb hne; have hgf1 := fun b o (hb : b < _) (hne : _) => hg1.frozen_far ⟨b, o, none⟩ hb hne; simp only [Value.ownBlock, ne_eq, Option.some.injEq] at hgc1 hgf1; clear hown1)
      | (refine step_append_vals2 rfl (.tmp 15) (.tmp 17) 37 rfl w0.heap.size 106 ir (.agg #[.int .i64 0, .int .i64 0, .int .i64 0]) 3 24 Try.underlying37 hir hr0 hr1 hr2 rfl (by decide) _ 0 [] (by simp [Act.eval]; rfl) (own_empty (by repeat (first | with_reducible exact heap_at_new (by simp; done) | with_reducible refine heap_at_drew ?_ | with_reducible refine heap_at_old ?_ | with_reducible refine heap_at_grown ?_ hg1 (by first | (simp [Value.ownBlock]; done) | (simp [Value.ownBlock]; omega)))) (by first | exact Nat.le_refl _ | (simp; done) | (simp; omega) | omega) rfl) aq nq cq (s.Q.map (Value.int .i64)) (by rfl) (by rw [List.length_map, hn]) (hQ.kept (by repeat (first | exact Below.refl _ _ | assumption | (refine Below.drew ?_) | (refine below_drewN ?_ _) | (refine Below.alloc ?_ (by first | omega | (simp; done) | (simp; omega)) _) | (refine Below.setCell ?_ (by first | omega | (simp; done) | (simp; omega)) _)))).vals.news (ints_oneCell .i64 s.Q) (by unfold maxLen; omega) (by omega) (by first | exact Nat.le_refl _ | (simp; done) | (simp; omega) | omega) ?_; intro v2 w2 hown2 hg2 hn2; replace hn2 := hn2 (by intro h; cases h); have hO1b := OwnV.past (cs := #[]) (e2 := 106) (fr := (0, 0)) hO1 (by repeat (first | exact Below.refl _ _ | assumption | (refine Below.drew ?_) | (refine below_drewN ?_ _) | (refine Below.alloc ?_ (by first | omega | (simp; done) | (simp; omega)) _) | (refine Below.setCell ?_ (by first | omega | (simp; done) | (simp; omega)) _))) hg2 (by repeat (first | with_reducible exact heap_at_new (by simp; done) | with_reducible refine heap_at_drew ?_ | with_reducible refine heap_at_old ?_ | with_reducible refine heap_at_grown ?_ hg1 (by first | (simp [Value.ownBlock]; done) | (simp [Value.ownBlock]; omega)))) (by decide); have HA2 : Below w0.heap.size w0 w2 := (show Below w0.heap.size w0 _ from (by repeat (first | exact Below.refl _ _ | assumption | (refine Below.drew ?_) | (refine below_drewN ?_ _) | (refine Below.alloc ?_ (by first | omega | (simp; done) | (simp; omega)) _) | (refine Below.setCell ?_ (by first | omega | (simp; done) | (simp; omega)) _)))).grown hg2 (by first | exact Nat.le_refl _ | (simp; done) | (simp; omega) | omega) (fun q hq => by cases hq; first | exact Nat.le_refl _ | (simp; done) | (simp; omega) | omega); obtain ⟨a2, c2, rfl, hO2⟩ := OwnV.shape (show (s.Q.map (Value.int .i64)).length = nq * 3 by rw [List.length_map, hn]) (show w2.ownsRow w0.heap.size 106 3 v2 nq (s.Q.map (Value.int .i64)) by simpa using hown2); obtain ⟨q2, rfl, hq2⟩ := OwnV.headOf hO2 hn2; have hS2 := (show w2.cell? ⟨w.heap.size, 0, none⟩ = some (.slice ad s.D.length cd) ∧ w2.cell? ⟨w.heap.size, 1, none⟩ = some (.int .i64 s.r) ∧ w2.cell? ⟨w.heap.size, 2, none⟩ = some (.int .i64 s.b) ∧ w2.cell? ⟨w.heap.size, 3, none⟩ = some (.int .i64 s.a) ∧ w2.cell? ⟨w.heap.size, 5, none⟩ = some (.slice aq nq cq) ∧ w2.cell? ⟨w.heap.size, 6, none⟩ = some (.bool s.z) from ⟨(HA2.cell (p := ⟨w.heap.size, 0, none⟩) hlw).trans b0, (HA2.cell (p := ⟨w.heap.size, 1, none⟩) hlw).trans b1, (HA2.cell (p := ⟨w.heap.size, 2, none⟩) hlw).trans b2, (HA2.cell (p := ⟨w.heap.size, 3, none⟩) hlw).trans b3, (HA2.cell (p := ⟨w.heap.size, 5, none⟩) hlw).trans b5, (HA2.cell (p := ⟨w.heap.size, 6, none⟩) hlw).trans b6⟩); obtain ⟨p20, p21, p22, p23, p25, p26⟩ := hS2; have hs2 := HA2.size; have hlw2 : w.heap.size < w2.heap.size := (by omega); have hneb0 : ¬ w2.heap.size = w.heap.size := (by omega); have hneb1 : ¬ w2.heap.size + 1 = w.heap.size := (by omega); have hneb2 : ¬ w2.heap.size + 2 = w.heap.size := (by omega); have hgs2 := hg2.size; (try simp at hgs2); (try (have hu0 : w0.heap.size < w2.heap.size := (by omega))); (try (have hv0 : w1.heap.size < w2.heap.size := (by omega))); (try (have hu1 : w0.heap.size + 1 < w2.heap.size := (by omega))); (try (have hv1 : w1.heap.size + 1 < w2.heap.size := (by omega))); (try (have hu3 : w0.heap.size + 1 + 1 < w2.heap.size := (by omega))); (try (have hv3 : w1.heap.size + 1 + 1 < w2.heap.size := (by omega))); (try (have hu2 : w0.heap.size + 2 < w2.heap.size := (by omega))); (try (have hv2 : w1.heap.size + 2 < w2.heap.size := (by omega))); have hgc2 := fun b o (hb : b < _) (hne : _) => hg2.cell_far ⟨b, o, none⟩ hb hne; have hgf2 := fun b o (hb : b < _) (hne : _) => hg2.frozen_far ⟨b, o, none⟩ hb hne; simp only [Value.ownBlock, ne_eq, Option.some.injEq] at hgc2 hgf2; clear hown2))
    all_goals
      go_wp2_with fail
      go_meet
      first
        | with_reducible exact copy_A hO1b hO2 hq2 HA2
        | with_reducible refine copy_B hO1b hO2 hq2 HA2 (by first | exact Nat.le_refl _ | (simp; done) | (simp; omega) | omega) (by repeat (first | with_reducible exact heap_at_new (by simp; done) | with_reducible refine heap_at_drew ?_ | with_reducible refine heap_at_old ?_ | with_reducible refine heap_at_grown ?_ hg2 (by first | (simp [Value.ownBlock]; done) | (simp [Value.ownBlock]; omega)) | with_reducible refine heap_at_grown ?_ hg1 (by first | (simp [Value.ownBlock]; done) | (simp [Value.ownBlock]; omega))))
  case rest =>
    obtain ⟨g, a8, c8, q, c18, rfl, hg0, hrow, hq, hkeep, hB1⟩ := hcut
    have hgl := lt_of_block hrow
    have HB1 := Lib.hid hB1
    have HKP := Lib.hid hkeep
    have HC0 := Lib.hid hC
    have HTB := Lib.hid (HT0.trans (hB1.mono (by omega)))
    have b4w := (hB1.cell (p := ⟨w.heap.size, 4, none⟩) hlw).trans b4
    have hwl : w.heap.size < wc.heap.size := by have := hB1.size; omega
    have hng : w.heap.size ≠ g := by omega
    clear hB1 hkeep b0 b1 b2 b3 b4 b5 b6 hD hQ hC hip hp0 hp1 hp2 hir hr0 hr1 hr2
    go_wp2_with fail
    generalize wc = wB at *
    go_loopw [4] (fun i wr => ∃ (k : Nat) (a' : Option Addr) (cap' : Nat) (cA : Nat → Option Addr) (cC : Nat → Nat), k ≤ s.C.length ∧ i = .int .i64 k ∧ wr.heap[g]? = some (.cells (sesRow a8 c8 a' k cap' q nq c18 s) 49 (0, 0)) ∧ CApp wr wB.heap.size k s.C a' cap' cA cC ∧ Trn (fun j => j = g ∨ wB.heap.size ≤ j) wB wr)
      (fun i _ => s.C.length - (intOf i).toNat)
    case atStart => exact ⟨0, none, 0, _, _, by omega, rfl, hrow, CApp.start _ _ _, Trn.refl _ _⟩
    case round =>
      obtain ⟨k, a', cap', cA, cC, hk, rfl, hrw, hM, hT⟩ := hrel
      have hsz := hT.size
      have d4 : wr.cell? ⟨w.heap.size, 4, none⟩ = some (.slice ac s.C.length cc) := (World.cell?_of_block (hT.block w.heap.size hwl (by omega))).trans b4w
      have e4 : wr.cell? ⟨g, 4, none⟩ = some (.slice a' k cap') := by rw [cell_of_row _ _ 4 _ _ _ hrw]; rfl
      have f4 : wr.frozen? ⟨g, 4, none⟩ = false := frozen_of_row _ _ 4 _ _ hrw
      have hwr : w.heap.size < wr.heap.size := by omega
      have hgr : g < wr.heap.size := by omega
      by_cases hlt : k < s.C.length
      · have hBw : Below w.heap.size w wr := HTB.out.trans (hT.below (fun j hj => by omega) (by omega))
        obtain ⟨b, off, rfl, hp⟩ := (HC0.out.kept hBw).at k hlt
        obtain ⟨a3, z3, d3, i3⟩ := hp k hlt
        have hrs := HRR.out k hlt
        have hbr := block_lt_of_cell d3
        simp only at hbr
        have HM := Lib.hid hM
        have HTT := Lib.hid hT
        have HRW := Lib.hid hrw
        clear hp hM hT hrw hBw
        generalize hx : rowAt s.C k = x at *
        have HX := Lib.hid hx
        clear hx
        go_wp2_with fail
        go_region_law ((first
          | (go_simp; go_at_call 113; refine (spec_l1CopyG x a3 _ z3 _ rfl (i3.kept (by repeat (first | exact Below.refl _ _ | assumption | (refine Below.drew ?_) | (refine below_drewN ?_ _) | (refine Below.alloc ?_ (by first | omega | (simp; done) | (simp; omega)) _) | (refine Below.setCell ?_ (by first | omega | (simp; done) | (simp; omega)) _)))) (by omega)).mono ?_; rintro e w3 ⟨a4, c4, rfl, hO4, hb4⟩; have hbY : Below wr.heap.size wr w3 := below_step (by repeat (first | exact Below.refl _ _ | assumption | (refine Below.drew ?_) | (refine below_drewN ?_ _) | (refine Below.alloc ?_ (by first | omega | (simp; done) | (simp; omega)) _) | (refine Below.setCell ?_ (by first | omega | (simp; done) | (simp; omega)) _))) hb4; have hO4b := (show OwnN w3 wr.heap.size a4 x.length c4 x from by simpa using hO4); have u4 := (hbY.cell (p := ⟨g, 4, none⟩) hgr).trans e4; have uf4 := (hbY.frozen (p := ⟨g, 4, none⟩) hgr).trans f4; have v4 := (hbY.cell (p := ⟨w.heap.size, 4, none⟩) hwr).trans d4; have x4 := (hbY.cell (p := ⟨b, off + k, none⟩) hbr).trans d3; have hs3 := hbY.size; have z0 : g < w3.heap.size := (by omega); have z1 : w.heap.size < w3.heap.size := (by omega); have z2 : b < w3.heap.size := (by omega); have z3 : ¬ w3.heap.size = g := (by omega); have z4 : ¬ w3.heap.size = w.heap.size := (by omega); have z5 : ¬ w3.heap.size = b := (by omega); have z6 : ¬ g = w3.heap.size := (by omega); have z7 : ¬ w.heap.size = w3.heap.size := (by omega); have z8 : ¬ b = w3.heap.size := (by omega))
          | (refine step_append_lies _ rfl (.tmp 30) (.tmp 37) 43 rfl wB.heap.size 56 i0 (.slice none 0 0) 1 24 Try.underlying43 hi hz0 hz1 hz2 rfl (by decide) (.slice a' k cap') k (colTo cA cC s.C k) (by simp [Act.eval]) (HM.out.kept (hbY.trans ((show Below w3.heap.size w3 _ from (by repeat (first | exact Below.refl _ _ | assumption | (refine Below.drew ?_) | (refine below_drewN ?_ _) | (refine Below.alloc ?_ (by first | omega | (simp; done) | (simp; omega)) _) | (refine Below.setCell ?_ (by first | omega | (simp; done) | (simp; omega)) _)))).mono hs3))).top.2 ⟨w3.heap.size, 0, none⟩ 1 1 [.slice a4 x.length c4] (by simp [Act.eval]) rfl (fun j u h => one_new w3 _ _ j u h) (by simp [Value.oneCell']) (by omega) (by unfold maxLen; omega) (by omega) (by simp; omega) (w3.heap.size + 1) (by simp) ?_; intro g2 cap2 w5 hown5 hg5 hgl5 hlt5; have hV5 : Below wB.heap.size wr w5 := app_turn HM.out (by omega) hbY (by repeat (first | exact Below.refl _ _ | assumption | (refine Below.drew ?_) | (refine below_drewN ?_ _) | (refine Below.alloc ?_ (by first | omega | (simp; done) | (simp; omega)) _) | (refine Below.setCell ?_ (by first | omega | (simp; done) | (simp; omega)) _))) hg5; have y4 := (hV5.cell (p := ⟨g, 4, none⟩) hgl).trans e4; have yf4 := (hV5.frozen (p := ⟨g, 4, none⟩) hgl).trans f4; have HV5 := Lib.hid hV5; have HST := Lib.hid (app_step HM.out (by omega) hbY (by repeat (first | exact Below.refl _ _ | assumption | (refine Below.drew ?_) | (refine below_drewN ?_ _) | (refine Below.alloc ?_ (by first | omega | (simp; done) | (simp; omega)) _) | (refine Below.setCell ?_ (by first | omega | (simp; done) | (simp; omega)) _))) (by rw [HX.out]; exact hO4b) (by rw [HX.out]; exact hown5) hg5 (by simpa using hgl5) hlt5); clear hV5 hown5 hg5 hgl5)))
        all_goals
          have HTN := Lib.hid ((HTT.out.trans (Trn.low (g := g) HV5.out)).trans (Trn.set (S := fun j => j = g ∨ wB.heap.size ≤ j) w5 g 4 (.slice (some ⟨g2, 0, none⟩) (k + 1) cap2) (.inl rfl)))
          have HRN := Lib.hid (heap_setCell_same w5 g 4 _ 49 (.slice (some ⟨g2, 0, none⟩) (k + 1) cap2) ((HV5.out.block g hgl).trans HRW.out))
          go_wp2_with fail
          go_roundw
          case rel => exact ⟨k + 1, some ⟨g2, 0, none⟩, cap2, _, _, by omega, by go_num, HRN.out, HST.out.low hgl _, HTN.out⟩
          case measure => simp [intOf]; omega
      · obtain rfl : k = s.C.length := by omega
        have hrz : wr.heap[w.heap.size + 1]? = some (.cells #[.slice none 0 0, .int .i64 0, .int .i64 0, .int .i64 0, .slice none 0 0, .slice none 0 0, .bool false] 49 (0, 0)) := (hT.block (w.heap.size + 1) (by omega) (by omega)).trans ((HB1.out.block (w.heap.size + 1) (by omega)).trans HZ0.out)
        have r0 : wr.cell? ⟨w.heap.size + 1, 0, none⟩ = some (.slice none 0 0) := by rw [cell_of_row _ _ 0 _ _ _ hrz]; rfl
        have fr0 : wr.frozen? ⟨w.heap.size + 1, 0, none⟩ = false := frozen_of_row _ _ 0 _ _ hrz
        have e0 : wr.cell? ⟨g, 0, none⟩ = some (.slice a8 s.D.length c8) := by rw [cell_of_row _ _ 0 _ _ _ hrw]; rfl
        have r1 : wr.cell? ⟨w.heap.size + 1, 1, none⟩ = some (.int .i64 0) := by rw [cell_of_row _ _ 1 _ _ _ hrz]; rfl
        have fr1 : wr.frozen? ⟨w.heap.size + 1, 1, none⟩ = false := frozen_of_row _ _ 1 _ _ hrz
        have e1 : wr.cell? ⟨g, 1, none⟩ = some (.int .i64 s.r) := by rw [cell_of_row _ _ 1 _ _ _ hrw]; rfl
        have r2 : wr.cell? ⟨w.heap.size + 1, 2, none⟩ = some (.int .i64 0) := by rw [cell_of_row _ _ 2 _ _ _ hrz]; rfl
        have fr2 : wr.frozen? ⟨w.heap.size + 1, 2, none⟩ = false := frozen_of_row _ _ 2 _ _ hrz
        have e2 : wr.cell? ⟨g, 2, none⟩ = some (.int .i64 s.b) := by rw [cell_of_row _ _ 2 _ _ _ hrw]; rfl
        have r3 : wr.cell? ⟨w.heap.size + 1, 3, none⟩ = some (.int .i64 0) := by rw [cell_of_row _ _ 3 _ _ _ hrz]; rfl
        have fr3 : wr.frozen? ⟨w.heap.size + 1, 3, none⟩ = false := frozen_of_row _ _ 3 _ _ hrz
        have e3 : wr.cell? ⟨g, 3, none⟩ = some (.int .i64 s.a) := by rw [cell_of_row _ _ 3 _ _ _ hrw]; rfl
        have r4 : wr.cell? ⟨w.heap.size + 1, 4, none⟩ = some (.slice none 0 0) := by rw [cell_of_row _ _ 4 _ _ _ hrz]; rfl
        have fr4 : wr.frozen? ⟨w.heap.size + 1, 4, none⟩ = false := frozen_of_row _ _ 4 _ _ hrz
        have r5 : wr.cell? ⟨w.heap.size + 1, 5, none⟩ = some (.slice none 0 0) := by rw [cell_of_row _ _ 5 _ _ _ hrz]; rfl
        have fr5 : wr.frozen? ⟨w.heap.size + 1, 5, none⟩ = false := frozen_of_row _ _ 5 _ _ hrz
        have e5 : wr.cell? ⟨g, 5, none⟩ = some (.slice (some ⟨q, 0, none⟩) nq c18) := by rw [cell_of_row _ _ 5 _ _ _ hrw]; rfl
        have r6 : wr.cell? ⟨w.heap.size + 1, 6, none⟩ = some (.bool false) := by rw [cell_of_row _ _ 6 _ _ _ hrz]; rfl
        have fr6 : wr.frozen? ⟨w.heap.size + 1, 6, none⟩ = false := frozen_of_row _ _ 6 _ _ hrz
        have e6 : wr.cell? ⟨g, 6, none⟩ = some (.bool s.z) := by rw [cell_of_row _ _ 6 _ _ _ hrw]; rfl
        have HTR : Trn (fun j => j = g ∨ j < w0.heap.size ∨ wB.heap.size ≤ j) wB wr := hT.mono fun j _ h => by omega
        have HM7 := Lib.hid (((((((hM.low (o := 0) (g := w.heap.size + 1) (by omega) (.slice a8 s.D.length c8)).low (o := 1) (g := w.heap.size + 1) (by omega) (.int .i64 s.r)).low (o := 2) (g := w.heap.size + 1) (by omega) (.int .i64 s.b)).low (o := 3) (g := w.heap.size + 1) (by omega) (.int .i64 s.a)).low (o := 4) (g := w.heap.size + 1) (by omega) (.slice a' s.C.length cap')).low (o := 5) (g := w.heap.size + 1) (by omega) (.slice (some ⟨q, 0, none⟩) nq c18)).low (o := 6) (g := w.heap.size + 1) (by omega) (.bool s.z))
        have HT7 := Lib.hid (((((((HTR.trans (Trn.set (S := fun j => j = g ∨ j < w0.heap.size ∨ wB.heap.size ≤ j) _ (w.heap.size + 1) 0 (.slice a8 s.D.length c8) (by omega))).trans (Trn.set (S := fun j => j = g ∨ j < w0.heap.size ∨ wB.heap.size ≤ j) _ (w.heap.size + 1) 1 (.int .i64 s.r) (by omega))).trans (Trn.set (S := fun j => j = g ∨ j < w0.heap.size ∨ wB.heap.size ≤ j) _ (w.heap.size + 1) 2 (.int .i64 s.b) (by omega))).trans (Trn.set (S := fun j => j = g ∨ j < w0.heap.size ∨ wB.heap.size ≤ j) _ (w.heap.size + 1) 3 (.int .i64 s.a) (by omega))).trans (Trn.set (S := fun j => j = g ∨ j < w0.heap.size ∨ wB.heap.size ≤ j) _ (w.heap.size + 1) 4 (.slice a' s.C.length cap') (by omega))).trans (Trn.set (S := fun j => j = g ∨ j < w0.heap.size ∨ wB.heap.size ≤ j) _ (w.heap.size + 1) 5 (.slice (some ⟨q, 0, none⟩) nq c18) (by omega))).trans (Trn.set (S := fun j => j = g ∨ j < w0.heap.size ∨ wB.heap.size ≤ j) _ (w.heap.size + 1) 6 (.bool s.z) (by omega)))
        have HWL := Lib.hid (show w.heap.size ≤ w0.heap.size by omega)
        have HB7 := Lib.hid ((((((((HTB.out.trans (hT.below (fun j hj => by omega) (by omega))).setCell (p := ⟨w.heap.size + 1, 0, none⟩) (by simp) (.slice a8 s.D.length c8)).setCell (p := ⟨w.heap.size + 1, 1, none⟩) (by simp) (.int .i64 s.r)).setCell (p := ⟨w.heap.size + 1, 2, none⟩) (by simp) (.int .i64 s.b)).setCell (p := ⟨w.heap.size + 1, 3, none⟩) (by simp) (.int .i64 s.a)).setCell (p := ⟨w.heap.size + 1, 4, none⟩) (by simp) (.slice a' s.C.length cap')).setCell (p := ⟨w.heap.size + 1, 5, none⟩) (by simp) (.slice (some ⟨q, 0, none⟩) nq c18)).setCell (p := ⟨w.heap.size + 1, 6, none⟩) (by simp) (.bool s.z))
        have HN := Lib.hid hn
        clear hT hM hrz hrw HTR hn
        go_wp2_with fail
        refine bodyPost_ret (v := .agg #[.slice a8 s.D.length c8, .int .i64 s.r, .int .i64 s.b, .int .i64 s.a, .slice a' s.C.length cap', .slice (some ⟨q, 0, none⟩) nq c18, .bool s.z]) (by simp [results, Try.results73, go_sem, r0, r1, r2, r3, r4, r5, r6]) rfl ⟨a8, a', some ⟨q, 0, none⟩, c8, cap', c18, nq, rfl, fun w2 ht => ⟨a8, a', some ⟨q, 0, none⟩, c8, cap', c18, nq, rfl, HN.out, (HKP.out w2 (HT7.out.trans (ht.mono fun j _ hj => by have := HT7.out.size; have := HWL.out; omega))).1, HM7.out.cols_trn ht (fun j hj => by have := HWL.out; have := HB1.out.size; omega), (HKP.out w2 (HT7.out.trans (ht.mono fun j _ hj => by have := HT7.out.size; have := HWL.out; omega))).2⟩, ⟨q, rfl, hq⟩, HB7.out⟩
end Go.Proofs.Ytodmohepgmhipaa

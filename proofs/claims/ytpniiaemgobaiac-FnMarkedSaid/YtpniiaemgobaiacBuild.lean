/-
  A strings.Builder that the call itself has made: WriteString, String.
-/
import Derived.Test.YtpniiaemgobaiacInts
import Derived.Lib.Builder
import Derived.Lib.AppendStr
import Derived.LaidEqlPtr
import Derived.Test.YtpniiaemgobaiacBuildLay
namespace Go.Proofs.Ytpniiaemgobaiac
open Go.RowKit
set_option linter.unusedVariables false
set_option maxRecDepth 100000
/-- a builder in block b, all its own from block B on, with the slice v, of these bytes -/
def BldV (w : World) (B b : Nat) (v : Value) (l : List UInt8) : Prop :=
  B ≤ b ∧ (∃ p, (p = Value.pointer none ∨ p = .pointer (some ⟨b, 0, none⟩)) ∧ w.heap[b]? = some (.cells #[p, v] 76 (0, 0))) ∧ w.ownsRow B 5 1 v l.length (Lib.byteCells l) ∧ v.ownBlock ≠ some b
theorem BldV.on {w w1 : World} {B b : Nat} {v : Value} {l : List UInt8} (h : BldV w B b v l) (hb : ∀ k, k < w.heap.size → (k = b ∨ v.ownBlock = some k) → w1.heap[k]? = w.heap[k]?) : BldV w1 B b v l := by
  obtain ⟨h1, ⟨p, hp, hr⟩, h3, h4⟩ := h
  refine ⟨h1, ⟨p, hp, (hb b (lt_of_block hr) (.inl rfl)).trans hr⟩, ⟨h3.1, ?_⟩, h4⟩
  rcases h3.2 with ⟨hv, hn⟩ | ⟨g, cap, cur, hv, hB, hg, hnc, hcm, hcs, htk⟩
  · exact .inl ⟨hv, hn⟩
  · exact .inr ⟨g, cap, cur, hv, hB, (hb g (lt_of_block hg) (.inr (by rw [hv]; rfl))).trans hg, hnc, hcm, hcs, htk⟩
theorem BldV.kept {w w1 : World} {B b : Nat} {v : Value} {l : List UInt8} (h : BldV w B b v l) (hb : Below w.heap.size w w1) : BldV w1 B b v l := h.on fun k hk _ => hb.block k hk
theorem BldV.lt {w : World} {B b : Nat} {v : Value} {l : List UInt8} (h : BldV w B b v l) : b < w.heap.size := by
  obtain ⟨_, ⟨p, _, hr⟩, _⟩ := h; exact lt_of_block hr
theorem BldV.own_lt {w : World} {B b : Nat} {v : Value} {l : List UInt8} (h : BldV w B b v l) : ∀ k, v.ownBlock = some k → B ≤ k ∧ k < w.heap.size := fun k hk => h.2.2.1.lt k hk
theorem BldV.new (w : World) : BldV (w.alloc (.cells #[.pointer none, .slice none 0 0] 76)) w.heap.size w.heap.size (.slice none 0 0) [] :=
  ⟨Nat.le_refl _, ⟨_, .inl rfl, heap_alloc_new _ _⟩, World.ownsRow_nil _ _ _ _, by simp [Value.ownBlock]⟩
theorem bld_infoB : (Try.prog.info? 76).map (·.size) = some 2 := by kernel_rfl
theorem bld_lies : liesAt Try.prog Try.prog.depth 76 (2 / Try.prog.cellsOf 76) 0 76 1 = true := by kernel_rfl
theorem ubyte_info : (Try.prog.info? 5).map (fun i => (i.zero, i.size, i.bytes)) = some (some (.int .u8 0), 1, 1) := by kernel_rfl
theorem shape_of {w : World} {b : Nat} {p v : Value} {t : TypeId} {fr : Nat × Nat} (h : w.heap[b]? = some (.cells #[p, v] t fr)) : w.shape? b = some (t, 2) := by simp [World.shape?, h]
set_option maxHeartbeats 1000000 in
theorem bld_check_new (b : Nat) (v : Value) (w : World) (h : w.heap[b]? = some (.cells #[.pointer none, v] 76 (0, 0))) :
    Calls Try.prog 84 #[.pointer (some ⟨b, 0, none⟩)] w fun e w' => e = .returned (.tuple #[]) ∧ w' = w.setCell ⟨b, 0, none⟩ (.pointer (some ⟨b, 0, none⟩)) := by
  obtain ⟨j, hj, hjs⟩ := Option.map_eq_some_iff.1 bld_infoB
  have c0 : w.cell? ⟨b, 0, none⟩ = some (.pointer none) := by rw [cell_of_row _ _ 0 _ _ _ h]; rfl
  have f0 := frozen_of_row w _ 0 _ _ h
  have HS := Lib.hid (shape_of h)
  have HJ := Lib.hid hj; have HJS := Lib.hid hjs
  clear h hj hjs
  go_enter Try.func84, Try.ntmps84
  go_wp2
  rw [Lib.run_to_unsafe w ⟨b, 0, none⟩ Try.underlying74 Try.underlying140 HJ.out (by rw [HJS.out]; decide) HS.out (Nat.zero_lt_succ 1)]
  simp only [Result.andThen]
  rw [Oper.upon_value]
  go_wp2
  rw [run_callFunc_extern Try.func117 (by kernel_rfl) (by kernel_rfl) (by kernel_rfl) (e := Extern.AbiNoEscape.same) (by kernel_rfl)]
  rw [Lib.run_noEscape]
  simp only [Result.andThen]
  rw [Oper.upon_value]
  go_wp2
  rw [Lib.run_from_unsafe w ⟨b, 0, none⟩ Try.underlying140 Try.underlying74 HJ.out HS.out bld_lies]
  simp only [Result.andThen]
  rw [Oper.upon_value]
  go_wp2
  exact bodyPost_end (results_none rfl _ _ _) rfl ⟨rfl, rfl⟩
set_option maxHeartbeats 1000000 in
theorem bld_check_used (b : Nat) (v : Value) (w : World) (h : w.heap[b]? = some (.cells #[.pointer (some ⟨b, 0, none⟩), v] 76 (0, 0))) :
    Calls Try.prog 84 #[.pointer (some ⟨b, 0, none⟩)] w fun e w' => e = .returned (.tuple #[]) ∧ w' = w := by
  obtain ⟨j, hj, _⟩ := Option.map_eq_some_iff.1 bld_infoB
  have c0 : w.cell? ⟨b, 0, none⟩ = some (.pointer (some ⟨b, 0, none⟩)) := by rw [cell_of_row _ _ 0 _ _ _ h]; rfl
  have EQ := Lib.run_neq_ptr_same w ⟨b, 0, none⟩ Try.underlying74 hj
  clear h
  go_enter Try.func84, Try.ntmps84
  go_wp2
  exact bodyPost_end (results_none rfl _ _ _) rfl ⟨rfl, rfl⟩
theorem bld_check (B b : Nat) (v : Value) (l : List UInt8) (w : World) (h : BldV w B b v l) :
    Calls Try.prog 84 #[.pointer (some ⟨b, 0, none⟩)] w fun e w' => e = .returned (.tuple #[]) ∧ BldV w' B b v l ∧ w'.heap[b]? = some (.cells #[.pointer (some ⟨b, 0, none⟩), v] 76 (0, 0)) ∧ w.grownBy w' (some b) := by
  obtain ⟨h1, ⟨p, hp, hr⟩, h3, h4⟩ := h
  rcases hp with rfl | rfl
  · refine (bld_check_new b v w hr).mono ?_
    rintro e w' ⟨he, rfl⟩
    have hg : w.grownBy (w.setCell ⟨b, 0, none⟩ (.pointer (some ⟨b, 0, none⟩))) (some b) := grownBy_setCell1 w b 0 _
    have hr2 : (w.setCell ⟨b, 0, none⟩ (.pointer (some ⟨b, 0, none⟩))).heap[b]? = some (.cells #[.pointer (some ⟨b, 0, none⟩), v] 76 (0, 0)) := by simp [World.setCell, Array.getElem?_modify, hr]
    refine ⟨he, ⟨h1, ⟨_, .inr rfl, hr2⟩, h3.kept hg ?_, h4⟩, hr2, hg⟩
    cases hv : v.ownBlock with
    | none => exact .inl rfl
    | some k => exact .inr fun e2 => h4 (by rw [hv, e2])
  · refine (bld_check_used b v w hr).mono ?_
    rintro e w' ⟨he, rfl⟩
    exact ⟨he, ⟨h1, ⟨_, .inr rfl, hr⟩, h3, h4⟩, hr, World.grownBy.refl _ _⟩
theorem own_slice {w : World} {B e m n : Nat} {v : Value} {xs : List Value} (h : w.ownsRow B e m v n xs) : ∃ ao n' cap, v = .slice ao n' cap := by
  rcases h.2 with ⟨hv, _⟩ | ⟨g, cap, cur, hv, _⟩
  · exact ⟨_, _, _, hv⟩
  · exact ⟨_, _, _, hv⟩
set_option maxHeartbeats 1000000 in
theorem bld_write (B b : Nat) (v : Value) (l : List UInt8) (s : ByteArray) (w : World) (h : BldV w B b v l) (hlen : l.length + s.size ≤ 140737488355328) (hBw : B ≤ w.heap.size) :
    Calls Try.prog 57 #[.pointer (some ⟨b, 0, none⟩), .string s] w fun e w' => ∃ v', e = .returned (.tuple #[.int .i64 s.size, .nilIface]) ∧ BldV w' B b v' (l ++ s.data.toList) ∧ (∀ k, k < w.heap.size → k ≠ b → v.ownBlock ≠ some k → w'.heap[k]? = w.heap[k]?) ∧ Below B w w' := by
  obtain ⟨i0, hi, hz0, hzs, hz2⟩ := info_parts ubyte_info
  have HH := Lib.hid h; have HL := Lib.hid hlen
  clear h hlen
  go_enter Try.func57, Try.ntmps57
  go_wp2_with fail
  refine (bld_check B b v l w HH.out).mono ?_
  rintro e w1 ⟨rfl, h1, hr1, hg1⟩
  have hb1 : Below B w w1 := (Below.refl B w).grown hg1 hBw (fun k hk => by cases hk; exact HH.out.1)
  have c1 : w1.cell? ⟨b, 1, none⟩ = some v := by rw [cell_of_row _ _ 1 _ _ _ hr1]; rfl
  have hz1 := hb1.size
  have hg1S : ∀ k, k < w.heap.size → k ≠ b → w1.heap[k]? = w.heap[k]? := fun k hk hkb => hg1.block k hk (fun e => hkb (by cases e; rfl))
  have H1 := Lib.hid h1; have HR1 := Lib.hid hr1; have HG1 := Lib.hid hg1; have HB1 := Lib.hid hb1
  have hblt := h1.lt
  clear h1 hr1 hg1 hb1
  go_wp2_with (at_builtin; go_must (refine Lib.wpList_append_own_string _ rfl _ _ 22 9 rfl B 5 i0 Try.underlying22 Try.underlying9 hi hz0 hzs hz2 _ _ _ rfl H1.out.2.2.1 s rfl (by have := HL.out; unfold maxLen; omega) (by have := HL.out; omega) (by omega) ?_; intro v' w2 hown' hg2 _; replace hg2 : World.grownBy w1 w2 v.ownBlock := hg2; have hr2 := (hg2.block b hblt (fun e => H1.out.2.2.2 e.symm)).trans HR1.out; have d1 : w2.cell? ⟨b, 1, none⟩ = some v := (by rw [cell_of_row _ _ 1 _ _ _ hr2]; rfl); have f1 := frozen_of_row w2 _ 1 _ _ hr2; have HO := Lib.hid hown'; have HG2 := Lib.hid hg2; have HR2 := Lib.hid hr2; clear hown' hg2 hr2; obtain ⟨ao, n', cap, rfl⟩ := own_slice HO.out))
  go_ret2
  have hlen2 : (Lib.byteCells (l ++ s.data.toList)) = Lib.byteCells l ++ Lib.strCells s := by simp [Lib.byteCells, Lib.strCells]
  have hsz2 : (l ++ s.data.toList).length = l.length + s.size := by simp
  have hown2 : w2.ownsRow B 5 1 (.slice ao n' cap) (l ++ s.data.toList).length (Lib.byteCells (l ++ s.data.toList)) := by rw [hlen2, hsz2]; exact HO.out
  have hne : (Value.slice ao n' cap).ownBlock ≠ some b := Lib.ownBlock_ne hown2 HR2.out (by decide)
  have hgS : w2.grownBy (w2.setCell ⟨b, 1, none⟩ (.slice ao n' cap)) (some b) := grownBy_setCell1 w2 b 1 _
  refine ⟨_, rfl, ⟨HH.out.1, ⟨_, .inr rfl, by simp [World.setCell, Array.getElem?_modify, HR2.out]⟩, hown2.kept hgS ?_, hne⟩, fun k hk hkb hkv => ?_, ?_⟩
  · cases hv : (Value.slice ao n' cap).ownBlock with
    | none => exact .inl rfl
    | some k => exact .inr fun e2 => hne (by rw [hv, e2])
  · have k1 := hg1S k hk hkb
    have k2 := HG2.out.block k (by omega) (fun e => hkv e.symm)
    have k3 := hgS.block k (by have := HG2.out.size; omega) (fun e => hkb (by cases e; rfl))
    exact (k3.trans k2).trans k1
  · exact (HB1.out.grown HG2.out (by omega) (fun k hk => (H1.out.own_lt k hk).1)).setCell (p := ⟨b, 1, none⟩) HH.out.1 _
theorem bld_string (B b : Nat) (v : Value) (l : List UInt8) (w : World) (h : BldV w B b v l) (hBw : B ≤ w.heap.size) :
    Calls Try.prog 58 #[.pointer (some ⟨b, 0, none⟩)] w fun e w' => e = .returned (.string ⟨l.toArray⟩) ∧ Below B w w' := by
  obtain ⟨h1, ⟨p, hp, hr⟩, h3, h4⟩ := h
  have h3' : w.ownsRow B 5 1 v (Lib.byteCells l).length (Lib.byteCells l) := by rw [Lib.byteCells_length]; exact h3
  have hI : Lib.IsBuilder 76 5 B b (Lib.byteCells l) w := by
    rcases hp with rfl | rfl
    · exact .inl ⟨h1, v, hr, h3', h4⟩
    · exact .inr ⟨h1, v, hr, h3', h4⟩
  exact Any.Builder_String_any Try.lays169 Try.Builder_Extra_169 B b l w hI hBw
end Go.Proofs.Ytpniiaemgobaiac

/-
  strings.Clone: the same bytes, and nothing that was there is turned.
-/
import Derived.Test.YtpniiaemgobaiaaBytes
import Derived.Lib.BufferWrite
import Derived.Lib.UnsafeStr
import Derived.Laws.MakeOwn
namespace Go.Proofs.Ytpniiaemgobaiaa
open Go.RowKit
set_option linter.unusedVariables false
set_option maxRecDepth 100000
theorem ba_nil {s : ByteArray} (h : s.size = 0) : s = ⟨#[]⟩ := ByteArray.ext (Array.eq_empty_of_size_eq_zero h)
theorem below_row_frozen {w : World} {M Y : Array Value} {t : TypeId} (n : Nat) : Below w.heap.size w (((w.alloc (.cells M t)).setRow w.heap.size Y).freeze ⟨w.heap.size, 0, none⟩ n) :=
  Lib.below_freeze (below_setRow ((Below.refl _ w).alloc (Nat.le_refl _) _) (Nat.le_refl _) _) (Nat.le_refl _) n
set_option maxHeartbeats 4000000 in
theorem lite_clone (s : ByteArray) (w : World) (hs : s.size ≤ 1048576) :
    Calls Try.prog 91 #[.string s] w fun e w' => e = .returned (.string s) ∧ Below w.heap.size w w' := by
  by_cases h0 : s.size = 0
  · obtain rfl := ba_nil h0
    go_enter Try.func91, Try.ntmps91
    go_wp2
    go_ret
    exact ⟨rfl, Below.refl _ _⟩
  · obtain ⟨i0, hi, hz0, hz1, hz2⟩ := info_parts byte_info
    have hsz : (Try.prog.info? 5).map (·.size) = some 1 := by rw [hi]; simp [hz1]
    have hco : Try.prog.cellsOf 5 = 1 := by simp [Program.cellsOf, hi, hz1]
    obtain ⟨M, hM⟩ : ∃ M, M = madeCells (Value.int .u8 0).cells (((s.size : Nat) : Int).toNat * i0.size) := ⟨_, rfl⟩
    have hMn : M.toList.length = s.size := by rw [Array.length_toList, hM, size_madeCells, hz1]; simp
    have MK : ∀ W : World, (Instr.makeSlice 60 (.int .i64 (s.size : Int)) (.int .i64 (s.size : Int))).run Try.prog W = .ok (.slice (some ⟨W.heap.size, 0, none⟩) s.size s.size) (W.alloc (.cells M 5)) := by
      intro W
      have h := run_make (P := Try.prog) W 60 5 i0 (.int .u8 0) Try.underlying60 hi hz0 .i64 .i64 (s.size : Int) (s.size : Int) (by omega) (by omega) (by rw [hz2]; omega) (by omega)
      rw [← hM] at h; simpa using h
    have CP := Lib.run_copy_row_string (P := Try.prog) (w.alloc (.cells M 5)) 60 9 3 5 w.heap.size 0 s.size s.size s M 5 Try.underlying60 hsz (heap_alloc_new w _) (Nat.le_refl _) (by rw [← Array.length_toList]; omega)
    obtain ⟨Y, hY⟩ : ∃ Y, (M.toList.take 0 ++ Lib.byteCells s.data.toList ++ M.toList.drop (0 + s.size)).toArray = Y := ⟨_, rfl⟩
    rw [hY] at CP
    have hYl : Y.toList = Lib.byteCells s.data.toList := by
      rw [← hY, List.drop_of_length_le (by omega)]; simp
    have hYn : s.size ≤ Y.size := by rw [← Array.length_toList, hYl, Lib.byteCells_length, ← Lib.size_eq]; exact Nat.le_refl _
    have hrow := setRow_heap _ _ M Y 5 (0, 0) (heap_alloc_new w (.cells M 5))
    have hne : s.data.toList ≠ [] := fun e => h0 (by rw [Lib.size_eq, e]; rfl)
    have US := Lib.run_unsafeString_row (P := Try.prog) ((w.alloc (.cells M 5)).setRow w.heap.size Y) 88 3 9 5 Try.underlying88 hco w.heap.size Y.size (by unfold World.shape?; rw [hrow]) s.data.toList hne (by rw [← Lib.size_eq]; exact hYn) (by rw [← Lib.size_eq]; omega)
      (fun j x hx => by
        rw [addr_add0, cell_of_row _ _ j _ _ _ hrow, ← Array.getElem?_toList, hYl]
        simp [Lib.byteCells, hx])
    rw [← Lib.size_eq] at US
    clear hY hM
    go_enter Try.func91, Try.ntmps91
    go_wp2
    go_ret
    exact ⟨rfl, below_row_frozen _⟩
theorem str_clone (s : ByteArray) (w : World) (hs : s.size ≤ 1048576) :
    Calls Try.prog 75 #[.string s] w fun e w' => e = .returned (.string s) ∧ Below w.heap.size w w' := by
  go_enter Try.func75, Try.ntmps75
  go_wp2_with (go_at_call 91; refine (lite_clone _ _ hs).mono ?_; rintro e w1 ⟨rfl, hb1⟩)
  go_ret
  exact ⟨rfl, hb1⟩
end Go.Proofs.Ytpniiaemgobaiaa

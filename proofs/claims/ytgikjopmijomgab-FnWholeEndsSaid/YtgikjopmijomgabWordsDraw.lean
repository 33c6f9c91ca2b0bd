/-
  The drawer of texts of words.
-/
import Derived.Test.YtgikjopmijomgabRegInv
import Derived.Test.YtgikjopmijomgabL1Draw
namespace Go.Proofs.Ytgikjopmijomgab
open Go.RowKit
set_option linter.unusedVariables false
set_option maxRecDepth 100000
def litW (L : List ByteArray) (j : Nat) : ByteArray := L.getD j ⟨#[]⟩
theorem litW_size (L : List ByteArray) (m : Nat) (h : ∀ s ∈ L, s.size ≤ m) (j : Nat) : (litW L j).size ≤ m := by
  unfold litW
  by_cases hj : j < L.length
  · rw [List.getD_eq_getElem?_getD, List.getElem?_eq_getElem hj]; exact h _ (List.getElem_mem hj)
  · rw [List.getD_eq_getElem?_getD, List.getElem?_eq_none (by omega)]; exact Nat.zero_le _
/-- a slice of texts that lies in block b -/
def LitAt (L : List ByteArray) (R : Nat) (b : Nat) (w : World) : Prop := R < b ∧ b < w.heap.size ∧ ∀ j, j < L.length → w.cell? ⟨b, j, none⟩ = some (.string (litW L j))
theorem LitAt.on {L : List ByteArray} {R b : Nat} {w w1 : World} (h : LitAt L R b w) (hg : w.grownBy w1 (some R)) : LitAt L R b w1 :=
  ⟨h.1, Nat.lt_of_lt_of_le h.2.1 hg.size, fun j hj => hg.cell (h.2.2 j hj) (by simp; have := h.1; omega)⟩
theorem litW_el (L : List ByteArray) (j : Nat) (hj : j < L.length) : (L.map Value.string).toArray[j]? = some (.string (litW L j)) := by
  simp [litW, List.getD_eq_getElem?_getD, List.getElem?_eq_getElem hj]
theorem litW_new (L : List ByteArray) {W : World} {R : Nat} {t : TypeId} {cs : Array Value} (hR : R < W.heap.size) (hcs : cs = (L.map Value.string).toArray) : LitAt L R W.heap.size (W.alloc (.cells cs t)) :=
  ⟨hR, by simp, fun j hj => by subst hcs; rw [World.cell?_alloc_new]; exact litW_el L j hj⟩
def gaps : List ByteArray := [⟨#[32]⟩, ⟨#[]⟩, ⟨#[45]⟩, ⟨#[32, 32]⟩]
def tails : List ByteArray := [⟨#[33]⟩, ⟨#[]⟩, ⟨#[57]⟩]
def StrN (m : Nat) (v : Value) : Prop := ∃ s : ByteArray, v = .string s ∧ s.size ≤ m
def rowsW (R : Nat) : Nat → Value → World → Prop
  | 0 => fun v _ => v = .pointer (some ⟨R, 0, none⟩)
  | 1 => fun v _ => StrN 7 v
  | 2 => fun v w => ∃ b, v = .slice (some ⟨b, 0, none⟩) 4 4 ∧ LitAt gaps R b w
  | 3 => fun v _ => v = .pointer (some ⟨R, 0, none⟩)
  | 4 => fun v _ => ∃ j : Nat, v = .int .i64 j ∧ j < 4
  | 5 => fun v w => ∃ b j, v = .pointer (some ⟨b, j, none⟩) ∧ LitAt gaps R b w ∧ j < 4
  | 6 => fun v _ => StrN 2 v
  | 7 => fun v _ => StrN 9 v
  | 8 => fun v _ => v = .pointer (some ⟨R, 0, none⟩)
  | 9 => fun v _ => StrN 7 v
  | 10 => fun v _ => StrN 16 v
  | 11 => fun v w => ∃ b, v = .slice (some ⟨b, 0, none⟩) 3 3 ∧ LitAt tails R b w
  | 12 => fun v _ => v = .pointer (some ⟨R, 0, none⟩)
  | 13 => fun v _ => ∃ j : Nat, v = .int .i64 j ∧ j < 3
  | 14 => fun v w => ∃ b j, v = .pointer (some ⟨b, j, none⟩) ∧ LitAt tails R b w ∧ j < 3
  | 15 => fun v _ => StrN 2 v
  | _ => fun v _ => StrN 18 v
theorem rowsW_on {R : Nat} {w w1 : World} (hg : w.grownBy w1 (some R)) : ∀ j v, rowsW R j v w → rowsW R j v w1 := by
  intro j v h
  match j, h with
  | 0, h => exact h
  | 1, h => exact h
  | 2, ⟨b, e, h⟩ => exact ⟨b, e, h.on hg⟩
  | 3, h => exact h
  | 4, h => exact h
  | 5, ⟨b, j, e, h, hj⟩ => exact ⟨b, j, e, h.on hg, hj⟩
  | 6, h => exact h
  | 7, h => exact h
  | 8, h => exact h
  | 9, h => exact h
  | 10, h => exact h
  | 11, ⟨b, e, h⟩ => exact ⟨b, e, h.on hg⟩
  | 12, h => exact h
  | 13, h => exact h
  | 14, ⟨b, j, e, h, hj⟩ => exact ⟨b, j, e, h.on hg, hj⟩
  | 15, h => exact h
  | j + 16, h => exact h
set_option maxHeartbeats 2000000 in
theorem drawWordsOf (a : Option Addr) (len cap : Nat) (z : List Int) (w : World) (hr : IsRow .u8 w a len cap z) (hl : len ≤ 1048576) :
    Calls Try.prog 10 #[.slice a len cap] w fun e w' => ∃ s : ByteArray, e = .returned (.string s) ∧ s.size ≤ 18 ∧ Below w.heap.size w w' := by
  go_enter Try.func10, Try.ntmps10
  go_wp2_with fail
  refine (l1Open_any _ _ _ _ _ hr hl).mono ?_
  rintro e w1 ⟨rfl, hok, hb⟩
  go_wp2_with fail
  refine region_inv (Wd := fun w' => RdOk w' w.heap.size a len cap z ∧ w1.grownBy w' (some w.heap.size)) (R := rowsW w.heap.size) (base := [3]) (B := fun _ => .pointer (some ⟨w.heap.size, 0, none⟩)) (D := []) (n := 23) (by kernel_rfl) (by kernel_rfl) (by kernel_rfl) ⟨hok.below (Below.refl _ _).drew, ⟨rfl, rfl, rfl, Nat.le_refl _, fun _ _ _ => rfl⟩⟩ rfl rfl ?hB ?hop ?hdone
  case hB => intro t ht; simp at ht; subst ht; rfl
  case hop =>
    rintro i o ho ⟨T, Df⟩ W hW hn hD hbase hdep
    dsimp only at hn hD
    subst hD
    match i, ho with
    | 0, ho =>
      obtain rfl := Option.some.inj ho
      have h0 : T[3]'(by omega) = .pointer (some ⟨w.heap.size, 0, none⟩) := by simpa [Act.eval, hn] using hbase 3 (by simp)
      go_simp
      exact ⟨⟨_, rfl, rfl⟩, hW, fun j v h => h⟩
    | 1, ho =>
      obtain rfl := Option.some.inj ho
      have hp0 : Act.eval { tmps := T, defers := [] } (.tmp 6) = .pointer (some ⟨w.heap.size, 0, none⟩) := hdep ⟨0, .data⟩ (by simp) (by rfl) _ 6 rfl rfl
      have hp : T[6]'(by omega) = .pointer (some ⟨w.heap.size, 0, none⟩) := by simpa [Act.eval, hn] using hp0
      go_simp
      go_at_call 30
      refine (rd_term _ _ _ _ _ _ hW.1 6 (by omega)).mono ?_
      rintro e wn ⟨s, rfl, hs, hok', hg'⟩
      exact ⟨⟨_, rfl, ⟨s, rfl, by omega⟩⟩, ⟨hok', grownBy_trans hW.2 hg'⟩, rowsW_on hg'⟩
    | 2, ho =>
      obtain rfl := Option.some.inj ho
      go_simp
      exact ⟨⟨_, rfl, ⟨_, rfl, litW_new gaps hW.1.lt rfl⟩⟩, ⟨hW.1.alloc _, grownBy_alloc hW.2 _⟩, rowsW_on (World.grownBy_alloc W _ _)⟩
    | 3, ho =>
      obtain rfl := Option.some.inj ho
      have h0 : T[3]'(by omega) = .pointer (some ⟨w.heap.size, 0, none⟩) := by simpa [Act.eval, hn] using hbase 3 (by simp)
      go_simp
      exact ⟨⟨_, rfl, rfl⟩, hW, fun j v h => h⟩
    | 4, ho =>
      obtain rfl := Option.some.inj ho
      have hp0 : Act.eval { tmps := T, defers := [] } (.tmp 9) = .pointer (some ⟨w.heap.size, 0, none⟩) := hdep ⟨3, .data⟩ (by simp) (by rfl) _ 9 rfl rfl
      have hp : T[9]'(by omega) = .pointer (some ⟨w.heap.size, 0, none⟩) := by simpa [Act.eval, hn] using hp0
      go_simp
      go_at_call 31
      refine (rd_below _ _ _ _ _ _ hW.1 4).mono ?_
      rintro e wn ⟨x, rfl, ⟨hx0, _, hx1, _⟩, hok', hg'⟩
      have hx2 : x < 4 := hx1 (by omega)
      clear hx1
      obtain ⟨j, rfl⟩ := Int.eq_ofNat_of_zero_le hx0
      exact ⟨⟨_, rfl, ⟨j, rfl, by omega⟩⟩, ⟨hok', grownBy_trans hW.2 hg'⟩, rowsW_on hg'⟩
    | 5, ho =>
      obtain rfl := Option.some.inj ho
      obtain ⟨b, eb, hb2⟩ := hdep ⟨2, .data⟩ (by simp) (by rfl) _ 8 rfl rfl
      have eb : T[8]'(by omega) = .slice (some ⟨b, 0, none⟩) 4 4 := by simpa [Act.eval, hn] using eb
      obtain ⟨j, ej, hj⟩ := hdep ⟨4, .data⟩ (by simp) (by rfl) _ 10 rfl rfl
      have ej : T[10]'(by omega) = .int .i64 (j : Int) := by simpa [Act.eval, hn] using ej
      have j0 : (0 : Int) ≤ (j : Int) := by omega
      have j1 : (j : Int) < 4 := by omega
      go_simp
      exact ⟨⟨_, rfl, ⟨b, j, rfl, hb2, hj⟩⟩, hW, fun j v h => h⟩
    | 6, ho =>
      obtain rfl := Option.some.inj ho
      obtain ⟨b, j, eb, hb2, hj⟩ := hdep ⟨5, .data⟩ (by simp) (by rfl) _ 11 rfl rfl
      have eb : T[11]'(by omega) = .pointer (some ⟨b, j, none⟩) := by simpa [Act.eval, hn] using eb
      have hc := hb2.2.2 j hj
      go_simp
      exact ⟨⟨_, rfl, ⟨_, rfl, litW_size gaps 2 (by decide) j⟩⟩, hW, fun j v h => h⟩
    | 7, ho =>
      obtain rfl := Option.some.inj ho
      obtain ⟨s, es, ls⟩ := hdep ⟨1, .data⟩ (by simp) (by rfl) _ 7 rfl rfl
      have es : T[7]'(by omega) = .string s := by simpa [Act.eval, hn] using es
      obtain ⟨t, et, lt⟩ := hdep ⟨6, .data⟩ (by simp) (by rfl) _ 12 rfl rfl
      have et : T[12]'(by omega) = .string t := by simpa [Act.eval, hn] using et
      have hbig : ¬ (9223372036854775807 : Nat) < s.size + t.size := by omega
      go_simp
      exact ⟨⟨_, rfl, ⟨_, rfl, by rw [ByteArray.size_append]; omega⟩⟩, hW, fun j v h => h⟩
    | 8, ho =>
      obtain rfl := Option.some.inj ho
      have h0 : T[3]'(by omega) = .pointer (some ⟨w.heap.size, 0, none⟩) := by simpa [Act.eval, hn] using hbase 3 (by simp)
      go_simp
      exact ⟨⟨_, rfl, rfl⟩, hW, fun j v h => h⟩
    | 9, ho =>
      obtain rfl := Option.some.inj ho
      have hp0 : Act.eval { tmps := T, defers := [] } (.tmp 14) = .pointer (some ⟨w.heap.size, 0, none⟩) := hdep ⟨8, .data⟩ (by simp) (by rfl) _ 14 rfl rfl
      have hp : T[14]'(by omega) = .pointer (some ⟨w.heap.size, 0, none⟩) := by simpa [Act.eval, hn] using hp0
      go_simp
      go_at_call 30
      refine (rd_term _ _ _ _ _ _ hW.1 6 (by omega)).mono ?_
      rintro e wn ⟨s, rfl, hs, hok', hg'⟩
      exact ⟨⟨_, rfl, ⟨s, rfl, by omega⟩⟩, ⟨hok', grownBy_trans hW.2 hg'⟩, rowsW_on hg'⟩
    | 10, ho =>
      obtain rfl := Option.some.inj ho
      obtain ⟨s, es, ls⟩ := hdep ⟨7, .data⟩ (by simp) (by rfl) _ 13 rfl rfl
      have es : T[13]'(by omega) = .string s := by simpa [Act.eval, hn] using es
      obtain ⟨t, et, lt⟩ := hdep ⟨9, .data⟩ (by simp) (by rfl) _ 15 rfl rfl
      have et : T[15]'(by omega) = .string t := by simpa [Act.eval, hn] using et
      have hbig : ¬ (9223372036854775807 : Nat) < s.size + t.size := by omega
      go_simp
      exact ⟨⟨_, rfl, ⟨_, rfl, by rw [ByteArray.size_append]; omega⟩⟩, hW, fun j v h => h⟩
    | 11, ho =>
      obtain rfl := Option.some.inj ho
      go_simp
      exact ⟨⟨_, rfl, ⟨_, rfl, litW_new tails hW.1.lt rfl⟩⟩, ⟨hW.1.alloc _, grownBy_alloc hW.2 _⟩, rowsW_on (World.grownBy_alloc W _ _)⟩
    | 12, ho =>
      obtain rfl := Option.some.inj ho
      have h0 : T[3]'(by omega) = .pointer (some ⟨w.heap.size, 0, none⟩) := by simpa [Act.eval, hn] using hbase 3 (by simp)
      go_simp
      exact ⟨⟨_, rfl, rfl⟩, hW, fun j v h => h⟩
    | 13, ho =>
      obtain rfl := Option.some.inj ho
      have hp0 : Act.eval { tmps := T, defers := [] } (.tmp 18) = .pointer (some ⟨w.heap.size, 0, none⟩) := hdep ⟨12, .data⟩ (by simp) (by rfl) _ 18 rfl rfl
      have hp : T[18]'(by omega) = .pointer (some ⟨w.heap.size, 0, none⟩) := by simpa [Act.eval, hn] using hp0
      go_simp
      go_at_call 31
      refine (rd_below _ _ _ _ _ _ hW.1 3).mono ?_
      rintro e wn ⟨x, rfl, ⟨hx0, _, hx1, _⟩, hok', hg'⟩
      have hx2 : x < 3 := hx1 (by omega)
      clear hx1
      obtain ⟨j, rfl⟩ := Int.eq_ofNat_of_zero_le hx0
      exact ⟨⟨_, rfl, ⟨j, rfl, by omega⟩⟩, ⟨hok', grownBy_trans hW.2 hg'⟩, rowsW_on hg'⟩
    | 14, ho =>
      obtain rfl := Option.some.inj ho
      obtain ⟨b, eb, hb2⟩ := hdep ⟨11, .data⟩ (by simp) (by rfl) _ 17 rfl rfl
      have eb : T[17]'(by omega) = .slice (some ⟨b, 0, none⟩) 3 3 := by simpa [Act.eval, hn] using eb
      obtain ⟨j, ej, hj⟩ := hdep ⟨13, .data⟩ (by simp) (by rfl) _ 19 rfl rfl
      have ej : T[19]'(by omega) = .int .i64 (j : Int) := by simpa [Act.eval, hn] using ej
      have j0 : (0 : Int) ≤ (j : Int) := by omega
      have j1 : (j : Int) < 3 := by omega
      go_simp
      exact ⟨⟨_, rfl, ⟨b, j, rfl, hb2, hj⟩⟩, hW, fun j v h => h⟩
    | 15, ho =>
      obtain rfl := Option.some.inj ho
      obtain ⟨b, j, eb, hb2, hj⟩ := hdep ⟨14, .data⟩ (by simp) (by rfl) _ 20 rfl rfl
      have eb : T[20]'(by omega) = .pointer (some ⟨b, j, none⟩) := by simpa [Act.eval, hn] using eb
      have hc := hb2.2.2 j hj
      go_simp
      exact ⟨⟨_, rfl, ⟨_, rfl, litW_size tails 2 (by decide) j⟩⟩, hW, fun j v h => h⟩
    | 16, ho =>
      obtain rfl := Option.some.inj ho
      obtain ⟨s, es, ls⟩ := hdep ⟨10, .data⟩ (by simp) (by rfl) _ 16 rfl rfl
      have es : T[16]'(by omega) = .string s := by simpa [Act.eval, hn] using es
      obtain ⟨t, et, lt⟩ := hdep ⟨15, .data⟩ (by simp) (by rfl) _ 21 rfl rfl
      have et : T[21]'(by omega) = .string t := by simpa [Act.eval, hn] using et
      have hbig : ¬ (9223372036854775807 : Nat) < s.size + t.size := by omega
      go_simp
      exact ⟨⟨_, rfl, ⟨_, rfl, by rw [ByteArray.size_append]; omega⟩⟩, hW, fun j v h => h⟩
    | 17, ho =>
      obtain rfl := Option.some.inj ho
      obtain ⟨s, es, ls⟩ := hdep ⟨16, .data⟩ (by simp) (by rfl) _ 22 rfl rfl
      have es : T[22]'(by omega) = .string s := by simpa [Act.eval, hn] using es
      go_simp
      exact ⟨⟨_, rfl, ⟨s, rfl, ls⟩⟩, hW, fun j v h => h⟩
    | n + 18, ho => simp at ho
  case hdone =>
    rintro ⟨T, Df⟩ W hW hn hD hbase hrow
    dsimp only at hn hD
    subst hD
    obtain ⟨s, es, ls⟩ := hrow 17 _ 2 rfl rfl
    have es : T[2]'(by omega) = .string s := by simpa [Act.eval, hn] using es
    go_wp2
    exact bodyPost_ret (v := .string s) (by simp [results, Try.results10, go_sem, hn, es]) rfl ⟨s, rfl, ls, below_rd hb hW.2⟩
end Go.Proofs.Ytgikjopmijomgab

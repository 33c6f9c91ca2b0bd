/-
  A slice of texts that came in: opened; its size; a copy of it; chapter 15's words.
-/
import Derived.Test.YtpniiaemgobaiaaStrLaw
import Derived.Laws.OwnMore
import Derived.Laws.MakeOwn
import Derived.SliceStrings
import Derived.ProofKit
namespace Go.Proofs.Ytpniiaemgobaiaa
open Go.RowKit Go.ChangeShapes Go.WideShapes
set_option linter.unusedVariables false
set_option maxRecDepth 100000
section
variable {P : Program} {H : Type} {enc : TypeId × Value → H} {w : World} {base : Nat} {spare : Nat → Bool} {held : Bool}
theorem open_texts {t e : TypeId} {fuel : Nat} {a0 : Option Addr} {len0 cap0 : Nat} {x : DataW H × List MemPlace} (ht : P.underlying t = some (.slice e)) (he : P.underlying e = some .string) (hc : P.cellsOf e = 1)
    (h : DataW.trod enc P w base spare held fuel t [.slice a0 len0 cap0] = some x) :
    ∃ T : Nat → ByteArray, Vals w a0 (strL T len0) ∧ len0 ≤ maxLen ∧ ∀ i, i < len0 → (T i).size ≤ maxLen := by
  rcases open_strings ht he hc h with ⟨hcs, _⟩ | ⟨a, len, cap, ss, hcs, _, hl, hm, hz, _, hcell, hsz⟩
  · simp only [List.cons.injEq, Value.slice.injEq, and_true] at hcs
    obtain ⟨rfl, rfl, rfl⟩ := hcs
    exact ⟨fun _ => ⟨#[]⟩, .inl rfl, by simp, fun i hi => by omega⟩
  · simp only [List.cons.injEq, Value.slice.injEq, and_true] at hcs
    obtain ⟨rfl, rfl, rfl⟩ := hcs
    have hlm : len0 ≤ ss.length := by rw [hz]; split <;> omega
    refine ⟨fun i => ss.getD i ByteArray.empty, ?_, by omega, fun i hi => ?_⟩
    · by_cases h0 : len0 = 0
      · left; subst h0; rfl
      · right
        obtain ⟨b, off, spot⟩ := a
        have hspot : spot = none := by
          have := World.cell?_spot (hcell 0 (by omega))
          simpa [Addr.add] using this
        subst hspot
        refine ⟨b, off, rfl, fun i hi => ?_⟩
        have hi1 : i < len0 := by rw [strL_length] at hi; exact hi
        rw [strL_at _ _ _ hi1]
        have := hcell i (by omega)
        rw [Addr.add_lit] at this
        exact this
    · have hi2 : i < ss.length := by omega
      have e : ss.getD i ByteArray.empty = ss[i] := by simp [List.getD_eq_getElem?_getD, hi2]
      show (ss.getD i ByteArray.empty).size ≤ maxLen
      rw [e]
      exact hsz _ (List.getElem_mem hi2)
end
set_option maxHeartbeats 1000000 in
theorem laws_szStringS (t : Nat → ByteArray) (len : Nat) (a : Option Addr) (cap : Nat) (n : Int) (w : World) (h : Vals w a (strL t len)) (hlen : len ≤ 9223372036854775807) (hts : ∀ i, i < len → (t i).size ≤ 9223372036854775807) (h0 : 0 ≤ n) (h1 : n ≤ 1048576) :
    Calls Try.prog 20 #[.slice a len cap, .int .i64 n] w fun e w' => ∃ r : Int, e = .returned (.int .i64 r) ∧ (r = -1 ∨ (0 ≤ r ∧ r ≤ n ∧ (len : Int) ≤ n ∧ ∀ i, i < len → ((t i).size : Int) ≤ n)) ∧ Below w.heap.size w w' := by
  have HN := Lib.hid (strL_length t len)
  by_cases hl : (len : Int) ≤ n
  · go_enter Try.func20, Try.ntmps20
    go_wp2
    go_loopw [1, 5] (fun v i wr => ∃ (k : Nat) (m : Int), k ≤ len ∧ i = .int .i64 k ∧ v = .int .i64 m ∧ (0 ≤ m ∧ m ≤ n) ∧ (∀ j, j < k → ((t j).size : Int) ≤ n) ∧ Below w.heap.size w wr)
      (fun _ i _ => len - (intOf i).toNat)
    case atStart => exact ⟨0, _, by omega, rfl, rfl, by omega, fun i hi => by omega, Below.refl _ _⟩
    case round =>
      obtain ⟨k, m, hk, rfl, rfl, ⟨hm0, hm1⟩, hall, hb⟩ := hrel
      by_cases hlt : k < len
      · obtain ⟨b, off, rfl, hp⟩ := (h.kept hb).at k (by rw [HN.out]; omega)
        have c0 := hp k (by rw [HN.out]; omega)
        rw [strL_at t len k hlt] at c0
        have hsz := hts k hlt
        by_cases hle : ((t k).size : Int) ≤ m
        · have hall2 : ∀ j, j < k + 1 → ((t j).size : Int) ≤ n := fun j hj => by
            by_cases e : j = k
            · subst e; omega
            · exact hall j (by omega)
          have HA := Lib.hid hall2
          clear hall hall2 h hp hts
          generalize t k = p at *
          go_wp2_with fail
          go_roundw
          case rel => exact ⟨k + 1, m - p.size, by omega, by go_num, rfl, by omega, HA.out, hb⟩
          case measure => simp [intOf]; omega
        · clear hall h hp hts
          generalize t k = p at *
          go_wp2_with fail
          go_ret
          exact ⟨-1, rfl, .inl rfl, hb⟩
      · obtain rfl : k = len := by omega
        have HA := Lib.hid hall
        clear hall hts
        go_wp2
        go_ret
        exact ⟨m, rfl, .inr ⟨hm0, hm1, hl, HA.out⟩, hb⟩
  · clear hts
    go_enter Try.func20, Try.ntmps20
    go_wp2
    go_ret
    exact ⟨-1, rfl, .inl rfl, Below.refl _ _⟩
theorem str1_info : (Try.prog.info? 9).map (fun i => (i.zero, i.size, i.bytes)) = some (some (.string ⟨#[]⟩), 1, 16) := by kernel_rfl
/-- the first k texts of t, the others empty -/
def upT (t : Nat → ByteArray) (k i : Nat) : ByteArray := if i < k then t i else ⟨#[]⟩
theorem upT_set (t : Nat → ByteArray) (n k : Nat) (h : k < n) : (strL (upT t k) n).set k (.string (t k)) = strL (upT t (k + 1)) n := by
  rw [strL_set _ _ _ _ h]
  refine strL_congr fun i _ => ?_
  unfold upT
  by_cases e : i = k
  · subst e; simp
  · by_cases e2 : i < k
    · rw [if_neg e, if_pos e2, if_pos (by omega)]
    · rw [if_neg e, if_neg e2, if_neg (by omega)]
theorem upT_zero (t : Nat → ByteArray) (n : Nat) : strL (upT t 0) n = List.replicate n (Value.string ⟨#[]⟩) := by
  apply List.ext_getElem
  · simp [strL]
  · intro i h1 h2
    simp [strL, upT]
theorem upT_all (t : Nat → ByteArray) (n : Nat) : strL (upT t n) n = strL t n := strL_congr fun i hi => if_pos hi
set_option maxHeartbeats 1000000 in
theorem laws_toStringS (t : Nat → ByteArray) (n : Nat) (a : Option Addr) (cap : Nat) (w : World) (h : Vals w a (strL t n)) (hlen : n ≤ 1048577) :
    Calls Try.prog 22 #[.slice a n cap] w fun e w' => e = .returned (.slice (some ⟨w.heap.size, 0, none⟩) n n) ∧ OwnV 9 1 w' w.heap.size (some ⟨w.heap.size, 0, none⟩) n n (strL t n) ∧ Below w.heap.size w w' := by
  obtain ⟨i0, hi, hz0, hz1, hz2⟩ := info_parts str1_info
  have HN := Lib.hid (strL_length t n)
  go_enter Try.func22, Try.ntmps22
  go_wp2_with (at_make; refine wpList_make_full _ rfl _ _ 35 rfl w.heap.size 9 i0 (.string ⟨#[]⟩) 1 Try.underlying35 hi hz0 hz1 _ _ _ _ n rfl rfl rfl rfl (by rw [hz2]; omega) (by unfold maxLen; omega) (Nat.le_refl _) ?_; intro w1 hown hg)
  have hB1 : Below w.heap.size w w1 := (Below.refl _ _).grown hg (Nat.le_refl _) (fun k hk => by cases hk)
  have hO : OwnV 9 1 w1 w.heap.size (some ⟨w.heap.size, 0, none⟩) n n (strL (upT t 0) n) := ⟨by rw [strL_length]; omega, by rw [upT_zero]; have e := hown; rw [Nat.mul_one, show (Value.string ⟨#[]⟩).cells = #[Value.string ⟨#[]⟩] from rfl, toList_madeCells_one] at e; exact e⟩
  clear hown hg
  go_loopw [4] (fun i wr => ∃ k : Nat, k ≤ n ∧ i = .int .i64 k ∧ OwnV 9 1 wr w.heap.size (some ⟨w.heap.size, 0, none⟩) n n (strL (upT t k) n) ∧ Below w.heap.size w wr)
    (fun i _ => n - (intOf i).toNat)
  case atStart => exact ⟨0, by omega, rfl, hO, hB1⟩
  case round =>
    obtain ⟨k, hk, rfl, hown, hb⟩ := hrel
    by_cases hlt : k < n
    · obtain ⟨b, off, rfl, hp⟩ := (h.kept hb).at k (by rw [HN.out]; omega)
      have c0 := hp k (by rw [HN.out]; omega)
      rw [strL_at t n k hlt] at c0
      have hc := hown.cell k (by omega)
      have hf := hown.frozen k
      have hown2 := hown.set k (.string (t k))
      rw [upT_set _ _ _ hlt] at hown2
      have HO2 := Lib.hid hown2
      clear hown hown2 h hp hO
      go_wp2
      go_roundw
      case rel => exact ⟨k + 1, by omega, by go_num, HO2.out, hb.setCell (Nat.le_refl _) _⟩
      case measure => simp [intOf]; omega
    · obtain rfl : k = n := by omega
      rw [upT_all] at hown
      go_wp2
      go_ret
      exact ⟨rfl, hown, hb⟩
/-- chapter 15's words -/
def wordsB (t : Nat → ByteArray) (n : Nat) : Bool := (List.range n).all (fun i => decide ((t i).size ≤ 20)) && decide (n ≤ 30)
end Go.Proofs.Ytpniiaemgobaiaa

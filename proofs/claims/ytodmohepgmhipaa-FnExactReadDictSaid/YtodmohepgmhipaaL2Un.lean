/-
  Chapter 2: contracts of what reads an escaped byte, in the program.
-/
import Derived.Test.YtodmohepgmhipaaPlain2
import Derived.Test.YtodmohepgmhipaaL2Esc
import Derived.WalkLawsBesides
import Derived.Outline
namespace Go.Proofs.Ytodmohepgmhipaa
open Go.RowKit
set_option linter.unusedVariables false
set_option maxRecDepth 100000
theorem hasPrefix_two (L : List UInt8) (p q : UInt8) (w : World) (hL : L.length ≤ 140737488351232) :
    Calls Try.prog 156 #[.string ⟨L.toArray⟩, .string ⟨#[p, q]⟩] w fun e w' => e = .returned (.bool (pre2 L p q)) ∧ w = w' := by
  match L, hL with
  | [], _ =>
    go_enter Try.func156, Try.ntmps156
    go_wp2
    go_ret
    exact ⟨rfl, rfl⟩
  | [a], _ =>
    go_enter Try.func156, Try.ntmps156
    go_wp2
    go_ret
    exact ⟨rfl, rfl⟩
  | a :: b :: r, hL =>
    have hs : (ByteArray.mk (a :: b :: r).toArray).size = r.length + 2 := rfl
    have he : (ByteArray.mk (a :: b :: r).toArray).extract 0 2 = ⟨[a, b].toArray⟩ := by rw [ByteArray.extract_mk]; rfl
    go_enter Try.func156, Try.ntmps156
    go_wp2
    go_ret
    exact ⟨by simp [pre2], rfl⟩
theorem run_indexHex (b : UInt8) (w : World) : (callFunc 152 #[.string hexLit, .int .u8 (b.toNat : Int)]).run Try.prog w = .ok (.value (.int .i64 (idxHex b))) w := by
  rw [run_callFunc_extern Try.func152 (by kernel_rfl) (by kernel_rfl) (by kernel_rfl) (e := Extern.BytealgIndexByte.indexByte) (by kernel_rfl), Lib.run_indexByteString]
  have : (b.toNat : Int).toNat.toUInt8 = b := by simp
  rw [this, indexByte_hex]; rfl
theorem indexByte_hexLit (b : UInt8) (w : World) :
    Calls Try.prog 87 #[.string hexLit, .int .u8 (b.toNat : Int)] w fun e w' => e = .returned (.int .i64 (idxHex b)) ∧ w = w' := by
  have hx := run_indexHex b
  generalize hexLit = H at *
  go_enter Try.func87, Try.ntmps87
  go_wp2
  go_ret
  exact ⟨rfl, rfl⟩

/-- unescapeByte, where a byte is said -/
theorem impl_unescapeByte_plain (s : ByteArray) (k : Nat) (b : UInt8) (r : List UInt8) (w : World) (hk : k < s.size) (hs : s.size ≤ 1073741824) (hL : s.extract k s.size = ⟨(b :: r).toArray⟩) (hlen : (b :: r).length ≤ 140737488351232)
    (h1 : 33 ≤ b.toNat) (h2 : b.toNat ≤ 126) (h3 : b.toNat ≠ 92) :
    Calls Try.prog 127 #[.string s, .int .i64 k] w fun e w' => e = .returned (.tuple #[.int .u8 (b.toNat : Int), .int .i64 ((k : Int) + 1)]) ∧ w = w' := by
  have hn : ∀ q, pre2 (b :: r) 92 q = false := by
    intro q
    have : (b == 92) = false := by simp; intro e; rw [e] at h3; exact h3 rfl
    cases r <;> simp [pre2, this]
  have hsz : (ByteArray.mk (b :: r).toArray).size = r.length + 1 := rfl
  have hlen' : r.length ≤ 140737488351232 := by simp at hlen; omega
  have hi0 : ∀ h, (ByteArray.mk (b :: r).toArray)[0]'h = b := fun _ => rfl
  go_enter Try.func127, Try.ntmps127
  go_wp2_with (first | (go_at_call 156; refine (hasPrefix_two _ _ _ _ hlen).mono ?_; rintro e w1 ⟨rfl, rfl⟩) | (go_at_call 87; refine (indexByte_hexLit _ _).mono ?_; rintro e w1 ⟨rfl, rfl⟩) | (go_at_call 157; refine (impl_isPrintable_yes _ _ (by omega) (by omega)).mono ?_; rintro e w1 ⟨rfl, rfl⟩) | (go_at_call 157; refine (impl_isPrintable_no _ _ (by omega)).mono ?_; rintro e w1 ⟨rfl, rfl⟩))
  go_ret2
  exact ⟨rfl, rfl⟩
theorem impl_unescapeByte_bad (s : ByteArray) (k : Nat) (b : UInt8) (r : List UInt8) (w : World) (hk : k < s.size) (hs : s.size ≤ 1073741824) (hL : s.extract k s.size = ⟨(b :: r).toArray⟩) (hlen : (b :: r).length ≤ 140737488351232)
    (h1 : b.toNat < 33 ∨ 126 < b.toNat) :
    Calls Try.prog 127 #[.string s, .int .i64 k] w fun e w' => e = .panicked [{ v := .iface 76 (.int .i64 k), recovered := false }] ∧ w = w' := by
  have hn : ∀ q, pre2 (b :: r) 92 q = false := by
    intro q
    have : (b == 92) = false := by simp; intro e; rw [e] at h1; exact absurd h1 (by decide)
    cases r <;> simp [pre2, this]
  have hsz : (ByteArray.mk (b :: r).toArray).size = r.length + 1 := rfl
  have hlen' : r.length ≤ 140737488351232 := by simp at hlen; omega
  have hi0 : ∀ h, (ByteArray.mk (b :: r).toArray)[0]'h = b := fun _ => rfl
  have h3 : b.toNat ≠ 92 := by omega
  go_enter Try.func127, Try.ntmps127
  go_wp2_with (first | (go_at_call 156; refine (hasPrefix_two _ _ _ _ hlen).mono ?_; rintro e w1 ⟨rfl, rfl⟩) | (go_at_call 87; refine (indexByte_hexLit _ _).mono ?_; rintro e w1 ⟨rfl, rfl⟩) | (go_at_call 157; refine (impl_isPrintable_yes _ _ (by omega) (by omega)).mono ?_; rintro e w1 ⟨rfl, rfl⟩) | (go_at_call 157; refine (impl_isPrintable_no _ _ (by omega)).mono ?_; rintro e w1 ⟨rfl, rfl⟩))
  exact ⟨rfl, rfl, rfl⟩
theorem wraps_i64' (n : Int) (h₀ : 0 ≤ n) (h₁ : n < 2 ^ 62) : IntKind.i64.wrap n = n := by rw [IntKind.wrap_i64]; omega
theorem or_hex (H l : Nat) (hH : H < 16) (hl : l < 16) : bits .or .i64 ((H : Int) * 16) (l : Int) = (16 * H + l : Nat) := by
  rw [bits_join .i64 62 (by decide) wraps_i64' 4 ((H : Int) * 16) l (by omega) (by omega) (by omega) (by omega) (by omega) (by omega)]
  omega
theorem impl_unescapeByte_end (s : ByteArray) (k : Nat) (w : World) (hk : k < s.size) (hs : s.size ≤ 1073741824) (hL : s.extract k s.size = ⟨([92]).toArray⟩) (hlen : ([92]).length ≤ 140737488351232) :
    Calls Try.prog 127 #[.string s, .int .i64 k] w fun e w' => e = .panicked [{ v := .iface 76 (.int .i64 k), recovered := false }] ∧ w = w' := by
  have h92 : pre2 ([92]) 92 92 = false := rfl
  have h110 : pre2 ([92]) 92 110 = false := rfl
  have h120 : pre2 ([92]) 92 120 = false := rfl
  have hsz : (ByteArray.mk ([92]).toArray).size = 1 := rfl
  have hi0 : ∀ hh, (ByteArray.mk ([92]).toArray)[0]'hh = 92 := fun _ => rfl
  go_enter Try.func127, Try.ntmps127
  go_wp2_with (first | (go_at_call 156; refine (hasPrefix_two _ _ _ _ hlen).mono ?_; rintro e w1 ⟨rfl, rfl⟩) | (go_at_call 87; refine (indexByte_hexLit _ _).mono ?_; rintro e w1 ⟨rfl, rfl⟩) | (go_at_call 157; refine (impl_isPrintable_yes _ _ (by omega) (by omega)).mono ?_; rintro e w1 ⟨rfl, rfl⟩) | (go_at_call 157; refine (impl_isPrintable_no _ _ (by omega)).mono ?_; rintro e w1 ⟨rfl, rfl⟩))
  exact ⟨rfl, rfl, rfl⟩
theorem impl_unescapeByte_back (s : ByteArray) (k : Nat) (r : List UInt8) (w : World) (hk : k < s.size) (hs : s.size ≤ 1073741824) (hL : s.extract k s.size = ⟨(92 :: 92 :: r).toArray⟩) (hlen : (92 :: 92 :: r).length ≤ 140737488351232) :
    Calls Try.prog 127 #[.string s, .int .i64 k] w fun e w' => e = .returned (.tuple #[.int .u8 92, .int .i64 ((k : Int) + 2)]) ∧ w = w' := by
  have h92 : pre2 (92 :: 92 :: r) 92 92 = true := rfl
  have h110 : pre2 (92 :: 92 :: r) 92 110 = false := rfl
  have h120 : pre2 (92 :: 92 :: r) 92 120 = false := rfl
  have hsz : (ByteArray.mk (92 :: 92 :: r).toArray).size = r.length + 2 := rfl
  have hbound : r.length + 2 ≤ 140737488351232 := by simpa using hlen
  have hi0 : ∀ hh, (ByteArray.mk (92 :: 92 :: r).toArray)[0]'hh = 92 := fun _ => rfl
  have hi1 : ∀ hh, (ByteArray.mk (92 :: 92 :: r).toArray)[1]'hh = 92 := fun _ => rfl
  go_enter Try.func127, Try.ntmps127
  go_wp2_with (first | (go_at_call 156; refine (hasPrefix_two _ _ _ _ hlen).mono ?_; rintro e w1 ⟨rfl, rfl⟩) | (go_at_call 87; refine (indexByte_hexLit _ _).mono ?_; rintro e w1 ⟨rfl, rfl⟩) | (go_at_call 157; refine (impl_isPrintable_yes _ _ (by omega) (by omega)).mono ?_; rintro e w1 ⟨rfl, rfl⟩) | (go_at_call 157; refine (impl_isPrintable_no _ _ (by omega)).mono ?_; rintro e w1 ⟨rfl, rfl⟩))
  go_ret2
  exact ⟨rfl, rfl⟩
theorem impl_unescapeByte_feed (s : ByteArray) (k : Nat) (r : List UInt8) (w : World) (hk : k < s.size) (hs : s.size ≤ 1073741824) (hL : s.extract k s.size = ⟨(92 :: 110 :: r).toArray⟩) (hlen : (92 :: 110 :: r).length ≤ 140737488351232) :
    Calls Try.prog 127 #[.string s, .int .i64 k] w fun e w' => e = .returned (.tuple #[.int .u8 10, .int .i64 ((k : Int) + 2)]) ∧ w = w' := by
  have h92 : pre2 (92 :: 110 :: r) 92 92 = false := rfl
  have h110 : pre2 (92 :: 110 :: r) 92 110 = true := rfl
  have h120 : pre2 (92 :: 110 :: r) 92 120 = false := rfl
  have hsz : (ByteArray.mk (92 :: 110 :: r).toArray).size = r.length + 2 := rfl
  have hbound : r.length + 2 ≤ 140737488351232 := by simpa using hlen
  have hi0 : ∀ hh, (ByteArray.mk (92 :: 110 :: r).toArray)[0]'hh = 92 := fun _ => rfl
  have hi1 : ∀ hh, (ByteArray.mk (92 :: 110 :: r).toArray)[1]'hh = 110 := fun _ => rfl
  go_enter Try.func127, Try.ntmps127
  go_wp2_with (first | (go_at_call 156; refine (hasPrefix_two _ _ _ _ hlen).mono ?_; rintro e w1 ⟨rfl, rfl⟩) | (go_at_call 87; refine (indexByte_hexLit _ _).mono ?_; rintro e w1 ⟨rfl, rfl⟩) | (go_at_call 157; refine (impl_isPrintable_yes _ _ (by omega) (by omega)).mono ?_; rintro e w1 ⟨rfl, rfl⟩) | (go_at_call 157; refine (impl_isPrintable_no _ _ (by omega)).mono ?_; rintro e w1 ⟨rfl, rfl⟩))
  go_ret2
  exact ⟨rfl, rfl⟩
theorem impl_unescapeByte_other (s : ByteArray) (k : Nat) (c : UInt8) (r : List UInt8) (w : World) (hk : k < s.size) (hs : s.size ≤ 1073741824) (hL : s.extract k s.size = ⟨(92 :: c :: r).toArray⟩) (hlen : (92 :: c :: r).length ≤ 140737488351232) (h1 : c.toNat ≠ 92) (h2 : c.toNat ≠ 110) (h3 : c.toNat ≠ 120) :
    Calls Try.prog 127 #[.string s, .int .i64 k] w fun e w' => e = .panicked [{ v := .iface 76 (.int .i64 k), recovered := false }] ∧ w = w' := by
  have h92 : pre2 (92 :: c :: r) 92 92 = false := (by simp only [pre2, beq_self_eq_true, Bool.true_and, beq_eq_false_iff_ne]; intro e; subst e; first | exact h1 rfl | exact h2 rfl | exact h3 rfl)
  have h110 : pre2 (92 :: c :: r) 92 110 = false := (by simp only [pre2, beq_self_eq_true, Bool.true_and, beq_eq_false_iff_ne]; intro e; subst e; first | exact h1 rfl | exact h2 rfl | exact h3 rfl)
  have h120 : pre2 (92 :: c :: r) 92 120 = false := (by simp only [pre2, beq_self_eq_true, Bool.true_and, beq_eq_false_iff_ne]; intro e; subst e; first | exact h1 rfl | exact h2 rfl | exact h3 rfl)
  have hsz : (ByteArray.mk (92 :: c :: r).toArray).size = r.length + 2 := rfl
  have hbound : r.length + 2 ≤ 140737488351232 := by simpa using hlen
  have hi0 : ∀ hh, (ByteArray.mk (92 :: c :: r).toArray)[0]'hh = 92 := fun _ => rfl
  have hi1 : ∀ hh, (ByteArray.mk (92 :: c :: r).toArray)[1]'hh = c := fun _ => rfl
  go_enter Try.func127, Try.ntmps127
  go_wp2_with (first | (go_at_call 156; refine (hasPrefix_two _ _ _ _ hlen).mono ?_; rintro e w1 ⟨rfl, rfl⟩) | (go_at_call 87; refine (indexByte_hexLit _ _).mono ?_; rintro e w1 ⟨rfl, rfl⟩) | (go_at_call 157; refine (impl_isPrintable_yes _ _ (by omega) (by omega)).mono ?_; rintro e w1 ⟨rfl, rfl⟩) | (go_at_call 157; refine (impl_isPrintable_no _ _ (by omega)).mono ?_; rintro e w1 ⟨rfl, rfl⟩))
  exact ⟨rfl, rfl, rfl⟩
theorem impl_unescapeByte_short0 (s : ByteArray) (k : Nat) (w : World) (hk : k < s.size) (hs : s.size ≤ 1073741824) (hL : s.extract k s.size = ⟨([92, 120]).toArray⟩) (hlen : ([92, 120]).length ≤ 140737488351232) :
    Calls Try.prog 127 #[.string s, .int .i64 k] w fun e w' => e = .panicked [{ v := .iface 76 (.int .i64 k), recovered := false }] ∧ w = w' := by
  have h92 : pre2 ([92, 120]) 92 92 = false := rfl
  have h110 : pre2 ([92, 120]) 92 110 = false := rfl
  have h120 : pre2 ([92, 120]) 92 120 = true := rfl
  have hsz : (ByteArray.mk ([92, 120]).toArray).size = 2 := rfl
  have hi0 : ∀ hh, (ByteArray.mk ([92, 120]).toArray)[0]'hh = 92 := fun _ => rfl
  have hi1 : ∀ hh, (ByteArray.mk ([92, 120]).toArray)[1]'hh = 120 := fun _ => rfl
  go_enter Try.func127, Try.ntmps127
  go_wp2_with (first | (go_at_call 156; refine (hasPrefix_two _ _ _ _ hlen).mono ?_; rintro e w1 ⟨rfl, rfl⟩) | (go_at_call 87; refine (indexByte_hexLit _ _).mono ?_; rintro e w1 ⟨rfl, rfl⟩) | (go_at_call 157; refine (impl_isPrintable_yes _ _ (by omega) (by omega)).mono ?_; rintro e w1 ⟨rfl, rfl⟩) | (go_at_call 157; refine (impl_isPrintable_no _ _ (by omega)).mono ?_; rintro e w1 ⟨rfl, rfl⟩))
  exact ⟨rfl, rfl, rfl⟩
theorem impl_unescapeByte_short1 (s : ByteArray) (k : Nat) (h : UInt8) (w : World) (hk : k < s.size) (hs : s.size ≤ 1073741824) (hL : s.extract k s.size = ⟨([92, 120, h]).toArray⟩) (hlen : ([92, 120, h]).length ≤ 140737488351232) :
    Calls Try.prog 127 #[.string s, .int .i64 k] w fun e w' => e = .panicked [{ v := .iface 76 (.int .i64 k), recovered := false }] ∧ w = w' := by
  have h92 : pre2 ([92, 120, h]) 92 92 = false := rfl
  have h110 : pre2 ([92, 120, h]) 92 110 = false := rfl
  have h120 : pre2 ([92, 120, h]) 92 120 = true := rfl
  have hsz : (ByteArray.mk ([92, 120, h]).toArray).size = 3 := rfl
  have hi0 : ∀ hh, (ByteArray.mk ([92, 120, h]).toArray)[0]'hh = 92 := fun _ => rfl
  have hi1 : ∀ hh, (ByteArray.mk ([92, 120, h]).toArray)[1]'hh = 120 := fun _ => rfl
  have hi2 : ∀ hh, (ByteArray.mk ([92, 120, h]).toArray)[2]'hh = h := fun _ => rfl
  go_enter Try.func127, Try.ntmps127
  go_wp2_with (first | (go_at_call 156; refine (hasPrefix_two _ _ _ _ hlen).mono ?_; rintro e w1 ⟨rfl, rfl⟩) | (go_at_call 87; refine (indexByte_hexLit _ _).mono ?_; rintro e w1 ⟨rfl, rfl⟩) | (go_at_call 157; refine (impl_isPrintable_yes _ _ (by omega) (by omega)).mono ?_; rintro e w1 ⟨rfl, rfl⟩) | (go_at_call 157; refine (impl_isPrintable_no _ _ (by omega)).mono ?_; rintro e w1 ⟨rfl, rfl⟩))
  exact ⟨rfl, rfl, rfl⟩
theorem impl_unescapeByte_hex (s : ByteArray) (k : Nat) (h l : UInt8) (r : List UInt8) (w : World) (hk : k < s.size) (hs : s.size ≤ 1073741824) (hL : s.extract k s.size = ⟨(92 :: 120 :: h :: l :: r).toArray⟩) (hlen : (92 :: 120 :: h :: l :: r).length ≤ 140737488351232) (g1 : hexV h < 16) (g2 : hexV l < 16) :
    Calls Try.prog 127 #[.string s, .int .i64 k] w fun e w' => e = .returned (.tuple #[.int .u8 ((16 * hexV h + hexV l : Nat) : Int), .int .i64 ((k : Int) + 4)]) ∧ w = w' := by
  have h92 : pre2 (92 :: 120 :: h :: l :: r) 92 92 = false := rfl
  have h110 : pre2 (92 :: 120 :: h :: l :: r) 92 110 = false := rfl
  have h120 : pre2 (92 :: 120 :: h :: l :: r) 92 120 = true := rfl
  have hsz : (ByteArray.mk (92 :: 120 :: h :: l :: r).toArray).size = r.length + 4 := rfl
  have hbound : r.length + 4 ≤ 140737488351232 := by simpa using hlen
  have hi0 : ∀ hh, (ByteArray.mk (92 :: 120 :: h :: l :: r).toArray)[0]'hh = 92 := fun _ => rfl
  have hi1 : ∀ hh, (ByteArray.mk (92 :: 120 :: h :: l :: r).toArray)[1]'hh = 120 := fun _ => rfl
  have hi2 : ∀ hh, (ByteArray.mk (92 :: 120 :: h :: l :: r).toArray)[2]'hh = h := fun _ => rfl
  have hi3 : ∀ hh, (ByteArray.mk (92 :: 120 :: h :: l :: r).toArray)[3]'hh = l := fun _ => rfl
  have e1 : idxHex h = (hexV h : Int) := by unfold idxHex; rw [if_pos g1]
  have e2 : idxHex l = (hexV l : Int) := by unfold idxHex; rw [if_pos g2]
  have ho := or_hex (hexV h) (hexV l) g1 g2
  go_enter Try.func127, Try.ntmps127
  go_wp2_with (first | (go_at_call 156; refine (hasPrefix_two _ _ _ _ hlen).mono ?_; rintro e w1 ⟨rfl, rfl⟩) | (go_at_call 87; refine (indexByte_hexLit _ _).mono ?_; rintro e w1 ⟨rfl, rfl⟩) | (go_at_call 157; refine (impl_isPrintable_yes _ _ (by omega) (by omega)).mono ?_; rintro e w1 ⟨rfl, rfl⟩) | (go_at_call 157; refine (impl_isPrintable_no _ _ (by omega)).mono ?_; rintro e w1 ⟨rfl, rfl⟩))
  go_ret2
  exact ⟨rfl, rfl⟩
theorem impl_unescapeByte_nohex1 (s : ByteArray) (k : Nat) (h l : UInt8) (r : List UInt8) (w : World) (hk : k < s.size) (hs : s.size ≤ 1073741824) (hL : s.extract k s.size = ⟨(92 :: 120 :: h :: l :: r).toArray⟩) (hlen : (92 :: 120 :: h :: l :: r).length ≤ 140737488351232) (g1 : ¬ hexV h < 16) :
    Calls Try.prog 127 #[.string s, .int .i64 k] w fun e w' => e = .panicked [{ v := .iface 76 (.int .i64 k), recovered := false }] ∧ w = w' := by
  have h92 : pre2 (92 :: 120 :: h :: l :: r) 92 92 = false := rfl
  have h110 : pre2 (92 :: 120 :: h :: l :: r) 92 110 = false := rfl
  have h120 : pre2 (92 :: 120 :: h :: l :: r) 92 120 = true := rfl
  have hsz : (ByteArray.mk (92 :: 120 :: h :: l :: r).toArray).size = r.length + 4 := rfl
  have hbound : r.length + 4 ≤ 140737488351232 := by simpa using hlen
  have hi0 : ∀ hh, (ByteArray.mk (92 :: 120 :: h :: l :: r).toArray)[0]'hh = 92 := fun _ => rfl
  have hi1 : ∀ hh, (ByteArray.mk (92 :: 120 :: h :: l :: r).toArray)[1]'hh = 120 := fun _ => rfl
  have hi2 : ∀ hh, (ByteArray.mk (92 :: 120 :: h :: l :: r).toArray)[2]'hh = h := fun _ => rfl
  have hi3 : ∀ hh, (ByteArray.mk (92 :: 120 :: h :: l :: r).toArray)[3]'hh = l := fun _ => rfl
  have e1 : idxHex h = -1 := by unfold idxHex; rw [if_neg g1]
  go_enter Try.func127, Try.ntmps127
  go_wp2_with (first | (go_at_call 156; refine (hasPrefix_two _ _ _ _ hlen).mono ?_; rintro e w1 ⟨rfl, rfl⟩) | (go_at_call 87; refine (indexByte_hexLit _ _).mono ?_; rintro e w1 ⟨rfl, rfl⟩) | (go_at_call 157; refine (impl_isPrintable_yes _ _ (by omega) (by omega)).mono ?_; rintro e w1 ⟨rfl, rfl⟩) | (go_at_call 157; refine (impl_isPrintable_no _ _ (by omega)).mono ?_; rintro e w1 ⟨rfl, rfl⟩))
  exact ⟨rfl, rfl, rfl⟩
theorem impl_unescapeByte_nohex2 (s : ByteArray) (k : Nat) (h l : UInt8) (r : List UInt8) (w : World) (hk : k < s.size) (hs : s.size ≤ 1073741824) (hL : s.extract k s.size = ⟨(92 :: 120 :: h :: l :: r).toArray⟩) (hlen : (92 :: 120 :: h :: l :: r).length ≤ 140737488351232) (g1 : hexV h < 16) (g2 : ¬ hexV l < 16) :
    Calls Try.prog 127 #[.string s, .int .i64 k] w fun e w' => e = .panicked [{ v := .iface 76 (.int .i64 k), recovered := false }] ∧ w = w' := by
  have h92 : pre2 (92 :: 120 :: h :: l :: r) 92 92 = false := rfl
  have h110 : pre2 (92 :: 120 :: h :: l :: r) 92 110 = false := rfl
  have h120 : pre2 (92 :: 120 :: h :: l :: r) 92 120 = true := rfl
  have hsz : (ByteArray.mk (92 :: 120 :: h :: l :: r).toArray).size = r.length + 4 := rfl
  have hbound : r.length + 4 ≤ 140737488351232 := by simpa using hlen
  have hi0 : ∀ hh, (ByteArray.mk (92 :: 120 :: h :: l :: r).toArray)[0]'hh = 92 := fun _ => rfl
  have hi1 : ∀ hh, (ByteArray.mk (92 :: 120 :: h :: l :: r).toArray)[1]'hh = 120 := fun _ => rfl
  have hi2 : ∀ hh, (ByteArray.mk (92 :: 120 :: h :: l :: r).toArray)[2]'hh = h := fun _ => rfl
  have hi3 : ∀ hh, (ByteArray.mk (92 :: 120 :: h :: l :: r).toArray)[3]'hh = l := fun _ => rfl
  have e1 : idxHex h = (hexV h : Int) := by unfold idxHex; rw [if_pos g1]
  have e2 : idxHex l = -1 := by unfold idxHex; rw [if_neg g2]
  go_enter Try.func127, Try.ntmps127
  go_wp2_with (first | (go_at_call 156; refine (hasPrefix_two _ _ _ _ hlen).mono ?_; rintro e w1 ⟨rfl, rfl⟩) | (go_at_call 87; refine (indexByte_hexLit _ _).mono ?_; rintro e w1 ⟨rfl, rfl⟩) | (go_at_call 157; refine (impl_isPrintable_yes _ _ (by omega) (by omega)).mono ?_; rintro e w1 ⟨rfl, rfl⟩) | (go_at_call 157; refine (impl_isPrintable_no _ _ (by omega)).mono ?_; rintro e w1 ⟨rfl, rfl⟩))
  exact ⟨rfl, rfl, rfl⟩
end Go.Proofs.Ytodmohepgmhipaa

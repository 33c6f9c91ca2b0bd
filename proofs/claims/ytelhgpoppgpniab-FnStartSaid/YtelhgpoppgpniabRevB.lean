/-
  Chapter 14: slices.Reverse at bytes, and a text turned round (impl.reversed).
-/
import Derived.Test.YtelhgpoppgpniabL1Folded
import Derived.Test.YtelhgpoppgpniabDistFacts
import Derived.Outline
namespace Go.Proofs.Ytelhgpoppgpniab
open Go.RowKit
set_option linter.unusedVariables false
set_option maxRecDepth 100000
/-- what stands at place q when i of both ends have changed places -/
def revAt (F : Nat → UInt8) (n i q : Nat) : UInt8 := if q < i ∨ n ≤ q + i then F (n - 1 - q) else F q
theorem revAt_zero (F : Nat → UInt8) (n q : Nat) (h : q < n) : revAt F n 0 q = F q := if_neg (by omega)
theorem revAt_end (F : Nat → UInt8) (n i q : Nat) (h : q < n) (h1 : 2 * i ≤ n) (h2 : n ≤ 2 * i + 1) : revAt F n i q = F (n - 1 - q) := by
  unfold revAt
  by_cases h3 : q < i ∨ n ≤ q + i
  · rw [if_pos h3]
  · rw [if_neg h3]; congr 1; omega
theorem revAt_low (F : Nat → UInt8) (n i : Nat) (h : i < n) : revAt F n (i + 1) i = F (n - 1 - i) := if_pos (by omega)
theorem revAt_high (F : Nat → UInt8) (n i : Nat) (h : 2 * i + 1 < n) : revAt F n (i + 1) (n - 1 - i) = F i := by
  unfold revAt; rw [if_pos (by omega)]; congr 1; omega
theorem revAt_mid (F : Nat → UInt8) (n i q : Nat) (h : q < n) (h1 : q ≠ i) (h2 : q ≠ n - 1 - i) : revAt F n (i + 1) q = revAt F n i q := by
  unfold revAt
  by_cases h3 : q < i ∨ n ≤ q + i
  · rw [if_pos h3, if_pos (by omega)]
  · rw [if_neg h3, if_neg (by omega)]
theorem revAt_now (F : Nat → UInt8) (n i : Nat) (h : 2 * i + 1 < n) : revAt F n i i = F i ∧ revAt F n i (n - 1 - i) = F (n - 1 - i) := by
  unfold revAt
  rw [if_neg (by omega), if_neg (by omega)]; exact ⟨rfl, rfl⟩
set_option maxHeartbeats 2000000 in
theorem rev_bytes (b n cap : Nat) (F : Nat → UInt8) (w : World) (hn : n ≤ 140737488351232) (hbl : b < w.heap.size) (hc : ∀ q, q < n → w.cell? ⟨b, q, none⟩ = some (.int .u8 (F q).toNat)) (hf : ∀ q, q < n → w.frozen? ⟨b, q, none⟩ = false) :
    Calls Try.prog 101 #[.slice (some ⟨b, 0, none⟩) n cap] w fun e w' => e = .returned (.tuple #[]) ∧ (∀ q, q < n → w'.cell? ⟨b, q, none⟩ = some (.int .u8 (F (n - 1 - q)).toNat)) ∧ Below b w w' := by
  have HC := Lib.hid hc; have HF := Lib.hid hf
  clear hc hf
  go_enter Try.func101, Try.ntmps101
  go_wp2
  go_loopw [2, 3] (fun x y wr => ∃ i : Nat, 2 * i ≤ n ∧ x = .int .i64 (i : Int) ∧ y = .int .i64 ((n : Int) - 1 - (i : Int)) ∧ (∀ q, q < n → wr.cell? ⟨b, q, none⟩ = some (.int .u8 (revAt F n i q).toNat)) ∧ (∀ q, q < n → wr.frozen? ⟨b, q, none⟩ = false) ∧ Below b w wr)
    (fun x _ _ => n - (intOf x).toNat)
  case atStart => exact ⟨0, by omega, rfl, by go_num, fun q hq => by rw [revAt_zero F n q hq]; exact HC.out q hq, HF.out, Below.refl _ _⟩
  case round =>
    obtain ⟨i, hi, rfl, rfl, hcs, hfs, hb⟩ := hrel
    by_cases hlt : 2 * i + 1 < n
    · have hx : ((n : Int) - 1 - (i : Int)) = ((n - 1 - i : Nat) : Int) := by omega
      have hx2 : ((n : Int) - 1 - ((i + 1 : Nat) : Int)) = ((n - 1 - i : Nat) : Int) - 1 := by omega
      obtain ⟨r1, r2⟩ := revAt_now F n i hlt
      have ci := hcs i (by omega)
      have cj := hcs (n - 1 - i) (by omega)
      have fi := hfs i (by omega)
      have fj := hfs (n - 1 - i) (by omega)
      rw [r1] at ci
      rw [r2] at cj
      have HL := Lib.hid (revAt_low F n i (by omega))
      have HH := Lib.hid (revAt_high F n i hlt)
      have HM := Lib.hid (fun q (hq : q < n) (h1 : q ≠ i) (h2 : q ≠ n - 1 - i) => revAt_mid F n i q hq h1 h2)
      have hij : i < n - 1 - i := by omega
      have hjn : n - 1 - i < n := by omega
      rw [hx]
      obtain ⟨j, hj⟩ : ∃ j, n - 1 - i = j := ⟨_, rfl⟩
      rw [hj] at cj fj HL HH HM hij hjn hx2 ⊢
      have HX2 := Lib.hid hx2; have HCS := Lib.hid hcs; have HFS := Lib.hid hfs
      have ui := (F i).toNat_lt
      have uj := (F j).toNat_lt
      have hb0 : b < wr.heap.size := by have := hb.size; omega
      obtain ⟨X, hX⟩ : ∃ X, F i = X := ⟨_, rfl⟩
      obtain ⟨Y, hY⟩ : ∃ Y, F j = Y := ⟨_, rfl⟩
      rw [hX] at ci HH ui
      rw [hY] at cj HL uj
      have k0 : (i : Int) < (j : Int) := by omega
      have k1 : (j : Int) < (n : Int) := by omega
      have k2 : (i : Int) < (n : Int) := by omega
      have hne : ¬ i = j := by omega
      have hne2 : ¬ j = i := by omega
      clear hx hx2 hj hcs hfs r1 r2 hX hY
      go_wp2_with fail
      go_region
      go_wp2
      go_roundw
      case rel =>
        refine ⟨i + 1, by omega, by go_num, by rw [HX2.out], fun q hq => ?_, fun q hq => ?_, ?_⟩
        · by_cases h1 : q = i
          · subst h1
            rw [HL.out]
            go_simp
          · by_cases h2 : q = j
            · subst h2
              rw [HH.out]
              go_simp
            · rw [HM.out q hq h1 h2]
              have := HCS.out q hq
              go_simp
        · have := HFS.out q hq
          go_simp
        · exact ((hb.drew.setCell (Nat.le_refl _) _).setCell (Nat.le_refl _) _)
      case measure => simp [intOf]; omega
    · have HE := fun q (hq : q < n) => revAt_end F n i q hq hi (by omega)
      have k0 : ¬ (i : Int) < (n : Int) - 1 - (i : Int) := by omega
      have HH := Lib.hid (fun q (hq : q < n) => (HE q hq) ▸ hcs q hq)
      clear HE hcs hfs
      go_wp2
      go_end0
      exact ⟨rfl, HH.out, hb⟩
theorem byteAt_data (s : ByteArray) (q : Nat) (h : q < s.size) : byteAt s q = s.data[q]'h := by
  unfold byteAt
  rw [List.getD_eq_getElem?_getD, List.getElem?_eq_getElem (show q < s.data.toList.length by simpa using h), Array.getElem_toList]; rfl
set_option maxHeartbeats 2000000 in
theorem impl_reversed (s : ByteArray) (w : World) (hs : s.size ≤ 1048576) :
    Calls Try.prog 62 #[.string s] w fun e w' => e = .returned (.string (backS s)) ∧ Below w.heap.size w w' := by
  have hcv := run_bytes_of_string (P := Try.prog) w 9 22 5 s Try.underlying9 Try.underlying22 Try.underlying5
  have hge := grownCap_ge w s.size 0 5
  obtain ⟨cap, hcap⟩ : ∃ cap, grownCap w s.size 0 5 = cap := ⟨_, rfl⟩
  rw [hcap] at hcv hge
  have hrz := bytesRow_size s cap hge
  rw [hrz] at hcv
  have hrow : (w.drew.alloc (.cells (bytesRow s cap) 5 (cap, cap + 1))).heap[w.heap.size]? = some (.cells (bytesRow s cap) 5 (cap, cap + 1)) := World.alloc_heap_new w.drew _
  have hBV : Below w.heap.size w (w.drew.alloc (.cells (bytesRow s cap) 5 (cap, cap + 1))) := (Below.refl _ w).drew.alloc (Nat.le_refl _) _
  have hzV : w.heap.size < (w.drew.alloc (.cells (bytesRow s cap) 5 (cap, cap + 1))).heap.size := by simp
  generalize (w.drew.alloc (.cells (bytesRow s cap) 5 (cap, cap + 1))) = V at *
  have hc : ∀ q, q < s.size → V.cell? ⟨w.heap.size, q, none⟩ = some (.int .u8 (byteAt s q).toNat) := fun q hq => by
    rw [cell_of_row V _ q _ _ _ hrow, bytesRow_at s cap q hq, byteAt_data s q hq]
  have hf : ∀ q, q < s.size → V.frozen? ⟨w.heap.size, q, none⟩ = false := fun q hq => frozen_of_mark (j := q) hrow (by omega)
  have HC := Lib.hid hc; have HF := Lib.hid hf
  clear hrow hc hf hcap hrz
  go_enter Try.func62, Try.ntmps62
  go_wp2_with fail
  refine (rev_bytes w.heap.size s.size cap (byteAt s) V (by omega) hzV HC.out HF.out).mono ?_
  rintro e w1 ⟨rfl, hc1, hb1⟩
  have hlen : (bl s).reverse.length = s.size := by rw [List.length_reverse, bl_len]
  have hcv2 := run_convert_bytes_back (P := Try.prog) w1 22 9 5 ⟨w.heap.size, 0, none⟩ cap (bl s).reverse Try.underlying22 Try.underlying5 Try.underlying9 (fun j hj => by
    have hj' : j < s.size := by rw [hlen] at hj; exact hj
    rw [addr_add0, hc1 j hj', List.getElem_reverse]
    congr 3
    rw [byteAt_data s _ (by omega)]
    unfold bl
    rw [Array.getElem_toList]
    congr 1)
  rw [hlen] at hcv2
  have HB := Lib.hid (hBV.trans hb1)
  clear hc1 hlen hBV hb1 hcv
  go_wp2
  go_ret
  exact ⟨rfl, HB.out⟩
end Go.Proofs.Ytelhgpoppgpniab

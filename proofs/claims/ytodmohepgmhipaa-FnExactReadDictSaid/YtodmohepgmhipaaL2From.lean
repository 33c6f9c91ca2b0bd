/-
  Chapter 2: contracts of unescapeFrom and Unescaped, in the program.
-/
import Derived.Test.YtodmohepgmhipaaL2Un
import Derived.Defers
import Derived.Recover
namespace Go.Proofs.Ytodmohepgmhipaa
open Go.RowKit
set_option linter.unusedVariables false
set_option maxRecDepth 100000
theorem extract_drop (s : ByteArray) (k : Nat) : s.extract k s.size = ⟨(s.data.toList.drop k).toArray⟩ := by
  apply ByteArray.ext
  rw [ByteArray.data_extract]
  apply Array.toList_inj.1
  rw [Array.toList_extract]
  simp only [List.extract_eq_take_drop]
  rw [List.take_of_length_le (by simp)]
theorem byte_of {b : UInt8} {n : Nat} (h : b.toNat = n) (hn : n < 256) : b = UInt8.ofNat n := by
  apply UInt8.toNat_inj.1
  rw [h, UInt8.toNat_ofNat']; omega
theorem impl_unescapeByte_some (s : ByteArray) (k : Nat) (L : List UInt8) (w : World) (hk : k < s.size) (hs : s.size ≤ 1073741824) (hL : s.extract k s.size = ⟨L.toArray⟩) (hlen : L.length ≤ 140737488351232) (b : UInt8) (n : Nat) (h : unStep L = some (b, n)) :
    Calls Try.prog 127 #[.string s, .int .i64 k] w fun e w' => e = .returned (.tuple #[.int .u8 (b.toNat : Int), .int .i64 ((k + n : Nat) : Int)]) ∧ w = w' := by
  unfold unStep at h
  split at h
  · cases h
  · rename_i x r
    split at h
    · cases h
    · split at h
      · simp only [Option.some.injEq, Prod.mk.injEq] at h
        obtain ⟨rfl, rfl⟩ := h
        exact impl_unescapeByte_plain s k x r w hk hs hL hlen (by omega) (by omega) (by omega)
      · have hx : x = 92 := byte_of (n := 92) (by omega) (by decide)
        subst hx
        split at h
        · cases h
        · rename_i c r2
          split at h
          · rename_i hc
            have hc' : c = 92 := byte_of (n := 92) hc (by decide)
            subst hc'
            simp only [Option.some.injEq, Prod.mk.injEq] at h
            obtain ⟨rfl, rfl⟩ := h
            exact impl_unescapeByte_back s k r2 w hk hs hL hlen
          · split at h
            · rename_i hc
              have hc' : c = 110 := byte_of (n := 110) hc (by decide)
              subst hc'
              simp only [Option.some.injEq, Prod.mk.injEq] at h
              obtain ⟨rfl, rfl⟩ := h
              exact impl_unescapeByte_feed s k r2 w hk hs hL hlen
            · split at h
              · rename_i hc
                have hc' : c = 120 := byte_of (n := 120) hc (by decide)
                subst hc'
                split at h
                · rename_i hh l r3
                  split at h
                  · rename_i hg
                    simp only [Option.some.injEq, Prod.mk.injEq] at h
                    obtain ⟨rfl, rfl⟩ := h
                    have e1 : ((UInt8.ofNat (16 * hexV hh + hexV l)).toNat) = 16 * hexV hh + hexV l := by rw [UInt8.toNat_ofNat']; omega
                    rw [e1]
                    exact impl_unescapeByte_hex s k hh l r3 w hk hs hL hlen hg.1 hg.2
                  · cases h
                · cases h
              · cases h
theorem impl_unescapeByte_none (s : ByteArray) (k : Nat) (L : List UInt8) (w : World) (hk : k < s.size) (hs : s.size ≤ 1073741824) (hL : s.extract k s.size = ⟨L.toArray⟩) (hlen : L.length ≤ 140737488351232) (hne : L ≠ []) (h : unStep L = none) :
    Calls Try.prog 127 #[.string s, .int .i64 k] w fun e w' => e = .panicked [{ v := .iface 76 (.int .i64 k), recovered := false }] ∧ w = w' := by
  unfold unStep at h
  split at h
  · exact absurd rfl hne
  · rename_i x r
    split at h
    · rename_i hb
      exact impl_unescapeByte_bad s k x r w hk hs hL hlen hb
    · split at h
      · cases h
      · have hx : x = 92 := byte_of (n := 92) (by omega) (by decide)
        subst hx
        split at h
        · exact impl_unescapeByte_end s k w hk hs hL hlen
        · rename_i c r2
          split at h
          · cases h
          · rename_i h1
            split at h
            · cases h
            · rename_i h2
              split at h
              · rename_i hc
                have hc' : c = 120 := byte_of (n := 120) hc (by decide)
                subst hc'
                split at h
                · rename_i hh l r3
                  split at h
                  · cases h
                  · rename_i hg
                    by_cases g1 : hexV hh < 16
                    · exact impl_unescapeByte_nohex2 s k hh l r3 w hk hs hL hlen g1 (fun g2 => hg ⟨g1, g2⟩)
                    · exact impl_unescapeByte_nohex1 s k hh l r3 w hk hs hL hlen g1
                · rename_i hsh
                  match r2, hsh with
                  | [], _ => exact impl_unescapeByte_short0 s k w hk hs hL hlen
                  | [q], _ => exact impl_unescapeByte_short1 s k q w hk hs hL hlen
                  | q :: t :: u, hsh => exact absurd rfl (hsh q t u)
              · rename_i h3
                exact impl_unescapeByte_other s k c r2 w hk hs hL hlen h1 h2 h3
/-- what reading an escaped text comes to -/
def UnPost (r : Except Nat (List UInt8)) (e : Ending) : Prop :=
  match r with
  | .ok l => e = .returned (.string ⟨l.toArray⟩)
  | .error p => e = .panicked [{ v := .iface 76 (.int .i64 (p : Int)), recovered := false }]
/-- what was read so far, ahead of what is to come -/
def onto (acc : List UInt8) (r : Except Nat (List UInt8)) : Except Nat (List UInt8) :=
  match r with
  | .ok l => .ok (acc ++ l)
  | .error p => .error p
set_option maxHeartbeats 400000 in
theorem impl_unescapeFrom (s : ByteArray) (k0 : Nat) (w : World) (hk0 : k0 ≤ s.size) (hs : s.size ≤ 1073741824) :
    Calls Try.prog 94 #[.string s, .int .i64 k0] w fun e w' => UnPost (unL s.size (s.data.toList.drop k0) k0) e ∧ Below w.heap.size w w' := by
  obtain ⟨i0, hi, hz0, hz1, hz2⟩ := info_parts byte_info
  have hdl : s.data.toList.length = s.size := Array.length_toList
  obtain ⟨R0, hR0⟩ : ∃ R0, unL s.size (s.data.toList.drop k0) k0 = R0 := ⟨_, rfl⟩
  rw [hR0]
  go_enter Try.func94, Try.ntmps94
  go_wp2
  go_loopw [1, 5] (fun i v wr => ∃ (k : Nat) (acc : List UInt8), k ≤ s.size ∧ acc.length ≤ k ∧ i = .int .i64 k ∧ R0 = onto acc (unL s.size (s.data.toList.drop k) k) ∧ wr.ownsRow w.heap.size 5 1 v acc.length (acc.map byteVal) ∧ Below w.heap.size w wr)
    (fun i _ _ => s.size - (intOf i).toNat)
  case atStart => exact ⟨k0, [], hk0, by simp, rfl, by rw [← hR0]; unfold onto; split <;> simp_all, World.ownsRow_nil _ _ _ _, Below.refl _ _⟩
  case round =>
    obtain ⟨k, acc, hk, hacc, rfl, hR, hown, hb⟩ := hrel
    by_cases hlt : k < s.size
    · have hne : s.data.toList.drop k ≠ [] := by intro e; have := congrArg List.length e; simp at this; omega
      have hlen : (s.data.toList.drop k).length ≤ 140737488351232 := by simp; omega
      have hLx := extract_drop s k
      cases hu : unStep (s.data.toList.drop k) with
      | none =>
        have hRe : R0 = .error k := by rw [hR, unL_none (by omega) hne hu]; rfl
        have HRe := Lib.hid hRe
        have HC := fun (w : World) => impl_unescapeByte_none s k _ w hlt hs hLx hlen hne hu
        clear hR hRe hLx hu hR0
        go_wp2_with fail
        refine (HC _).mono ?_
        rintro e w1 ⟨rfl, rfl⟩
        clear HC
        go_wp2_with fail
        exact ⟨rfl, by rw [HRe.out]; rfl, hb⟩
      | some x =>
        obtain ⟨b, n⟩ := x
        have hn := unStep_len hu
        have hkn : k + n ≤ s.size := by have := hn.2; simp at this; omega
        have hRe : R0 = onto (acc ++ [b]) (unL s.size (s.data.toList.drop (k + n)) (k + n)) := by
          rw [hR, unL_step hne (by simp) hu, List.drop_drop]
          unfold onto
          cases unL s.size (List.drop (k + n) s.data.toList) (k + n) <;> simp
        have HRe := Lib.hid hRe
        have HC := fun (w : World) => impl_unescapeByte_some s k _ w hlt hs hLx hlen b n hu
        have hn1 := hn.1
        clear hR hRe hLx hu hR0 hn hne hlen
        go_wp2_with fail
        refine (HC _).mono ?_
        rintro e w1 ⟨rfl, rfl⟩
        clear HC
        go_wp2_with (at_builtin; refine wpList_append_own _ rfl _ _ 128 rfl w.heap.size 5 i0 (.int .u8 0) 1 1 Try.underlying128 hi hz0 hz1 hz2 rfl (by decide) _ _ _ rfl (hown.alloc _) ⟨wr.heap.size, 0, none⟩ 1 1 _ rfl rfl (cells_new _ _ _) (one_all rfl) (by unfold maxLen; omega) (by omega) (by have := hb.size; simp; omega) ?_; intro v' w1 hown' hg _)
        have hown2 := own_cat (X := [b]) hown' rfl rfl
        have hb' := (hb.alloc hb.size _).grown hg (by have := hb.size; simp; omega) (fun j hj => (hown.lt j hj).1)
        clear hown hb hg hown'
        go_roundw
        case rel => exact ⟨k + n, acc ++ [b], hkn, by simp; omega, rfl, HRe.out, hown2, hb'⟩
        case measure => simp [intOf]; omega
    · obtain rfl : k = s.size := by omega
      have hRe : R0 = .ok acc := by
        rw [hR, List.drop_of_length_le (by omega), unL_nil]; simp [onto]
      have HRe := Lib.hid hRe
      clear hR hRe hR0
      have hcv := run_owned_string (P := Try.prog) (w := wr) (src := 128) (dst := 9) (e := 5) Try.underlying128 Try.underlying5 Try.underlying9 _ hown
      go_wp2
      go_ret
      exact ⟨by rw [HRe.out]; rfl, hb⟩

/-- what Unescaped answers -/
def unText (r : Except Nat (List UInt8)) : ByteArray := match r with
  | .ok l => ⟨l.toArray⟩
  | .error _ => ⟨#[]⟩
def unOk (r : Except Nat (List UInt8)) : Bool := match r with
  | .ok _ => true
  | .error _ => false
def unAll (s : ByteArray) : Except Nat (List UInt8) := unL s.size s.data.toList 0
end Go.Proofs.Ytodmohepgmhipaa

/-
  Chapter 2: contract of what reads a number, in the program.
-/
import Derived.Test.YtodmohepgmhipaaL2Num2
namespace Go.Proofs.Ytodmohepgmhipaa
open Go.RowKit
set_option linter.unusedVariables false
set_option maxRecDepth 100000
theorem ne_nil (s : ByteArray) (h : 0 < s.size) : (s.toList == []) = false := by
  rw [ByteArray.toList_eq]
  apply beq_eq_false_iff_ne.2
  intro e
  have h1 : s.data.toList.length = 0 := by rw [e]; rfl
  rw [Array.length_toList] at h1
  have h2 : s.data.size = s.size := rfl
  omega
set_option maxHeartbeats 400000 in
theorem impl_readDecimal (s : ByteArray) (w : World) (hs : s.size ≤ 1073741824) :
    Calls Try.prog 93 #[.string s] w fun e w' => e = .returned (.tuple #[.int .i64 (numV s), .bool (numOk s)]) ∧ w = w' := by
  by_cases h0 : s.size < 1
  · obtain rfl : s = ⟨#[]⟩ := ByteArray.ext (Array.eq_empty_of_size_eq_zero (by have : s.size = 0 := by omega
                                                                                exact this))
    go_enter Try.func93, Try.ntmps93
    go_wp2
    go_ret2
    exact ⟨rfl, rfl⟩
  · by_cases h9 : 9 < s.size
    · rw [numV_no (numOk_long s h9), numOk_long s h9]
      have he1 : (s.toList == []) = false := ne_nil s (by omega)
      go_enter Try.func93, Try.ntmps93
      go_wp2
      go_ret2
      exact ⟨rfl, rfl⟩
    · by_cases hz : s[0].toNat = 48 ∧ 1 < s.size
      · obtain ⟨hz, h1⟩ := hz
        rw [numV_no (numOk_nought s h1 hz), numOk_nought s h1 hz]
        obtain ⟨c, hc⟩ : ∃ c : UInt8, s[0] = c := ⟨_, rfl⟩
        rw [hc] at hz
        have hz2 : ((c.toNat : Int) == 48) = true := by simp; omega
        have he1 : (s.toList == []) = false := ne_nil s (by omega)
        go_enter Try.func93, Try.ntmps93
        go_wp2
        go_ret2
        exact ⟨rfl, rfl⟩
      · have hz1 : 1 < s.size → s[0].toNat ≠ 48 := fun a b => hz ⟨b, a⟩
        obtain ⟨c, hc⟩ : ∃ c : UInt8, s[0] = c := ⟨_, rfl⟩
        rw [hc] at hz
        have HZ1 := Lib.hid hz1
        have hlen1 : 1 ≤ s.size := by omega
        have he1 : (s.toList == []) = false := ne_nil s (by omega)
        by_cases hz2 : c.toNat = 48
        · have hz3 : ((c.toNat : Int) == 48) = true := by simp; omega
          have hz4 : ¬ 1 < s.size := fun a => hz ⟨hz2, a⟩
          clear hz hz1
          go_enter Try.func93, Try.ntmps93
          go_wp2
          go_loopw [4, 25] (fun n i wr => ∃ k : Nat, k ≤ s.size ∧ i = .int .i64 k ∧ n = .int .i64 (valL (s.data.toList.take k)) ∧ (∀ j (h : j < k) (h2 : j < s.size), isDig s[j] = true) ∧ w = wr)
            (fun _ i _ => s.size - (intOf i).toNat)
          case atStart => exact ⟨0, by omega, rfl, rfl, fun j hj => by omega, rfl⟩
          case round =>
            obtain ⟨k, hk, rfl, rfl, hd, rfl⟩ := hrel
            by_cases hlt : k < s.size
            · obtain ⟨b, hb⟩ : ∃ b : UInt8, s[k] = b := ⟨_, rfl⟩
              by_cases hlo : b.toNat < 48
              · have hn := numOk_nodig s k hlt (by rw [hb]; exact isDig_no (.inl hlo))
                have hlo2 : decide ((b.toNat : Int) < 48) = true := by simp; omega
                clear hd
                go_wp2
                go_ret2
                exact ⟨by rw [numV_no hn, hn]; rfl, rfl⟩
              · have hlo2 : decide ((b.toNat : Int) < 48) = false := by simp; omega
                by_cases hhi : 57 < b.toNat
                · have hn := numOk_nodig s k hlt (by rw [hb]; exact isDig_no (.inr hhi))
                  have hhi2 : decide (57 < (b.toNat : Int)) = true := by simp; omega
                  clear hd
                  go_wp2
                  go_ret2
                  exact ⟨by rw [numV_no hn, hn]; rfl, rfl⟩
                · have hhi2 : decide (57 < (b.toNat : Int)) = false := by simp; omega
                  have hv := valL_lt (s.data.toList.take k) (take_dig s k hd)
                  have hp := pow_le9 (s.data.toList.take k).length (by rw [List.length_take]; omega)
                  have HV : valL (s.data.toList.take (k + 1)) = valL (s.data.toList.take k) * 10 + (b.toNat - 48) := by rw [take_snoc s k hlt, valL_snoc, hb]
                  have HD := Lib.hid (fun j (h : j < k + 1) (h2 : j < s.size) => (by
                    by_cases hjk : j = k
                    · subst hjk; rw [hb]; exact isDig_yes (by omega) (by omega)
                    · exact hd j (by omega) h2 : isDig s[j] = true))
                  obtain ⟨V, hV⟩ : ∃ V, valL (s.data.toList.take k) = V := ⟨_, rfl⟩
                  rw [hV] at hv HV ⊢
                  have hVb : V < 1000000000 := by omega
                  have hsub : IntKind.u8.wrap ((b.toNat : Int) - 48) = ((b.toNat - 48 : Nat) : Int) := by rw [IntKind.wrap_u8]; omega
                  replace HV := Lib.hid HV
                  clear hd hv hp hV
                  go_wp2
                  go_roundw
                  case rel => exact ⟨k + 1, by omega, by go_num, by rw [HV.out]; congr 1 <;> omega, HD.out, by first | rfl | trivial⟩
                  case measure => simp [intOf]; omega
            · obtain rfl : k = s.size := by omega
              have hn := numOk_yes s hlen1 (by omega) HZ1.out (fun j h => hd j h h)
              rw [take_all]
              clear hd
              go_wp2
              go_ret2
              exact ⟨by rw [numV_yes hn, hn]; rfl, rfl⟩
        · have hz3 : ((c.toNat : Int) == 48) = false := by simp; omega
          clear hz hz1
          by_cases h1s : 1 < s.size
          · go_enter Try.func93, Try.ntmps93
            go_wp2
            go_loopw [4, 25] (fun n i wr => ∃ k : Nat, k ≤ s.size ∧ i = .int .i64 k ∧ n = .int .i64 (valL (s.data.toList.take k)) ∧ (∀ j (h : j < k) (h2 : j < s.size), isDig s[j] = true) ∧ w = wr)
              (fun _ i _ => s.size - (intOf i).toNat)
            case atStart => exact ⟨0, by omega, rfl, rfl, fun j hj => by omega, rfl⟩
            case round =>
              obtain ⟨k, hk, rfl, rfl, hd, rfl⟩ := hrel
              by_cases hlt : k < s.size
              · obtain ⟨b, hb⟩ : ∃ b : UInt8, s[k] = b := ⟨_, rfl⟩
                by_cases hlo : b.toNat < 48
                · have hn := numOk_nodig s k hlt (by rw [hb]; exact isDig_no (.inl hlo))
                  have hlo2 : decide ((b.toNat : Int) < 48) = true := by simp; omega
                  clear hd
                  go_wp2
                  go_ret2
                  exact ⟨by rw [numV_no hn, hn]; rfl, rfl⟩
                · have hlo2 : decide ((b.toNat : Int) < 48) = false := by simp; omega
                  by_cases hhi : 57 < b.toNat
                  · have hn := numOk_nodig s k hlt (by rw [hb]; exact isDig_no (.inr hhi))
                    have hhi2 : decide (57 < (b.toNat : Int)) = true := by simp; omega
                    clear hd
                    go_wp2
                    go_ret2
                    exact ⟨by rw [numV_no hn, hn]; rfl, rfl⟩
                  · have hhi2 : decide (57 < (b.toNat : Int)) = false := by simp; omega
                    have hv := valL_lt (s.data.toList.take k) (take_dig s k hd)
                    have hp := pow_le9 (s.data.toList.take k).length (by rw [List.length_take]; omega)
                    have HV : valL (s.data.toList.take (k + 1)) = valL (s.data.toList.take k) * 10 + (b.toNat - 48) := by rw [take_snoc s k hlt, valL_snoc, hb]
                    have HD := Lib.hid (fun j (h : j < k + 1) (h2 : j < s.size) => (by
                      by_cases hjk : j = k
                      · subst hjk; rw [hb]; exact isDig_yes (by omega) (by omega)
                      · exact hd j (by omega) h2 : isDig s[j] = true))
                    obtain ⟨V, hV⟩ : ∃ V, valL (s.data.toList.take k) = V := ⟨_, rfl⟩
                    rw [hV] at hv HV ⊢
                    have hVb : V < 1000000000 := by omega
                    have hsub : IntKind.u8.wrap ((b.toNat : Int) - 48) = ((b.toNat - 48 : Nat) : Int) := by rw [IntKind.wrap_u8]; omega
                    replace HV := Lib.hid HV
                    clear hd hv hp hV
                    go_wp2
                    go_roundw
                    case rel => exact ⟨k + 1, by omega, by go_num, by rw [HV.out]; congr 1 <;> omega, HD.out, by first | rfl | trivial⟩
                    case measure => simp [intOf]; omega
              · obtain rfl : k = s.size := by omega
                have hn := numOk_yes s hlen1 (by omega) HZ1.out (fun j h => hd j h h)
                rw [take_all]
                clear hd
                go_wp2
                go_ret2
                exact ⟨by rw [numV_yes hn, hn]; rfl, rfl⟩
          · go_enter Try.func93, Try.ntmps93
            go_wp2
            go_loopw [4, 25] (fun n i wr => ∃ k : Nat, k ≤ s.size ∧ i = .int .i64 k ∧ n = .int .i64 (valL (s.data.toList.take k)) ∧ (∀ j (h : j < k) (h2 : j < s.size), isDig s[j] = true) ∧ w = wr)
              (fun _ i _ => s.size - (intOf i).toNat)
            case atStart => exact ⟨0, by omega, rfl, rfl, fun j hj => by omega, rfl⟩
            case round =>
              obtain ⟨k, hk, rfl, rfl, hd, rfl⟩ := hrel
              by_cases hlt : k < s.size
              · obtain ⟨b, hb⟩ : ∃ b : UInt8, s[k] = b := ⟨_, rfl⟩
                by_cases hlo : b.toNat < 48
                · have hn := numOk_nodig s k hlt (by rw [hb]; exact isDig_no (.inl hlo))
                  have hlo2 : decide ((b.toNat : Int) < 48) = true := by simp; omega
                  clear hd
                  go_wp2
                  go_ret2
                  exact ⟨by rw [numV_no hn, hn]; rfl, rfl⟩
                · have hlo2 : decide ((b.toNat : Int) < 48) = false := by simp; omega
                  by_cases hhi : 57 < b.toNat
                  · have hn := numOk_nodig s k hlt (by rw [hb]; exact isDig_no (.inr hhi))
                    have hhi2 : decide (57 < (b.toNat : Int)) = true := by simp; omega
                    clear hd
                    go_wp2
                    go_ret2
                    exact ⟨by rw [numV_no hn, hn]; rfl, rfl⟩
                  · have hhi2 : decide (57 < (b.toNat : Int)) = false := by simp; omega
                    have hv := valL_lt (s.data.toList.take k) (take_dig s k hd)
                    have hp := pow_le9 (s.data.toList.take k).length (by rw [List.length_take]; omega)
                    have HV : valL (s.data.toList.take (k + 1)) = valL (s.data.toList.take k) * 10 + (b.toNat - 48) := by rw [take_snoc s k hlt, valL_snoc, hb]
                    have HD := Lib.hid (fun j (h : j < k + 1) (h2 : j < s.size) => (by
                      by_cases hjk : j = k
                      · subst hjk; rw [hb]; exact isDig_yes (by omega) (by omega)
                      · exact hd j (by omega) h2 : isDig s[j] = true))
                    obtain ⟨V, hV⟩ : ∃ V, valL (s.data.toList.take k) = V := ⟨_, rfl⟩
                    rw [hV] at hv HV ⊢
                    have hVb : V < 1000000000 := by omega
                    have hsub : IntKind.u8.wrap ((b.toNat : Int) - 48) = ((b.toNat - 48 : Nat) : Int) := by rw [IntKind.wrap_u8]; omega
                    replace HV := Lib.hid HV
                    clear hd hv hp hV
                    go_wp2
                    go_roundw
                    case rel => exact ⟨k + 1, by omega, by go_num, by rw [HV.out]; congr 1 <;> omega, HD.out, by first | rfl | trivial⟩
                    case measure => simp [intOf]; omega
              · obtain rfl : k = s.size := by omega
                have hn := numOk_yes s hlen1 (by omega) HZ1.out (fun j h => hd j h h)
                rw [take_all]
                clear hd
                go_wp2
                go_ret2
                exact ⟨by rw [numV_yes hn, hn]; rfl, rfl⟩
end Go.Proofs.Ytodmohepgmhipaa

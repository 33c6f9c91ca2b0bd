/-
  Chapter 9's model: all records of a dictionary's patterns.
-/
import Derived.Test.YtodmohepgmhipaaRecAddS
import Derived.Test.YtodmohepgmhipaaL3EndsS
import Derived.Test.YtodmohepgmhipaaRecAllF
namespace Go.Proofs.Ytodmohepgmhipaa
open Go.RowKit
set_option linter.unusedVariables false
set_option maxRecDepth 100000
set_option maxHeartbeats 4000000 in
theorem spec_l9All (L : List Pt) (a : Option Addr) (cap : Nat) (r : ByteArray) (w : World) (h : Pats w a L) (hlen : L.length ≤ 8) (hr : r.size ≤ 200) (hok : ∀ i, i < L.length → (ptAt L i).t.size ≤ 20 ∧ 0 ≤ (ptAt L i).k ∧ (ptAt L i).k ≤ 4) :
    Calls Try.prog 62 #[.slice a L.length cap, .string r] w fun e w' => ∃ a' n cap', e = .returned (.slice a' n cap') ∧ OwnM 106 3 w' w.heap.size a' n cap' (recI (addAllR [] (allR L r L.length))) ∧ Below w.heap.size w w' := by
  have hO0 : OwnM 106 3 (w.alloc (.cells #[] 106)) w.heap.size (some ⟨w.heap.size, 0, none⟩) 0 0 (recI (addAllR [] (allR L r 0))) :=
    ⟨rfl, by have := World.ownsRow_made (base := w.heap.size) (e := 106) (size := 3) w #[] 0 (Nat.le_refl _) (by decide) rfl; exact this⟩
  have hB0 : Below w.heap.size w (w.alloc (.cells #[] 106)) := (Below.refl _ _).alloc (Nat.le_refl _) _
  have HO0 := Lib.hid hO0
  clear hO0
  go_enter Try.func62, Try.ntmps62
  go_wp2
  generalize w.alloc (.cells #[] 106) = V at *
  go_loopw [5, 6] (fun o i wr => ∃ (k g n cap' : Nat), k ≤ L.length ∧ i = .int .i64 k ∧ o = .slice (some ⟨g, 0, none⟩) n cap' ∧ n ≤ cap' ∧ OwnM 106 3 wr w.heap.size (some ⟨g, 0, none⟩) n cap' (recI (addAllR [] (allR L r k))) ∧ Below w.heap.size w wr)
    (fun _ i _ => L.length - (intOf i).toNat)
  case atStart => exact ⟨0, w.heap.size, 0, 0, by omega, rfl, rfl, Nat.le_refl _, HO0.out, hB0⟩
  case round =>
    obtain ⟨k, g, n, cap', hk, rfl, rfl, hnc, hO, hb⟩ := hrel
    by_cases hlt : k < L.length
    · obtain ⟨b, off, rfl, hp⟩ := (h.kept hb).at k hlt
      obtain ⟨c0, c1, c2⟩ := hp k hlt
      obtain ⟨ht, hk0, hk1⟩ := hok k hlt
      have HK := Lib.hid (show allR L r (k + 1) = allR L r k ++ recsF k (endsP (ptAt L k) r) (endsC (ptAt L k) r) from rfl)
      have hal := allR_length L r k
      have hnl : n = (allR L r k).length := by have := hO.len; rw [recI_length, addAllR_length] at this; simp at this; omega
      have hn8 : n ≤ 1608 := by
        have h1 : k * (r.size + 1) ≤ 8 * 201 := Nat.mul_le_mul (by omega) (by omega)
        omega
      have HO := Lib.hid hO
      have HNL := Lib.hid hnl
      have HH := Lib.hid h; have HOK := Lib.hid hok
      have hel := endsP_length (ptAt L k) r
      have hec := endsC_le (ptAt L k) r
      have HSP := Lib.hid (fun w => spec_l3Ends (ptAt L k).t (ptAt L k).k (ptAt L k).f r w ht hr hk0 hk1)
      have HEP := Lib.hid (show endF (lastD (ptAt L k).t r (ptAt L k).f) (ptAt L k).k (r.size + 1) = endsP (ptAt L k) r from rfl)
      clear hO hnl hal h hp hok hB0 HO0
      generalize endsP (ptAt L k) r = E at *
      generalize endsC (ptAt L k) r = c at *
      generalize ptAt L k = p at *
      obtain ⟨pt, pk, pf⟩ := p
      simp only at c0 c1 c2 ht hk0 hk1
      have HEL := Lib.hid hel; clear hel
      generalize hR0 : addAllR [] (allR L r k) = R0 at *
      have HR0 := Lib.hid hR0; clear hR0
      go_wp2_with fail
      refine (HSP.out _).mono ?_
      rintro e w1 ⟨a1, n1, cap1, rfl, hE, hb1⟩
      have hE2 := HEP.out ▸ hE
      have hn1 : n1 = c := by have := hE2.len; rw [HEL.out] at this; omega
      subst hn1
      have hEI := hE2.ints
      have HO1 := Lib.hid (HO.out.kept hb1)
      have hB1 := hb.trans (hb1.mono hb.size)
      clear hE hE2 hb1 hb
      go_wp2
      go_loopw [5, 8] (fun o i wx => ∃ (m g n' cap' : Nat), m ≤ n1 ∧ i = .int .i64 m ∧ o = .slice (some ⟨g, 0, none⟩) n' cap' ∧ n' ≤ cap' ∧ n' = n + m ∧ OwnM 106 3 wx w.heap.size (some ⟨g, 0, none⟩) n' cap' (recI (addAllR R0 (recsF k E m))) ∧ Ints wx a1 E ∧ Below w.heap.size w wx)
        (fun _ i _ => n1 - (intOf i).toNat)
      case atStart => exact ⟨0, g, n, cap', by omega, rfl, rfl, hnc, rfl, HO1.out, hEI, hB1⟩
      case round =>
        obtain ⟨m, g2, n2, cap2, hm, rfl, rfl, hnc2, rfl, hO2, hI, hb2⟩ := hrel
        by_cases hlt2 : m < n1
        · have HI := Lib.hid hI
          obtain ⟨be, oe, rfl, hpe⟩ := hI.at (m * 2) (by rw [HEL.out]; omega)
          have q1 := hpe (m * 2) (by rw [HEL.out]; omega)
          have q2 := hpe (m * 2 + 1) (by rw [HEL.out]; omega)
          rw [← Nat.add_assoc] at q2
          have HR := Lib.hid (show addAllR R0 (recsF k E (m + 1)) = addR (addAllR R0 (recsF k E m)) ⟨k, intAt E (m * 2), intAt E (m * 2 + 1)⟩ by simp only [recsF]; rw [addAllR_append]; rfl)
          have hRl : (addAllR R0 (recsF k E m)).length = (n + m) := by have := hO2.len; rw [recI_length] at this; omega
          have hlb := block_lt_of_cell q1
          generalize intAt E (m * 2) = x at *
          generalize intAt E (m * 2 + 1) = y at *
          generalize addAllR R0 (recsF k E m) = R at *
          have hn9 : (n + m) ≤ 100000 := by omega
          clear hI hpe
          go_wp2_with fail
          go_region_law ((go_simp; (go_at_call 104; refine (spec_l9Add_some R ⟨k, x, y⟩ g2 (n + m) cap2 w.heap.size _ hRl (hO2.kept (by repeat (first | exact Below.refl _ _ | assumption | (refine Below.drew ?_) | (refine below_drewN ?_ _) | (refine Below.alloc ?_ (by first | omega | (simp; done) | (simp; omega)) _) | (refine Below.setCell ?_ (by first | omega | (simp; done) | (simp; omega)) _)))) hnc2 hn9).mono ?_; rintro e w3 ⟨a3, cap3, rfl, hO3, hb3⟩)))
          all_goals
            have hB3 := below_undrew hb3
            have hs3 := hb2.size
            obtain ⟨g3, rfl, hnc3⟩ := hO3.some_head (by omega)
            go_wp2
            go_roundw
            case rel => exact ⟨m + 1, g3, (n + m) + 1, cap3, by omega, by go_num, rfl, hnc3, by omega, by rw [HR.out]; exact hO3.mono (by simpa using hs3), HI.out.kept hB3, hb2.trans (hB3.mono hb2.size)⟩
            case measure => simp [intOf]; omega
        · obtain rfl : m = n1 := by omega
          have HF := Lib.hid (show addAllR [] (allR L r (k + 1)) = addAllR R0 (recsF k E m) by rw [HK.out, addAllR_append, HR0.out])
          go_wp2
          go_roundw
          case rel => exact ⟨k + 1, g2, (n + m), cap2, by omega, by go_num, rfl, hnc2, by rw [HF.out]; exact hO2, hb2⟩
          case measure => simp [intOf]; omega
    · obtain rfl : k = L.length := by omega
      go_wp2
      go_ret
      exact ⟨_, _, _, rfl, hO, hb⟩
end Go.Proofs.Ytodmohepgmhipaa

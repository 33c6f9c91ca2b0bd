/-
  Chapter 5: RowsStep, in the program: behind the interface.
-/
import Derived.Test.YtglldmfhjipacaaL5Step
namespace Go.Proofs.Ytglldmfhjipacaa
open Go.RowKit
set_option linter.unusedVariables false
set_option maxRecDepth 100000
def rowsStepL (s : ByteArray) (k : Int) (f : Bool) (b : Int) (L : List Int) : List Int :=
  if rowsOkB s k L && inB b 0 255 then tab (stepF (maskI s f b) (2 ^ s.size - 1) (intAt L)) L.length else []
theorem isByte_eq (b : Int) (w : World) :
    Calls Try.prog 105 #[.int .i64 b] w fun e w' => e = .returned (.bool (inB b 0 255)) ∧ w = w' := by
  by_cases h1 : 0 ≤ b
  · by_cases h2 : b ≤ 255
    · have H := Lib.hid (inB_yes ⟨h1, h2⟩)
      go_enter Try.func105, Try.ntmps105
      go_wp2
      go_ret
      exact ⟨by rw [H.out]; rfl, rfl⟩
    · have H := Lib.hid (inB_no (n := b) (lo := 0) (hi := 255) (by omega))
      go_enter Try.func105, Try.ntmps105
      go_wp2
      go_ret
      exact ⟨by rw [H.out]; rfl, rfl⟩
  · have H := Lib.hid (inB_no (n := b) (lo := 0) (hi := 255) (by omega))
    go_enter Try.func105, Try.ntmps105
    go_wp2
    go_ret
    exact ⟨by rw [H.out]; rfl, rfl⟩
theorem meth_rows_next (a : Option Addr) (n cap : Nat) (w : World) : (method 265 63 (.agg #[.slice a n cap]) "loop.example/g00568/impl.next").run Try.prog w = .ok (147, .agg #[.slice a n cap]) w := by kernel_rfl
theorem ta_nil_rows (w : World) : (Instr.typeAssert .nilIface 108 63 true).run Try.prog w = .ok (.tuple #[.agg #[.slice none 0 0], .bool false]) w := by kernel_rfl
set_option maxHeartbeats 2000000 in
theorem impl_stepped_rows_no (s : ByteArray) (k : Int) (f : Bool) (L : List Int) (a : Option Addr) (n cap : Nat) (b : Int) (w : World) (hs : s.size ≤ 1048576) (hn : L.length = n) (h : Ints w a L) (hlen : n ≤ 1048577) (hno : (rowsOkB s k L && inB b 0 255) = false) :
    Calls Try.prog 92 #[.agg #[.string s, .int .i64 k, .bool f], .iface 63 (.agg #[.slice a n cap]), .int .i64 b] w fun e w' => e = .returned .nilIface ∧ Below w.heap.size w w' := by
  have hme := meth_rows_right a n cap
  have HN := Lib.hid hn; clear hn
  cases hok : rowsOkB s k L
  · have HO := Lib.hid hok; clear hok hno
    go_enter Try.func92, Try.ntmps92
    go_wp2_with fail
    refine (impl_rowsRight s k f L a n cap _ hs HN.out (h.kept (by repeat (first | exact Below.refl _ _ | assumption | (refine Below.drew ?_) | (refine below_drewN ?_ _) | (refine Below.alloc ?_ (by first | omega | (simp; done) | (simp; omega)) _) | (refine Below.setCell ?_ (by first | omega | (simp; done) | (simp; omega)) _)))) hlen).mono ?_
    rintro e w1 ⟨rfl, hb1⟩
    rw [HO.out]
    obtain ⟨hc_w1, hf_w1⟩ := bcell hb1; have HT_w1 : Below w.heap.size w w1 := below_step (by repeat (first | exact Below.refl _ _ | assumption | (refine Below.drew ?_) | (refine below_drewN ?_ _) | (refine Below.alloc ?_ (by first | omega | (simp; done) | (simp; omega)) _) | (refine Below.setCell ?_ (by first | omega | (simp; done) | (simp; omega)) _))) hb1; have hz_w_w1 : w.heap.size < w1.heap.size := (by have h1 := hb1.size; (try simp at h1); omega)
    go_wp2_with fail
    go_ret
    exact ⟨rfl, HT_w1⟩
  · have hib : inB b 0 255 = false := by rw [hok] at hno; simpa using hno
    have HI := Lib.hid hib
    have HO := Lib.hid hok; clear hok hno hib
    go_enter Try.func92, Try.ntmps92
    go_wp2_with fail
    refine (impl_rowsRight s k f L a n cap _ hs HN.out (h.kept (by repeat (first | exact Below.refl _ _ | assumption | (refine Below.drew ?_) | (refine below_drewN ?_ _) | (refine Below.alloc ?_ (by first | omega | (simp; done) | (simp; omega)) _) | (refine Below.setCell ?_ (by first | omega | (simp; done) | (simp; omega)) _)))) hlen).mono ?_
    rintro e w1 ⟨rfl, hb1⟩
    rw [HO.out]
    obtain ⟨hc_w1, hf_w1⟩ := bcell hb1; have HT_w1 : Below w.heap.size w w1 := below_step (by repeat (first | exact Below.refl _ _ | assumption | (refine Below.drew ?_) | (refine below_drewN ?_ _) | (refine Below.alloc ?_ (by first | omega | (simp; done) | (simp; omega)) _) | (refine Below.setCell ?_ (by first | omega | (simp; done) | (simp; omega)) _))) hb1; have hz_w_w1 : w.heap.size < w1.heap.size := (by have h1 := hb1.size; (try simp at h1); omega)
    go_wp2_with (go_at_call 105; refine (isByte_eq _ _).mono ?_; rintro e w' ⟨rfl, rfl⟩; rw [HI.out])
    go_ret
    exact ⟨rfl, HT_w1⟩
set_option maxHeartbeats 2000000 in
theorem impl_stepped_rows_yes (s : ByteArray) (k : Int) (f : Bool) (L : List Int) (a : Option Addr) (n cap : Nat) (b : Int) (w : World) (hs : s.size ≤ 1048576) (hn : L.length = n) (h : Ints w a L) (hlen : n ≤ 1048577) (hwf : ∀ i, i < n → I64 (intAt L i)) (hok : rowsOkB s k L = true) (hib : inB b 0 255 = true) :
    Calls Try.prog 92 #[.agg #[.string s, .int .i64 k, .bool f], .iface 63 (.agg #[.slice a n cap]), .int .i64 b] w fun e w' => ∃ a' cap', e = .returned (.iface 63 (.agg #[.slice a' n cap'])) ∧ OwnN w' w.heap.size a' n cap' (tab (stepF (maskI s f b) (2 ^ s.size - 1) (intAt L)) n) ∧ Below w.heap.size w w' := by
  have hme := meth_rows_right a n cap
  have hmn := meth_rows_next a n cap
  obtain ⟨hs1, hbd⟩ := rowsOk_bound hok hwf hn
  have hn5 : n ≤ 5 := by
    have hr := hok
    unfold rowsOkB at hr
    simp only [Bool.and_eq_true, decide_eq_true_eq] at hr
    have := (patOk_iff s k).1 hr.1.1
    omega
  have HN := Lib.hid hn; clear hn
  have HI := Lib.hid hib
  have HO := Lib.hid hok; clear hok hib
  go_enter Try.func92, Try.ntmps92
  go_wp2_with fail
  refine (impl_rowsRight s k f L a n cap _ hs HN.out (h.kept (by repeat (first | exact Below.refl _ _ | assumption | (refine Below.drew ?_) | (refine below_drewN ?_ _) | (refine Below.alloc ?_ (by first | omega | (simp; done) | (simp; omega)) _) | (refine Below.setCell ?_ (by first | omega | (simp; done) | (simp; omega)) _)))) hlen).mono ?_
  rintro e w1 ⟨rfl, hb1⟩
  rw [HO.out]
  obtain ⟨hc_w1, hf_w1⟩ := bcell hb1; have HT_w1 : Below w.heap.size w w1 := below_step (by repeat (first | exact Below.refl _ _ | assumption | (refine Below.drew ?_) | (refine below_drewN ?_ _) | (refine Below.alloc ?_ (by first | omega | (simp; done) | (simp; omega)) _) | (refine Below.setCell ?_ (by first | omega | (simp; done) | (simp; omega)) _))) hb1; have hz_w_w1 : w.heap.size < w1.heap.size := (by have h1 := hb1.size; (try simp at h1); omega)
  go_wp2_with (go_at_call 105; refine (isByte_eq _ _).mono ?_; rintro e w' ⟨rfl, rfl⟩; rw [HI.out])
  refine (impl_rowsNext s k f L a n cap b _ hs1 HN.out (h.kept HT_w1) hn5 hbd).mono ?_
  rintro e w2 ⟨a2, cap2, rfl, hO2, hb2⟩
  have HT2 := below_step HT_w1 hb2
  go_wp2_with fail
  go_ret
  exact ⟨_, _, rfl, hO2.mono HT_w1.size, HT2⟩
set_option maxHeartbeats 2000000 in
theorem impl_rowsStep (s : ByteArray) (k : Int) (f : Bool) (L : List Int) (a : Option Addr) (n cap : Nat) (b : Int) (w : World) (hs : s.size ≤ 1048576) (hn : L.length = n) (h : Ints w a L) (hlen : n ≤ 1048577) (hwf : ∀ i, i < n → I64 (intAt L i)) :
    Calls Try.prog 44 #[.agg #[.string s, .int .i64 k, .bool f], .agg #[.slice a n cap], .int .i64 b] w fun e w' => ∃ a' n' cap', e = .returned (.agg #[.slice a' n' cap']) ∧ OwnN w' w.heap.size a' n' cap' (rowsStepL s k f b L) ∧ Below w.heap.size w w' := by
  have HN := Lib.hid hn; clear hn
  cases hok : (rowsOkB s k L && inB b 0 255)
  · have HR := Lib.hid (show rowsStepL s k f b L = [] by unfold rowsStepL; rw [hok]; rfl)
    have HO := Lib.hid hok; clear hok
    have hta := ta_nil_rows
    go_enter Try.func44, Try.ntmps44
    go_wp2_with fail
    refine (impl_stepped_rows_no s k f L a n cap b _ hs HN.out (h.kept (by repeat (first | exact Below.refl _ _ | assumption | (refine Below.drew ?_) | (refine below_drewN ?_ _) | (refine Below.alloc ?_ (by first | omega | (simp; done) | (simp; omega)) _) | (refine Below.setCell ?_ (by first | omega | (simp; done) | (simp; omega)) _)))) hlen HO.out).mono ?_
    rintro e w1 ⟨rfl, hb1⟩
    obtain ⟨hc_w1, hf_w1⟩ := bcell hb1; have HT_w1 : Below w.heap.size w w1 := below_step (by repeat (first | exact Below.refl _ _ | assumption | (refine Below.drew ?_) | (refine below_drewN ?_ _) | (refine Below.alloc ?_ (by first | omega | (simp; done) | (simp; omega)) _) | (refine Below.setCell ?_ (by first | omega | (simp; done) | (simp; omega)) _))) hb1; have hy0_w1 : w.heap.size < w1.heap.size := (by have h1 := hb1.size; (try simp at h1); omega); have hy1_w1 : w.heap.size + 1 < w1.heap.size := (by have h1 := hb1.size; (try simp at h1); omega); have hy2_w1 : w.heap.size + 2 < w1.heap.size := (by have h1 := hb1.size; (try simp at h1); omega)
    go_wp2_with fail
    exact bodyPost_ret (v := .agg #[.slice none 0 0]) (by simp [results, Try.results44, go_sem, hc_w1, hy2_w1]) rfl ⟨_, _, _, rfl, by rw [HR.out]; exact OwnN.nil _ _, (by repeat (first | exact Below.refl _ _ | assumption | (refine Below.drew ?_) | (refine below_drewN ?_ _) | (refine Below.alloc ?_ (by first | omega | (simp; done) | (simp; omega)) _) | (refine Below.setCell ?_ (by first | omega | (simp; done) | (simp; omega)) _)))⟩
  · have HR := Lib.hid (show rowsStepL s k f b L = tab (stepF (maskI s f b) (2 ^ s.size - 1) (intAt L)) n by unfold rowsStepL; rw [hok, HN.out]; rfl)
    obtain ⟨ho1, ho2⟩ : rowsOkB s k L = true ∧ inB b 0 255 = true := by simpa using hok
    have HO1 := Lib.hid ho1; have HO2 := Lib.hid ho2; clear hok ho1 ho2
    go_enter Try.func44, Try.ntmps44
    go_wp2_with fail
    refine (impl_stepped_rows_yes s k f L a n cap b _ hs HN.out (h.kept (by repeat (first | exact Below.refl _ _ | assumption | (refine Below.drew ?_) | (refine below_drewN ?_ _) | (refine Below.alloc ?_ (by first | omega | (simp; done) | (simp; omega)) _) | (refine Below.setCell ?_ (by first | omega | (simp; done) | (simp; omega)) _)))) hlen hwf HO1.out HO2.out).mono ?_
    rintro e w1 ⟨a1, cap1, rfl, hO1, hb1⟩
    have hta := ta_rows (.agg #[.slice a1 n cap1])
    obtain ⟨hc_w1, hf_w1⟩ := bcell hb1; have HT_w1 : Below w.heap.size w w1 := below_step (by repeat (first | exact Below.refl _ _ | assumption | (refine Below.drew ?_) | (refine below_drewN ?_ _) | (refine Below.alloc ?_ (by first | omega | (simp; done) | (simp; omega)) _) | (refine Below.setCell ?_ (by first | omega | (simp; done) | (simp; omega)) _))) hb1; have hy0_w1 : w.heap.size < w1.heap.size := (by have h1 := hb1.size; (try simp at h1); omega); have hy1_w1 : w.heap.size + 1 < w1.heap.size := (by have h1 := hb1.size; (try simp at h1); omega); have hy2_w1 : w.heap.size + 2 < w1.heap.size := (by have h1 := hb1.size; (try simp at h1); omega)
    go_wp2_with fail
    exact bodyPost_ret (v := .agg #[.slice a1 n cap1]) (by simp [results, Try.results44, go_sem, hc_w1, hy2_w1]) rfl ⟨_, _, _, rfl, by rw [HR.out]; exact ((hO1.kept_hi (grownBy_setCell1 _ (w.heap.size + 1 + 1) 0 (.slice a1 n cap1)) (by intro q hq; cases hq; simp)).kept ((Below.refl _ _).alloc (Nat.le_refl _) _)).mono (by simp; omega), (by repeat (first | exact Below.refl _ _ | assumption | (refine Below.drew ?_) | (refine below_drewN ?_ _) | (refine Below.alloc ?_ (by first | omega | (simp; done) | (simp; omega)) _) | (refine Below.setCell ?_ (by first | omega | (simp; done) | (simp; omega)) _)))⟩
end Go.Proofs.Ytglldmfhjipacaa

/-
  Chapter 4: MyersStep: its contracts, in the program and in its model.
-/
import Derived.Test.YtgocfpdodbhcaaaL4Step
import Derived.Test.YtgocfpdodbhcaaaL3NextS
import Derived.Test.YtgocfpdodbhcaaaL4ColS
import Derived.Deep.RegionHeld3
namespace Go.Proofs.Ytgocfpdodbhcaaa
open Go.RowKit
set_option linter.unusedVariables false
set_option maxRecDepth 100000
def myStepU (s : ByteArray) (k : Int) (f : Bool) (b u d t : Int) : Int := if myOkB s k u d t && inB b 0 255 then (maskTo (riseF (mNext s f b u d)) s.size : Nat) else 0
def myStepD (s : ByteArray) (k : Int) (f : Bool) (b u d t : Int) : Int := if myOkB s k u d t && inB b 0 255 then (maskTo (fallF (mNext s f b u d)) s.size : Nat) else 0
def myStepS (s : ByteArray) (k : Int) (f : Bool) (b u d t : Int) : Int := if myOkB s k u d t && inB b 0 255 then mNext s f b u d s.size else 0
def myStepV (s : ByteArray) (k : Int) (f : Bool) (b u d t : Int) : Value := .agg #[.int .i64 (myStepU s k f b u d t), .int .i64 (myStepD s k f b u d t), .int .i64 (myStepS s k f b u d t)]
theorem myStepV_no {s : ByteArray} {k : Int} {f : Bool} {b u d t : Int} (h : (myOkB s k u d t && inB b 0 255) = false) : myStepV s k f b u d t = .agg #[.int .i64 0, .int .i64 0, .int .i64 0] := by
  unfold myStepV myStepU myStepD myStepS; rw [h]; rfl
theorem myStepV_yes {s : ByteArray} {k : Int} {f : Bool} {b u d t : Int} (h : myOkB s k u d t = true) (h2 : inB b 0 255 = true) : myStepV s k f b u d t = .agg #[.int .i64 (maskTo (riseF (mNext s f b u d)) s.size : Nat), .int .i64 (maskTo (fallF (mNext s f b u d)) s.size : Nat), .int .i64 (mNext s f b u d s.size)] := by
  unfold myStepV myStepU myStepD myStepS; rw [h, h2]; rfl
theorem isByte_my (b : Int) (w : World) :
    Calls Try.prog 124 #[.int .i64 b] w fun e w' => e = .returned (.bool (inB b 0 255)) ∧ w = w' := by
  by_cases h1 : 0 ≤ b
  · by_cases h2 : b ≤ 255
    · have H := Lib.hid (inB_yes ⟨h1, h2⟩)
      go_enter Try.func124, Try.ntmps124
      go_wp2
      go_ret
      exact ⟨by rw [H.out]; rfl, rfl⟩
    · have H := Lib.hid (inB_no (n := b) (lo := 0) (hi := 255) (by omega))
      go_enter Try.func124, Try.ntmps124
      go_wp2
      go_ret
      exact ⟨by rw [H.out]; rfl, rfl⟩
  · have H := Lib.hid (inB_no (n := b) (lo := 0) (hi := 255) (by omega))
    go_enter Try.func124, Try.ntmps124
    go_wp2
    go_ret
    exact ⟨by rw [H.out]; rfl, rfl⟩
theorem meth_my_right (u d t : Int) (w : World) : (method 350 51 (.agg #[.int .i64 u, .int .i64 d, .int .i64 t]) "loop.example/g00568/impl.right").run Try.prog w = .ok (140, .agg #[.int .i64 u, .int .i64 d, .int .i64 t]) w := by kernel_rfl
theorem meth_my_next (u d t : Int) (w : World) : (method 350 51 (.agg #[.int .i64 u, .int .i64 d, .int .i64 t]) "loop.example/g00568/impl.next").run Try.prog w = .ok (259, .agg #[.int .i64 u, .int .i64 d, .int .i64 t]) w := by kernel_rfl
theorem ta_nil_my (w : World) : (Instr.typeAssert .nilIface 136 51 true).run Try.prog w = .ok (.tuple #[.agg #[.int .i64 0, .int .i64 0, .int .i64 0], .bool false]) w := by kernel_rfl
set_option maxHeartbeats 2000000 in
theorem impl_stepped_my_no (s : ByteArray) (k : Int) (f : Bool) (u d t b : Int) (w : World) (hs : s.size ≤ 1048576) (hu : I64 u) (hd : I64 d) (hno : (myOkB s k u d t && inB b 0 255) = false) :
    Calls Try.prog 136 #[.agg #[.string s, .int .i64 k, .bool f], .iface 51 (.agg #[.int .i64 u, .int .i64 d, .int .i64 t]), .int .i64 b] w fun e w' => e = .returned .nilIface ∧ Below w.heap.size w w' := by
  have hme := meth_my_right u d t
  cases hok : myOkB s k u d t
  · have HO := Lib.hid hok; clear hok hno
    go_enter Try.func136, Try.ntmps136
    go_wp2_with fail
    refine (impl_myersRight s k f u d t _ hs hu hd).mono ?_
    rintro e w1 ⟨rfl, hb1⟩
    rw [HO.out]
    obtain ⟨hc_w1, hf_w1⟩ := bcell hb1; have HT_w1 : Below w.heap.size w w1 := below_step (by repeat (first | exact Below.refl _ _ | assumption | (refine Below.drew ?_) | (refine below_drewN ?_ _) | (refine Below.alloc ?_ (by first | omega | (simp; done) | (simp; omega)) _) | (refine Below.setCell ?_ (by first | omega | (simp; done) | (simp; omega)) _))) hb1; have hz_w_w1 : w.heap.size < w1.heap.size := (by have h1 := hb1.size; (try simp at h1); omega)
    go_wp2_with fail
    go_ret
    exact ⟨rfl, HT_w1⟩
  · have hib : inB b 0 255 = false := by rw [hok] at hno; simpa using hno
    have HI := Lib.hid hib
    have HO := Lib.hid hok; clear hok hno hib
    go_enter Try.func136, Try.ntmps136
    go_wp2_with fail
    refine (impl_myersRight s k f u d t _ hs hu hd).mono ?_
    rintro e w1 ⟨rfl, hb1⟩
    rw [HO.out]
    obtain ⟨hc_w1, hf_w1⟩ := bcell hb1; have HT_w1 : Below w.heap.size w w1 := below_step (by repeat (first | exact Below.refl _ _ | assumption | (refine Below.drew ?_) | (refine below_drewN ?_ _) | (refine Below.alloc ?_ (by first | omega | (simp; done) | (simp; omega)) _) | (refine Below.setCell ?_ (by first | omega | (simp; done) | (simp; omega)) _))) hb1; have hz_w_w1 : w.heap.size < w1.heap.size := (by have h1 := hb1.size; (try simp at h1); omega)
    go_wp2_with (go_at_call 124; refine (isByte_my _ _).mono ?_; rintro e w' ⟨rfl, rfl⟩; rw [HI.out])
    go_ret
    exact ⟨rfl, HT_w1⟩
set_option maxHeartbeats 2000000 in
theorem impl_stepped_my_yes (s : ByteArray) (k : Int) (f : Bool) (u d t b : Int) (w : World) (hs : s.size ≤ 1048576) (hu : I64 u) (hd : I64 d) (hok : myOkB s k u d t = true) (hib : inB b 0 255 = true) :
    Calls Try.prog 136 #[.agg #[.string s, .int .i64 k, .bool f], .iface 51 (.agg #[.int .i64 u, .int .i64 d, .int .i64 t]), .int .i64 b] w fun e w' => e = .returned (.iface 51 (myStepV s k f b u d t)) ∧ Below w.heap.size w w' := by
  have hme := meth_my_right u d t
  have hmn := meth_my_next u d t
  have HR := Lib.hid (myStepV_yes (f := f) hok hib)
  have HI := Lib.hid hib
  have HO := Lib.hid hok; clear hok hib
  go_enter Try.func136, Try.ntmps136
  go_wp2_with fail
  refine (impl_myersRight s k f u d t _ hs hu hd).mono ?_
  rintro e w1 ⟨rfl, hb1⟩
  rw [HO.out]
  obtain ⟨hc_w1, hf_w1⟩ := bcell hb1; have HT_w1 : Below w.heap.size w w1 := below_step (by repeat (first | exact Below.refl _ _ | assumption | (refine Below.drew ?_) | (refine below_drewN ?_ _) | (refine Below.alloc ?_ (by first | omega | (simp; done) | (simp; omega)) _) | (refine Below.setCell ?_ (by first | omega | (simp; done) | (simp; omega)) _))) hb1; have hz_w_w1 : w.heap.size < w1.heap.size := (by have h1 := hb1.size; (try simp at h1); omega)
  go_wp2_with (go_at_call 124; refine (isByte_my _ _).mono ?_; rintro e w' ⟨rfl, rfl⟩; rw [HI.out])
  refine (impl_myersNext s k f u d t b _ HO.out HI.out).mono ?_
  rintro e w2 ⟨rfl, hb2⟩
  have HT2 := below_step HT_w1 hb2
  go_wp2_with fail
  go_ret
  exact ⟨by rw [HR.out]; rfl, HT2⟩
set_option maxHeartbeats 2000000 in
theorem impl_myersStep (s : ByteArray) (k : Int) (f : Bool) (u d t b : Int) (w : World) (hs : s.size ≤ 1048576) (hu : I64 u) (hd : I64 d) :
    Calls Try.prog 44 #[.agg #[.string s, .int .i64 k, .bool f], .agg #[.int .i64 u, .int .i64 d, .int .i64 t], .int .i64 b] w fun e w' => e = .returned (myStepV s k f b u d t) ∧ Below w.heap.size w w' := by
  cases hok : (myOkB s k u d t && inB b 0 255)
  · have HR := Lib.hid (myStepV_no (f := f) hok)
    have HO := Lib.hid hok; clear hok
    have hta := ta_nil_my
    go_enter Try.func44, Try.ntmps44
    go_wp2_with fail
    refine (impl_stepped_my_no s k f u d t b _ hs hu hd HO.out).mono ?_
    rintro e w1 ⟨rfl, hb1⟩
    obtain ⟨hc_w1, hf_w1⟩ := bcell hb1; have HT_w1 : Below w.heap.size w w1 := below_step (by repeat (first | exact Below.refl _ _ | assumption | (refine Below.drew ?_) | (refine below_drewN ?_ _) | (refine Below.alloc ?_ (by first | omega | (simp; done) | (simp; omega)) _) | (refine Below.setCell ?_ (by first | omega | (simp; done) | (simp; omega)) _))) hb1; have hy0_w1 : w.heap.size < w1.heap.size := (by have h1 := hb1.size; (try simp at h1); omega); have hy1_w1 : w.heap.size + 1 < w1.heap.size := (by have h1 := hb1.size; (try simp at h1); omega); have hy2_w1 : w.heap.size + 2 < w1.heap.size := (by have h1 := hb1.size; (try simp at h1); omega)
    go_wp2_with fail
    exact bodyPost_ret (v := .agg #[.int .i64 0, .int .i64 0, .int .i64 0]) (by simp [results, Try.results44, go_sem, hc_w1, hy2_w1]) rfl ⟨by rw [HR.out], (by repeat (first | exact Below.refl _ _ | assumption | (refine Below.drew ?_) | (refine below_drewN ?_ _) | (refine Below.alloc ?_ (by first | omega | (simp; done) | (simp; omega)) _) | (refine Below.setCell ?_ (by first | omega | (simp; done) | (simp; omega)) _)))⟩
  · obtain ⟨ho1, ho2⟩ : myOkB s k u d t = true ∧ inB b 0 255 = true := by simpa using hok
    have HO1 := Lib.hid ho1; have HO2 := Lib.hid ho2; clear hok ho1 ho2
    obtain ⟨U, hU⟩ : ∃ U, myStepU s k f b u d t = U := ⟨_, rfl⟩
    obtain ⟨D, hD⟩ : ∃ D, myStepD s k f b u d t = D := ⟨_, rfl⟩
    obtain ⟨T, hT⟩ : ∃ T, myStepS s k f b u d t = T := ⟨_, rfl⟩
    have HV := Lib.hid (show myStepV s k f b u d t = .agg #[.int .i64 U, .int .i64 D, .int .i64 T] by unfold myStepV; rw [hU, hD, hT])
    clear hU hD hT
    have hta := ta_myers U D T
    go_enter Try.func44, Try.ntmps44
    go_wp2_with fail
    refine (impl_stepped_my_yes s k f u d t b _ hs hu hd HO1.out HO2.out).mono ?_
    rintro e w1 ⟨rfl, hb1⟩
    rw [HV.out]
    obtain ⟨hc_w1, hf_w1⟩ := bcell hb1; have HT_w1 : Below w.heap.size w w1 := below_step (by repeat (first | exact Below.refl _ _ | assumption | (refine Below.drew ?_) | (refine below_drewN ?_ _) | (refine Below.alloc ?_ (by first | omega | (simp; done) | (simp; omega)) _) | (refine Below.setCell ?_ (by first | omega | (simp; done) | (simp; omega)) _))) hb1; have hy0_w1 : w.heap.size < w1.heap.size := (by have h1 := hb1.size; (try simp at h1); omega); have hy1_w1 : w.heap.size + 1 < w1.heap.size := (by have h1 := hb1.size; (try simp at h1); omega); have hy2_w1 : w.heap.size + 2 < w1.heap.size := (by have h1 := hb1.size; (try simp at h1); omega)
    go_wp2_with fail
    exact bodyPost_ret (v := .agg #[.int .i64 U, .int .i64 D, .int .i64 T]) (by simp [results, Try.results44, go_sem, hc_w1, hy2_w1]) rfl ⟨by rw [HV.out], (by repeat (first | exact Below.refl _ _ | assumption | (refine Below.drew ?_) | (refine below_drewN ?_ _) | (refine Below.alloc ?_ (by first | omega | (simp; done) | (simp; omega)) _) | (refine Below.setCell ?_ (by first | omega | (simp; done) | (simp; omega)) _)))⟩
end Go.Proofs.Ytgocfpdodbhcaaa

/-
  A line of a dictionary, read by the program: a word, the whole line; it gives up with a place.
-/
import Derived.Test.YtodmohepgmhipaaL2Line
import Derived.Test.YtodmohepgmhipaaL2Cut2
import Derived.Test.YtodmohepgmhipaaL2Num3
namespace Go.Proofs.Ytodmohepgmhipaa
open Go.RowKit
set_option linter.unusedVariables false
set_option maxRecDepth 100000
def PanicAt (p : Nat) (e : Ending) : Prop := e = .panicked [{ v := .iface 76 (.int .i64 (p : Int)), recovered := false }]
set_option maxHeartbeats 1000000 in
theorem impl_wordFrom_no (s r : ByteArray) (k : Nat) (kI : Int) (w : World) (hkI : kI = k) (hk : k ≤ s.size) (hs : s.size ≤ 1073741824) (hr : s.extract k s.size = r) (hF : cutF r 32 = false) :
    Calls Try.prog 92 #[.string s, .int .i64 kI] w fun e w' => PanicAt k e ∧ Below w.heap.size w w' := by
  have hsz : r.size ≤ 1073741824 := by rw [← hr, ByteArray.size_extract]; omega
  have HF := Lib.hid hF
  clear hF
  subst hkI
  go_enter Try.func92, Try.ntmps92
  go_wp2_with (go_at_call 47; refine (cut_byte r 32 _ hsz).mono ?_; rintro e w1 ⟨rfl, hb1⟩; rw [show (32 : UInt8).toNat = 32 from rfl, HF.out])
  exact ⟨rfl, rfl, hb1⟩
set_option maxHeartbeats 1000000 in
theorem impl_wordFrom_yes (s r a : ByteArray) (k fa : Nat) (kI : Int) (w : World) (hkI : kI = k) (hk : k ≤ s.size) (hs : s.size ≤ 1073741824) (hr : s.extract k s.size = r) (hF : cutF r 32 = true) (ha : cutA r 32 = a) (hfa : fa = k + a.size + 1) :
    Calls Try.prog 92 #[.string s, .int .i64 kI] w fun e w' => e = .returned (.tuple #[.string a, .int .i64 (fa : Int)]) ∧ Below w.heap.size w w' := by
  have hsz : r.size ≤ 1073741824 := by rw [← hr, ByteArray.size_extract]; omega
  have hz : a.size < r.size := by rw [← ha]; exact cutF_lt hF
  have HF := Lib.hid hF
  have HA := Lib.hid ha
  have HFA := Lib.hid (show ((k : Int) + (a.size : Int) + 1) = (fa : Int) by rw [hfa]; omega)
  clear hF ha hfa
  subst hkI
  go_enter Try.func92, Try.ntmps92
  go_wp2_with (go_at_call 47; refine (cut_byte r 32 _ hsz).mono ?_; rintro e w1 ⟨rfl, hb1⟩; rw [show (32 : UInt8).toNat = 32 from rfl, HF.out, HA.out])
  go_ret2
  exact ⟨by rw [HFA.out]; rfl, hb1⟩
def LinePost (r : Except Nat Pt) (e : Ending) : Prop := match r with
  | .ok p => e = .returned (.agg #[.string p.t, .int .i64 p.k, .bool p.f])
  | .error q => PanicAt q e
theorem toL_ne {s : ByteArray} {l : List UInt8} (h : s ≠ ⟨l.toArray⟩) : (s.toList == l) = false := by
  rw [beq_eq_false_iff_ne]
  intro e
  apply h
  have h2 : s.data.toList = l := by rw [← e]; exact (ByteArray.toList_eq s).symm
  cases s
  simp only at h2
  rw [← h2]
theorem impl_patternTextOk (s : ByteArray) (w : World) (hs : s.size ≤ 1073741824) :
    Calls Try.prog 95 #[.string s] w fun e w' => e = .returned (.bool (decide (1 ≤ s.size ∧ s.size ≤ 20))) ∧ w = w' := by
  by_cases a : 1 ≤ s.size
  · have b : decide ((s.size : Int) ≤ 20) = decide (1 ≤ s.size ∧ s.size ≤ 20) := by
      by_cases c : s.size ≤ 20
      · rw [decide_eq_true (show (s.size : Int) ≤ 20 by omega), decide_eq_true ⟨a, c⟩]
      · rw [decide_eq_false (show ¬ (s.size : Int) ≤ 20 by omega), decide_eq_false (fun h => c h.2)]
    have HB := Lib.hid b
    clear b
    go_enter Try.func95, Try.ntmps95
    go_wp2
    go_ret
    exact ⟨by rw [← HB.out]; rfl, rfl⟩
  · have HB := Lib.hid (decide_eq_false (p := 1 ≤ s.size ∧ s.size ≤ 20) (fun h => a h.1))
    have a' : ¬ (1 : Int) ≤ (s.size : Int) := by omega
    generalize decide (1 ≤ s.size ∧ s.size ≤ 20) = d at *
    go_enter Try.func95, Try.ntmps95
    go_wp2
    go_ret
    exact ⟨by rw [HB.out]; rfl, rfl⟩
theorem lp_err {r : Except Nat Pt} {q : Nat} {e : Ending} (h : r = .error q) (he : PanicAt q e) : LinePost r e := by subst h; exact he
theorem lp_ok {r : Except Nat Pt} {p : Pt} {e : Ending} (h : r = .ok p) (he : e = .returned (.agg #[.string p.t, .int .i64 p.k, .bool p.f])) : LinePost r e := by subst h; exact he
set_option maxHeartbeats 4000000 in
theorem impl_readPattern (x : ByteArray) (w : World) (hs : x.size ≤ 1073741824) :
    Calls Try.prog 48 #[.string x] w fun e w' => LinePost (lineR x) e ∧ Below w.heap.size w w' := by
  cases h1 : cutF x 32
  · have HL := Lib.hid (show lineR x = .error 0 by unfold lineR; rw [if_neg (by rw [h1]; simp)])
    have HW := Lib.hid (fun w => impl_wordFrom_no x x 0 0 w rfl (by omega) hs (extract_all x) h1)
    clear h1
    try generalize lineR x = LR at *
    try generalize numV (lnA x) = nv at *
    try generalize numOk (lnA x) = nok at *
    try generalize cutF x 32 = one at *
    try generalize cutF (lnR x) 32 = two at *
    try generalize unL x.size (x.data.toList.drop ta) ta = UL at *
    try generalize lnA x = A at *
    try generalize lnF x = fs at *
    try generalize lnT x = T at *
    try generalize lnR x = R at *
    go_enter Try.func48, Try.ntmps48
    go_wp2_with fail
    refine (HW.out _).mono ?_
    rintro e w1 ⟨he, hb1⟩
    obtain rfl : e = .panicked [{ v := .iface 76 (.int .i64 ((0 : Nat) : Int)), recovered := false }] := he
    go_wp2_with fail
    exact ⟨rfl, lp_err HL.out rfl, below_step (by repeat (first | exact Below.refl _ _ | assumption | (refine Below.drew ?_) | (refine below_drewN ?_ _) | (refine Below.alloc ?_ (by first | omega | (simp; done) | (simp; omega)) _) | (refine Below.setCell ?_ (by first | omega | (simp; done) | (simp; omega)) _))) hb1⟩
  · have ha1 := cutF_lt h1
    obtain ⟨fa, hfa⟩ : ∃ fa, fa = 0 + (lnA x).size + 1 := ⟨_, rfl⟩
    have HW := Lib.hid (fun w => impl_wordFrom_yes x x (lnA x) 0 fa 0 w rfl (by omega) hs (extract_all x) h1 rfl hfa)
    have hra : x.extract fa x.size = lnR x := by rw [hfa]; unfold lnR cutB lnA; rw [cutA_size, Nat.zero_add]
    have hle : fa ≤ x.size := by rw [hfa]; have : (lnA x).size < x.size := ha1; omega
    have has : (lnA x).size ≤ 1073741824 := by have : (lnA x).size < x.size := ha1; omega
    have HN := Lib.hid (fun w => impl_readDecimal (lnA x) w has)
    cases h2 : numOk (lnA x)
    · have HL := Lib.hid (show lineR x = .error 0 by unfold lineR; rw [if_neg (by rw [h2]; simp)])
      have H2 := Lib.hid h2
      clear h1 h2 ha1 hra
      try generalize lineR x = LR at *
      try generalize numV (lnA x) = nv at *
      try generalize numOk (lnA x) = nok at *
      try generalize cutF x 32 = one at *
      try generalize cutF (lnR x) 32 = two at *
      try generalize unL x.size (x.data.toList.drop ta) ta = UL at *
      try generalize lnA x = A at *
      try generalize lnF x = fs at *
      try generalize lnT x = T at *
      try generalize lnR x = R at *
      go_enter Try.func48, Try.ntmps48
      go_wp2_with fail
      refine (HW.out _).mono ?_
      rintro e w1 ⟨rfl, hb1⟩
      have HB := Lib.hid (below_step (by repeat (first | exact Below.refl _ _ | assumption | (refine Below.drew ?_) | (refine below_drewN ?_ _) | (refine Below.alloc ?_ (by first | omega | (simp; done) | (simp; omega)) _) | (refine Below.setCell ?_ (by first | omega | (simp; done) | (simp; omega)) _))) hb1 : Below w.heap.size w w1)
      go_wp2_with fail
      refine (HN.out _).mono ?_
      rintro e w2 ⟨rfl, rfl⟩
      rw [H2.out]
      go_wp2_with fail
      exact ⟨rfl, lp_err HL.out rfl, HB.out⟩
    · by_cases h3 : numV (lnA x) ≤ 4
      rotate_left
      · have HL := Lib.hid (show lineR x = .error 0 by unfold lineR; rw [if_neg (by intro h; exact h3 h.2.2)])
        have H2 := Lib.hid h2
        have h3' : (4 : Int) < (numV (lnA x) : Int) := by omega
        clear h1 h2 ha1 hra
        try generalize lineR x = LR at *
        try generalize numV (lnA x) = nv at *
        try generalize numOk (lnA x) = nok at *
        try generalize cutF x 32 = one at *
        try generalize cutF (lnR x) 32 = two at *
        try generalize unL x.size (x.data.toList.drop ta) ta = UL at *
        try generalize lnA x = A at *
        try generalize lnF x = fs at *
        try generalize lnT x = T at *
        try generalize lnR x = R at *
        go_enter Try.func48, Try.ntmps48
        go_wp2_with fail
        refine (HW.out _).mono ?_
        rintro e w1 ⟨rfl, hb1⟩
        have HB := Lib.hid (below_step (by repeat (first | exact Below.refl _ _ | assumption | (refine Below.drew ?_) | (refine below_drewN ?_ _) | (refine Below.alloc ?_ (by first | omega | (simp; done) | (simp; omega)) _) | (refine Below.setCell ?_ (by first | omega | (simp; done) | (simp; omega)) _))) hb1 : Below w.heap.size w w1)
        go_wp2_with fail
        refine (HN.out _).mono ?_
        rintro e w2 ⟨rfl, rfl⟩
        rw [H2.out]
        go_wp2_with fail
        exact ⟨rfl, lp_err HL.out rfl, HB.out⟩
      · have h3' : ¬ (4 : Int) < (numV (lnA x) : Int) := by omega
        cases h4 : cutF (lnR x) 32
        · have HL := Lib.hid (show lineR x = .error ((lnA x).size + 1) by unfold lineR; rw [if_pos ⟨h1, h2, h3⟩, if_neg (by rw [h4]; simp)])
          have HX := Lib.hid (fun w => impl_wordFrom_no x (lnR x) fa fa w rfl hle hs hra h4)
          have H2 := Lib.hid h2
          have HFA := Lib.hid hfa
          clear h1 h2 h4 ha1 hra hfa
          try generalize lineR x = LR at *
          try generalize numV (lnA x) = nv at *
          try generalize numOk (lnA x) = nok at *
          try generalize cutF x 32 = one at *
          try generalize cutF (lnR x) 32 = two at *
          try generalize unL x.size (x.data.toList.drop ta) ta = UL at *
          try generalize lnA x = A at *
          try generalize lnF x = fs at *
          try generalize lnT x = T at *
          try generalize lnR x = R at *
          go_enter Try.func48, Try.ntmps48
          go_wp2_with fail
          refine (HW.out _).mono ?_
          rintro e w1 ⟨rfl, hb1⟩
          have HB := Lib.hid (below_step (by repeat (first | exact Below.refl _ _ | assumption | (refine Below.drew ?_) | (refine below_drewN ?_ _) | (refine Below.alloc ?_ (by first | omega | (simp; done) | (simp; omega)) _) | (refine Below.setCell ?_ (by first | omega | (simp; done) | (simp; omega)) _))) hb1 : Below w.heap.size w w1)
          go_wp2_with fail
          refine (HN.out _).mono ?_
          rintro e w2 ⟨rfl, rfl⟩
          rw [H2.out]
          go_wp2_with fail
          refine (HX.out _).mono ?_
          rintro e w2 ⟨he, hb2⟩
          obtain rfl : e = .panicked [{ v := .iface 76 (.int .i64 (fa : Int)), recovered := false }] := he
          go_wp2_with fail
          exact ⟨rfl, lp_err HL.out (by rw [show A.size + 1 = fa by have := HFA.out; omega]; exact rfl), HB.out.trans (hb2.mono HB.out.size)⟩
        · obtain ⟨ta, hta⟩ : ∃ ta, ta = fa + (lnF x).size + 1 := ⟨_, rfl⟩
          have HX := Lib.hid (fun w => impl_wordFrom_yes x (lnR x) (lnF x) fa ta fa w rfl hle hs hra h4 rfl hta)
          obtain ⟨hT, hTl⟩ := lnT_at x h1 h4
          have H2 := Lib.hid h2
          by_cases h5 : lnF x = strI ∨ lnF x = strM
          rotate_left
          · have HL := Lib.hid (show lineR x = .error ((lnA x).size + 1) by unfold lineR; rw [if_pos ⟨h1, h2, h3⟩, if_neg (by intro h; exact h5 h.2)])
            have n1 := toL_ne (s := lnF x) (l := [105]) (fun h => h5 (.inl h))
            have n2 := toL_ne (s := lnF x) (l := [45]) (fun h => h5 (.inr h))
            have HFA := Lib.hid hfa
            clear h1 h2 h4 h5 ha1 hra hfa hT hTl hta
            generalize lnF x = fs at *
            try generalize lineR x = LR at *
            try generalize numV (lnA x) = nv at *
            try generalize numOk (lnA x) = nok at *
            try generalize cutF x 32 = one at *
            try generalize cutF (lnR x) 32 = two at *
            try generalize unL x.size (x.data.toList.drop ta) ta = UL at *
            try generalize lnA x = A at *
            try generalize lnF x = fs at *
            try generalize lnT x = T at *
            try generalize lnR x = R at *
            go_enter Try.func48, Try.ntmps48
            go_wp2_with fail
            refine (HW.out _).mono ?_
            rintro e w1 ⟨rfl, hb1⟩
            have HB := Lib.hid (below_step (by repeat (first | exact Below.refl _ _ | assumption | (refine Below.drew ?_) | (refine below_drewN ?_ _) | (refine Below.alloc ?_ (by first | omega | (simp; done) | (simp; omega)) _) | (refine Below.setCell ?_ (by first | omega | (simp; done) | (simp; omega)) _))) hb1 : Below w.heap.size w w1)
            go_wp2_with fail
            refine (HN.out _).mono ?_
            rintro e w2 ⟨rfl, rfl⟩
            rw [H2.out]
            go_wp2_with fail
            refine (HX.out _).mono ?_
            rintro e w2 ⟨rfl, hb2⟩
            have HB2 := Lib.hid (HB.out.trans (hb2.mono HB.out.size))
            clear hb1 hb2
            go_wp2_with fail
            exact ⟨rfl, lp_err HL.out (by rw [show A.size + 1 = fa by have := HFA.out; omega]; exact rfl), HB2.out⟩
          · have hfs : (lnF x).size = 1 := by rcases h5 with h | h <;> rw [h] <;> rfl
            have htb : ta = (lnA x).size + 3 := by omega
            have hTx : lnT x = x.extract ta x.size := by
                have e : (lnA x).size + (lnF x).size + 2 = ta := by omega
                rw [← e]; exact hT
            have htl : ta ≤ x.size := by omega
            have hU := unL_from x ta htl
            rw [← hTx] at hU
            have HU0 := fun w => impl_unescapeFrom x ta w htl hs
            cases h6 : unAll (lnT x) with
            | error q =>
              have hU2 : unL x.size (x.data.toList.drop ta) ta = .error (q + ta) := by rw [hU, h6]
              have HU := Lib.hid (fun w => show Calls Try.prog 94 #[.string x, .int .i64 (ta : Int)] w fun e w' => e = .panicked [{ v := .iface 76 (.int .i64 ((q + ta : Nat) : Int)), recovered := false }] ∧ Below w.heap.size w w' from by have h := HU0 w; rw [hU2] at h; exact h)
              have HL := Lib.hid (show lineR x = .error (q + ta) by unfold lineR; rw [if_pos ⟨h1, h2, h3⟩, if_pos ⟨h4, h5⟩, h6, htb]; exact congrArg Except.error (by omega))
              clear HU0 hU hU2
              rcases h5 with h5 | h5
              · have n1 : ((lnF x).toList == [105]) = true := by rw [h5]; exact strI_I
                clear h1 h2 h4 h5 ha1 hra hfa hT hTl hta h6 hTx hfs htb
                generalize lnF x = fs at *
                try generalize lineR x = LR at *
                try generalize numV (lnA x) = nv at *
                try generalize numOk (lnA x) = nok at *
                try generalize cutF x 32 = one at *
                try generalize cutF (lnR x) 32 = two at *
                try generalize unL x.size (x.data.toList.drop ta) ta = UL at *
                try generalize lnA x = A at *
                try generalize lnF x = fs at *
                try generalize lnT x = T at *
                try generalize lnR x = R at *
                go_enter Try.func48, Try.ntmps48
                go_wp2_with fail
                refine (HW.out _).mono ?_
                rintro e w1 ⟨rfl, hb1⟩
                have HB := Lib.hid (below_step (by repeat (first | exact Below.refl _ _ | assumption | (refine Below.drew ?_) | (refine below_drewN ?_ _) | (refine Below.alloc ?_ (by first | omega | (simp; done) | (simp; omega)) _) | (refine Below.setCell ?_ (by first | omega | (simp; done) | (simp; omega)) _))) hb1 : Below w.heap.size w w1)
                go_wp2_with fail
                refine (HN.out _).mono ?_
                rintro e w2 ⟨rfl, rfl⟩
                rw [H2.out]
                go_wp2_with fail
                refine (HX.out _).mono ?_
                rintro e w2 ⟨rfl, hb2⟩
                have HB2 := Lib.hid (HB.out.trans (hb2.mono HB.out.size))
                clear hb1 hb2
                go_wp2_with fail
                refine (HU.out _).mono ?_
                rintro e w3 ⟨rfl, hb3⟩
                go_wp2_with fail
                exact ⟨rfl, lp_err HL.out rfl, HB2.out.trans (hb3.mono HB2.out.size)⟩
              · have n1 : ((lnF x).toList == [105]) = false := by rw [h5]; exact strM_I
                have n2 : ((lnF x).toList == [45]) = true := by rw [h5]; exact strM_M
                clear h1 h2 h4 h5 ha1 hra hfa hT hTl hta h6 hTx hfs htb
                generalize lnF x = fs at *
                try generalize lineR x = LR at *
                try generalize numV (lnA x) = nv at *
                try generalize numOk (lnA x) = nok at *
                try generalize cutF x 32 = one at *
                try generalize cutF (lnR x) 32 = two at *
                try generalize unL x.size (x.data.toList.drop ta) ta = UL at *
                try generalize lnA x = A at *
                try generalize lnF x = fs at *
                try generalize lnT x = T at *
                try generalize lnR x = R at *
                go_enter Try.func48, Try.ntmps48
                go_wp2_with fail
                refine (HW.out _).mono ?_
                rintro e w1 ⟨rfl, hb1⟩
                have HB := Lib.hid (below_step (by repeat (first | exact Below.refl _ _ | assumption | (refine Below.drew ?_) | (refine below_drewN ?_ _) | (refine Below.alloc ?_ (by first | omega | (simp; done) | (simp; omega)) _) | (refine Below.setCell ?_ (by first | omega | (simp; done) | (simp; omega)) _))) hb1 : Below w.heap.size w w1)
                go_wp2_with fail
                refine (HN.out _).mono ?_
                rintro e w2 ⟨rfl, rfl⟩
                rw [H2.out]
                go_wp2_with fail
                refine (HX.out _).mono ?_
                rintro e w2 ⟨rfl, hb2⟩
                have HB2 := Lib.hid (HB.out.trans (hb2.mono HB.out.size))
                clear hb1 hb2
                go_wp2_with fail
                refine (HU.out _).mono ?_
                rintro e w3 ⟨rfl, hb3⟩
                go_wp2_with fail
                exact ⟨rfl, lp_err HL.out rfl, HB2.out.trans (hb3.mono HB2.out.size)⟩
            | ok l =>
              have hU2 : unL x.size (x.data.toList.drop ta) ta = .ok l := by rw [hU, h6]
              have HU := Lib.hid (fun w => show Calls Try.prog 94 #[.string x, .int .i64 (ta : Int)] w fun e w' => e = .returned (.string ⟨l.toArray⟩) ∧ Below w.heap.size w w' from by have h := HU0 w; rw [hU2] at h; exact h)
              have hll : (⟨l.toArray⟩ : ByteArray).size ≤ 1073741824 := Nat.le_trans (unAll_len h6) (Nat.le_trans (show (lnT x).size ≤ x.size by rw [hTx, ByteArray.size_extract]; omega) hs)
              have HP := Lib.hid (fun w => impl_patternTextOk ⟨l.toArray⟩ w hll)
              clear HU0 hU hU2
              by_cases h7 : 1 ≤ l.length ∧ l.length ≤ 20
              · have H7 := Lib.hid (show decide (1 ≤ (⟨l.toArray⟩ : ByteArray).size ∧ (⟨l.toArray⟩ : ByteArray).size ≤ 20) = true from decide_eq_true h7)
                rcases h5 with h5 | h5
                · have n1 : ((lnF x).toList == [105]) = true := by rw [h5]; exact strI_I
                  have HL := Lib.hid (show lineR x = .ok ⟨⟨l.toArray⟩, numV (lnA x), true⟩ by unfold lineR; rw [if_pos ⟨h1, h2, h3⟩, if_pos ⟨h4, by rw [h5]; simp⟩, h6]; simp only; rw [if_pos h7, h5]; rfl)
                  clear h1 h2 h4 h5 ha1 hra hfa hT hTl hta h6 hTx hfs htb
                  generalize lnF x = fs at *
                  try generalize lineR x = LR at *
                  try generalize numV (lnA x) = nv at *
                  try generalize numOk (lnA x) = nok at *
                  try generalize cutF x 32 = one at *
                  try generalize cutF (lnR x) 32 = two at *
                  try generalize unL x.size (x.data.toList.drop ta) ta = UL at *
                  try generalize lnA x = A at *
                  try generalize lnF x = fs at *
                  try generalize lnT x = T at *
                  try generalize lnR x = R at *
                  go_enter Try.func48, Try.ntmps48
                  go_wp2_with fail
                  refine (HW.out _).mono ?_
                  rintro e w1 ⟨rfl, hb1⟩
                  have HB := Lib.hid (below_step (by repeat (first | exact Below.refl _ _ | assumption | (refine Below.drew ?_) | (refine below_drewN ?_ _) | (refine Below.alloc ?_ (by first | omega | (simp; done) | (simp; omega)) _) | (refine Below.setCell ?_ (by first | omega | (simp; done) | (simp; omega)) _))) hb1 : Below w.heap.size w w1)
                  have HR1 := Lib.hid ((hb1.block w.heap.size (by simp)).trans (heap_alloc_new w (.cells #[.string ⟨#[]⟩, .int .i64 0, .bool false] 73)))
                  have z1 : w.heap.size < w1.heap.size := by have h0 := hb1.size; simp at h0; omega
                  go_wp2_with fail
                  refine (HN.out _).mono ?_
                  rintro e w2 ⟨rfl, rfl⟩
                  rw [H2.out]
                  go_wp2_with fail
                  refine (HX.out _).mono ?_
                  rintro e w2 ⟨rfl, hb2⟩
                  have HB2 := Lib.hid (HB.out.trans (hb2.mono HB.out.size))
                  have HR2 := Lib.hid ((hb2.block w.heap.size z1).trans HR1.out)
                  have z2 : w.heap.size < w2.heap.size := by have h0 := hb2.size; omega
                  clear hb1 hb2
                  go_wp2_with fail
                  refine (HU.out _).mono ?_
                  rintro e w3 ⟨rfl, hb3⟩
                  have HB3 := Lib.hid (HB2.out.trans (hb3.mono HB2.out.size))
                  have hR3 := (hb3.block w.heap.size z2).trans HR2.out
                  have p0 : w3.cell? ⟨w.heap.size, 0, none⟩ = some (.string ⟨#[]⟩) := by rw [cell_of_row _ _ 0 _ _ _ hR3]; rfl
                  have p1 : w3.cell? ⟨w.heap.size, 1, none⟩ = some (.int .i64 0) := by rw [cell_of_row _ _ 1 _ _ _ hR3]; rfl
                  have p2 : w3.cell? ⟨w.heap.size, 2, none⟩ = some (.bool false) := by rw [cell_of_row _ _ 2 _ _ _ hR3]; rfl
                  have f0 := frozen_of_row _ _ 0 _ _ hR3
                  have f1 := frozen_of_row _ _ 1 _ _ hR3
                  have f2 := frozen_of_row _ _ 2 _ _ hR3
                  clear hR3
                  clear hb3
                  go_wp2_with fail
                  refine (HP.out _).mono ?_
                  rintro e w4 ⟨rfl, rfl⟩
                  rw [H7.out]
                  go_wp2_with fail
                  refine bodyPost_ret (v := .agg #[.string ⟨l.toArray⟩, .int .i64 (nv : Int), .bool true]) (by simp [results, Try.results48, go_sem, p0, p1, p2]) rfl ⟨lp_ok HL.out rfl, (((HB3.out.setCell (p := ⟨w.heap.size, 0, none⟩) (by simp) _).setCell (p := ⟨w.heap.size, 1, none⟩) (by simp) _).setCell (p := ⟨w.heap.size, 2, none⟩) (by simp) _)⟩
                · have n1 : ((lnF x).toList == [105]) = false := by rw [h5]; exact strM_I
                  have n2 : ((lnF x).toList == [45]) = true := by rw [h5]; exact strM_M
                  have HL := Lib.hid (show lineR x = .ok ⟨⟨l.toArray⟩, numV (lnA x), false⟩ by unfold lineR; rw [if_pos ⟨h1, h2, h3⟩, if_pos ⟨h4, by rw [h5]; simp⟩, h6]; simp only; rw [if_pos h7, h5]; rfl)
                  clear h1 h2 h4 h5 ha1 hra hfa hT hTl hta h6 hTx hfs htb
                  generalize lnF x = fs at *
                  try generalize lineR x = LR at *
                  try generalize numV (lnA x) = nv at *
                  try generalize numOk (lnA x) = nok at *
                  try generalize cutF x 32 = one at *
                  try generalize cutF (lnR x) 32 = two at *
                  try generalize unL x.size (x.data.toList.drop ta) ta = UL at *
                  try generalize lnA x = A at *
                  try generalize lnF x = fs at *
                  try generalize lnT x = T at *
                  try generalize lnR x = R at *
                  go_enter Try.func48, Try.ntmps48
                  go_wp2_with fail
                  refine (HW.out _).mono ?_
                  rintro e w1 ⟨rfl, hb1⟩
                  have HB := Lib.hid (below_step (by repeat (first | exact Below.refl _ _ | assumption | (refine Below.drew ?_) | (refine below_drewN ?_ _) | (refine Below.alloc ?_ (by first | omega | (simp; done) | (simp; omega)) _) | (refine Below.setCell ?_ (by first | omega | (simp; done) | (simp; omega)) _))) hb1 : Below w.heap.size w w1)
                  have HR1 := Lib.hid ((hb1.block w.heap.size (by simp)).trans (heap_alloc_new w (.cells #[.string ⟨#[]⟩, .int .i64 0, .bool false] 73)))
                  have z1 : w.heap.size < w1.heap.size := by have h0 := hb1.size; simp at h0; omega
                  go_wp2_with fail
                  refine (HN.out _).mono ?_
                  rintro e w2 ⟨rfl, rfl⟩
                  rw [H2.out]
                  go_wp2_with fail
                  refine (HX.out _).mono ?_
                  rintro e w2 ⟨rfl, hb2⟩
                  have HB2 := Lib.hid (HB.out.trans (hb2.mono HB.out.size))
                  have HR2 := Lib.hid ((hb2.block w.heap.size z1).trans HR1.out)
                  have z2 : w.heap.size < w2.heap.size := by have h0 := hb2.size; omega
                  clear hb1 hb2
                  go_wp2_with fail
                  refine (HU.out _).mono ?_
                  rintro e w3 ⟨rfl, hb3⟩
                  have HB3 := Lib.hid (HB2.out.trans (hb3.mono HB2.out.size))
                  have hR3 := (hb3.block w.heap.size z2).trans HR2.out
                  have p0 : w3.cell? ⟨w.heap.size, 0, none⟩ = some (.string ⟨#[]⟩) := by rw [cell_of_row _ _ 0 _ _ _ hR3]; rfl
                  have p1 : w3.cell? ⟨w.heap.size, 1, none⟩ = some (.int .i64 0) := by rw [cell_of_row _ _ 1 _ _ _ hR3]; rfl
                  have p2 : w3.cell? ⟨w.heap.size, 2, none⟩ = some (.bool false) := by rw [cell_of_row _ _ 2 _ _ _ hR3]; rfl
                  have f0 := frozen_of_row _ _ 0 _ _ hR3
                  have f1 := frozen_of_row _ _ 1 _ _ hR3
                  have f2 := frozen_of_row _ _ 2 _ _ hR3
                  clear hR3
                  clear hb3
                  go_wp2_with fail
                  refine (HP.out _).mono ?_
                  rintro e w4 ⟨rfl, rfl⟩
                  rw [H7.out]
                  go_wp2_with fail
                  refine bodyPost_ret (v := .agg #[.string ⟨l.toArray⟩, .int .i64 (nv : Int), .bool false]) (by simp [results, Try.results48, go_sem, p0, p1, p2]) rfl ⟨lp_ok HL.out rfl, (((HB3.out.setCell (p := ⟨w.heap.size, 0, none⟩) (by simp) _).setCell (p := ⟨w.heap.size, 1, none⟩) (by simp) _).setCell (p := ⟨w.heap.size, 2, none⟩) (by simp) _)⟩
              · have H7 := Lib.hid (show decide (1 ≤ (⟨l.toArray⟩ : ByteArray).size ∧ (⟨l.toArray⟩ : ByteArray).size ≤ 20) = false from decide_eq_false h7)
                have HL := Lib.hid (show lineR x = .error ta by unfold lineR; rw [if_pos ⟨h1, h2, h3⟩, if_pos ⟨h4, h5⟩, h6]; simp only; rw [if_neg h7, htb])
                rcases h5 with h5 | h5
                · have n1 : ((lnF x).toList == [105]) = true := by rw [h5]; exact strI_I
                  clear h1 h2 h4 h5 ha1 hra hfa hT hTl hta h6 hTx hfs htb
                  generalize lnF x = fs at *
                  try generalize lineR x = LR at *
                  try generalize numV (lnA x) = nv at *
                  try generalize numOk (lnA x) = nok at *
                  try generalize cutF x 32 = one at *
                  try generalize cutF (lnR x) 32 = two at *
                  try generalize unL x.size (x.data.toList.drop ta) ta = UL at *
                  try generalize lnA x = A at *
                  try generalize lnF x = fs at *
                  try generalize lnT x = T at *
                  try generalize lnR x = R at *
                  go_enter Try.func48, Try.ntmps48
                  go_wp2_with fail
                  refine (HW.out _).mono ?_
                  rintro e w1 ⟨rfl, hb1⟩
                  have HB := Lib.hid (below_step (by repeat (first | exact Below.refl _ _ | assumption | (refine Below.drew ?_) | (refine below_drewN ?_ _) | (refine Below.alloc ?_ (by first | omega | (simp; done) | (simp; omega)) _) | (refine Below.setCell ?_ (by first | omega | (simp; done) | (simp; omega)) _))) hb1 : Below w.heap.size w w1)
                  go_wp2_with fail
                  refine (HN.out _).mono ?_
                  rintro e w2 ⟨rfl, rfl⟩
                  rw [H2.out]
                  go_wp2_with fail
                  refine (HX.out _).mono ?_
                  rintro e w2 ⟨rfl, hb2⟩
                  have HB2 := Lib.hid (HB.out.trans (hb2.mono HB.out.size))
                  clear hb1 hb2
                  go_wp2_with fail
                  refine (HU.out _).mono ?_
                  rintro e w3 ⟨rfl, hb3⟩
                  have HB3 := Lib.hid (HB2.out.trans (hb3.mono HB2.out.size))
                  clear hb3
                  go_wp2_with fail
                  refine (HP.out _).mono ?_
                  rintro e w4 ⟨rfl, rfl⟩
                  rw [H7.out]
                  go_wp2_with fail
                  exact ⟨rfl, lp_err HL.out rfl, HB3.out⟩
                · have n1 : ((lnF x).toList == [105]) = false := by rw [h5]; exact strM_I
                  have n2 : ((lnF x).toList == [45]) = true := by rw [h5]; exact strM_M
                  clear h1 h2 h4 h5 ha1 hra hfa hT hTl hta h6 hTx hfs htb
                  generalize lnF x = fs at *
                  try generalize lineR x = LR at *
                  try generalize numV (lnA x) = nv at *
                  try generalize numOk (lnA x) = nok at *
                  try generalize cutF x 32 = one at *
                  try generalize cutF (lnR x) 32 = two at *
                  try generalize unL x.size (x.data.toList.drop ta) ta = UL at *
                  try generalize lnA x = A at *
                  try generalize lnF x = fs at *
                  try generalize lnT x = T at *
                  try generalize lnR x = R at *
                  go_enter Try.func48, Try.ntmps48
                  go_wp2_with fail
                  refine (HW.out _).mono ?_
                  rintro e w1 ⟨rfl, hb1⟩
                  have HB := Lib.hid (below_step (by repeat (first | exact Below.refl _ _ | assumption | (refine Below.drew ?_) | (refine below_drewN ?_ _) | (refine Below.alloc ?_ (by first | omega | (simp; done) | (simp; omega)) _) | (refine Below.setCell ?_ (by first | omega | (simp; done) | (simp; omega)) _))) hb1 : Below w.heap.size w w1)
                  go_wp2_with fail
                  refine (HN.out _).mono ?_
                  rintro e w2 ⟨rfl, rfl⟩
                  rw [H2.out]
                  go_wp2_with fail
                  refine (HX.out _).mono ?_
                  rintro e w2 ⟨rfl, hb2⟩
                  have HB2 := Lib.hid (HB.out.trans (hb2.mono HB.out.size))
                  clear hb1 hb2
                  go_wp2_with fail
                  refine (HU.out _).mono ?_
                  rintro e w3 ⟨rfl, hb3⟩
                  have HB3 := Lib.hid (HB2.out.trans (hb3.mono HB2.out.size))
                  clear hb3
                  go_wp2_with fail
                  refine (HP.out _).mono ?_
                  rintro e w4 ⟨rfl, rfl⟩
                  rw [H7.out]
                  go_wp2_with fail
                  exact ⟨rfl, lp_err HL.out rfl, HB3.out⟩
end Go.Proofs.Ytodmohepgmhipaa

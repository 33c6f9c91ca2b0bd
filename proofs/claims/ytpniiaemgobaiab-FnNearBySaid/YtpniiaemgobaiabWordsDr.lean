/-
  Words, as the drawers make them.
-/
import Derived.Test.YtpniiaemgobaiabMTree
import Derived.Test.YtpniiaemgobaiabStrLaw
import Derived.Maps.AppendAt
namespace Go.Proofs.Ytpniiaemgobaiab
open Go.RowKit
set_option linter.unusedVariables false
set_option maxRecDepth 100000
def tOf (L : List (List UInt8)) (i : Nat) : ByteArray := txt (L.getD i [])
theorem tOf_size {L : List (List UInt8)} {B : Nat} (h : ∀ x ∈ L, x.length ≤ B) (i : Nat) : (tOf L i).size ≤ B := by
  unfold tOf
  rw [txt_size, List.getD_eq_getElem?_getD]
  cases e : L[i]? with
  | none => exact Nat.zero_le _
  | some x => exact h x (List.mem_of_getElem? e)
theorem vals_tOf {w : World} {a : Option Addr} {L : List (List UInt8)} {m : Nat} (hm : L.length = m) (h : Vals w a (strs L)) : Vals w a (strL (tOf L) m) := by rw [strs_strL, hm] at h; exact h
theorem strs_add (L : List (List UInt8)) (y : ByteArray) : strs (L ++ [bl y]) = strs L ++ [Value.string y] := by
  rw [strs_append]; simp [strs, strV, txt_bl]
theorem OwnV.rd {e m R : Nat} {w w1 : World} {B : Nat} {a : Option Addr} {n cap : Nat} {V : List Value} (h : OwnV e m w B a n cap V) (hg : w.grownBy w1 (some R)) (hR : R < B) : OwnV e m w1 B a n cap V :=
  ⟨h.1, h.2.kept hg (.inr fun e => by have := (h.2.lt R e).1; omega)⟩
theorem wstr_info : (Try.prog.info? 9).map (fun i => (i.zero, i.size, i.bytes)) = some (some (.string ⟨#[]⟩), 1, 16) := by kernel_rfl
set_option maxHeartbeats 2000000 in
theorem rd_words (w : World) (R : Nat) (a : Option Addr) (len cap : Nat) (z : List Int) (h : RdOk w R a len cap z) (n : Nat) (hn : n ≤ 100) :
    Calls Try.prog 41 #[.pointer (some ⟨R, 0, none⟩), .int .i64 n] w fun e w' => ∃ (L : List (List UInt8)) (m : Nat) (a' : Option Addr) (cp : Nat), e = .returned (.slice a' m cp) ∧ L.length = m ∧ m ≤ n + 1 ∧ (∀ x ∈ L, x.length ≤ 6) ∧ OwnV 9 1 w' w.heap.size a' m cp (strs L) ∧ RdOk w' R a len cap z ∧ w.grownBy w' (some R) := by
  obtain ⟨i0, hi, ht0, ht1, ht2⟩ := info_parts wstr_info
  have hwz := h.lt
  go_enter Try.func41, Try.ntmps41
  go_wp2_with fail
  refine (rd_below _ _ _ _ _ _ (h.alloc _) _).mono ?_
  rintro e w1 ⟨m, rfl, ⟨hm0, hm3, hm1, _⟩, hok, hg⟩
  have hm2 : m ≤ n := by
    by_cases h1 : (n : Int) + 1 ≤ 1
    · have := hm3 h1; omega
    · have := hm1 (by omega); omega
  clear hm1 hm3
  obtain ⟨q, rfl⟩ := Int.eq_ofNat_of_zero_le hm0
  have HG1 := Lib.hid (show w.grownBy w1 (some R) from grownBy_trans (World.grownBy_alloc w _ _) hg)
  have HO0 := Lib.hid (show OwnV 9 1 w1 w.heap.size (some ⟨w.heap.size, 0, none⟩) 0 0 (strs []) from ⟨rfl, (World.ownsRow_made (e := 9) (size := 1) w #[] 0 (Nat.le_refl _) (by decide) rfl).kept hg (.inr (by simp [Value.ownBlock]; omega))⟩)
  have hqn : q ≤ n := by omega
  clear hg hm0 hm2
  go_wp2_with fail
  go_loopw [5, 6] (fun v i wr => ∃ (k m cp : Nat) (a' : Option Addr) (L : List (List UInt8)), m + k = q ∧ i = .int .i64 k ∧ v = .slice a' m cp ∧ L.length = m ∧ (∀ x ∈ L, x.length ≤ 6) ∧ OwnV 9 1 wr w.heap.size a' m cp (strs L) ∧ RdOk wr R a len cap z ∧ w.grownBy wr (some R))
    (fun _ i _ => (intOf i).toNat)
  case atStart => exact ⟨q, 0, 0, some ⟨w.heap.size, 0, none⟩, [], by omega, rfl, rfl, rfl, fun x hx => (by cases hx), HO0.out, hok, HG1.out⟩
  case round =>
    obtain ⟨k, m, cp, a', L, hmk, rfl, rfl, hL, hx, hO, hokr, hgr⟩ := hrel
    have HO := Lib.hid hO; have HGR := Lib.hid hgr; have HX := Lib.hid hx; have HL := Lib.hid hL; have HMK := Lib.hid hmk
    have hmq : m + k ≤ n := by omega
    clear hO hgr hx hL HO0 HG1 hok hmk
    by_cases hk0 : k = 0
    · subst hk0
      go_wp2_with fail
      refine (rd_once _ _ _ _ _ _ hokr _ (by omega) (by omega)).mono ?_
      rintro e w2 ⟨c, rfl, hok2, hg2⟩
      have HO2 := Lib.hid (HO.out.rd hg2 hwz)
      have HG2 := Lib.hid (grownBy_trans HGR.out hg2)
      have hzw : w.heap.size ≤ w2.heap.size := HG2.out.size
      clear hg2
      cases c
      · go_wp2_with fail
        go_ret
        exact ⟨L, m, a', cp, rfl, HL.out, by omega, HX.out, HO2.out, hok2, HG2.out⟩
      · have hB5 : Below w2.heap.size w2 (w2.alloc (.cells #[Value.string ⟨#[]⟩] 9)) := (Below.refl _ _).alloc (Nat.le_refl _) _
        have HK5 := Lib.hid (HO2.out.kept hB5)
        have HC5 := Lib.hid (cells_new w2 #[Value.string ⟨#[]⟩] 9)
        have HL5 := Lib.hid (show (strs L ++ [Value.string ⟨#[]⟩]).length = (m + 1) * 1 by rw [List.length_append, strs_length, HL.out]; simp)
        clear hB5
        go_wp2_with (at_builtin; refine wpList_append_own _ rfl _ _ 24 rfl w.heap.size 9 i0 (.string ⟨#[]⟩) 1 16 Try.underlying24 hi ht0 ht1 ht2 rfl (by decide) _ _ _ rfl HK5.out.2 ⟨w2.heap.size, 0, none⟩ 1 1 [Value.string ⟨#[]⟩] rfl rfl HC5.out (by simp [Value.oneCell']) (by unfold maxLen; omega) (by omega) (by simp; omega) ?_; intro v6 w6 hown6 hg6 _; obtain ⟨a6, cap6, rfl, hO6⟩ := OwnV.shape HL5.out (show w6.ownsRow w.heap.size 9 1 v6 (m + 1) (strs L ++ [Value.string ⟨#[]⟩]) by exact hown6); have HO6 := Lib.hid hO6; have HG6 := Lib.hid (grownBy_own (grownBy_alloc HG2.out _) hg6 (fun k hk => (HK5.out.2.lt k hk).1)); have HR6 := Lib.hid ((hok2.alloc (.cells #[Value.string ⟨#[]⟩] 9)).grown hg6 (fun k hk => by have := (HK5.out.2.lt k hk).1; omega)); clear hown6 hg6 hO6)
        go_ret
        exact ⟨L ++ [bl ⟨#[]⟩], m + 1, a6, cap6, rfl, by rw [List.length_append, HL.out]; rfl, by omega, fun x hx => by rcases List.mem_append.1 hx with h | h; exact HX.out x h; rw [List.mem_singleton.1 h]; exact Nat.zero_le _, by rw [strs_add]; exact HO6.out, HR6.out, HG6.out⟩
    · go_wp2_with fail
      refine (rd_term _ _ _ _ _ _ hokr 5 (by omega)).mono ?_
      rintro e w2 ⟨y, rfl, hy, hok2, hg2⟩
      have HO2 := Lib.hid (HO.out.rd hg2 hwz)
      have HG2 := Lib.hid (grownBy_trans HGR.out hg2)
      have hzw : w.heap.size ≤ w2.heap.size := HG2.out.size
      have hB5 : Below w2.heap.size w2 (w2.alloc (.cells #[Value.string y] 9)) := (Below.refl _ _).alloc (Nat.le_refl _) _
      have HK5 := Lib.hid (HO2.out.kept hB5)
      have HC5 := Lib.hid (cells_new w2 #[Value.string y] 9)
      have HL5 := Lib.hid (show (strs L ++ [Value.string y]).length = (m + 1) * 1 by rw [List.length_append, strs_length, HL.out]; simp)
      clear hg2 hB5
      go_wp2_with (at_builtin; refine wpList_append_own _ rfl _ _ 24 rfl w.heap.size 9 i0 (.string ⟨#[]⟩) 1 16 Try.underlying24 hi ht0 ht1 ht2 rfl (by decide) _ _ _ rfl HK5.out.2 ⟨w2.heap.size, 0, none⟩ 1 1 [Value.string y] rfl rfl HC5.out (by simp [Value.oneCell']) (by unfold maxLen; omega) (by omega) (by simp; omega) ?_; intro v6 w6 hown6 hg6 _; obtain ⟨a6, cap6, rfl, hO6⟩ := OwnV.shape HL5.out (show w6.ownsRow w.heap.size 9 1 v6 (m + 1) (strs L ++ [Value.string y]) by exact hown6); have HO6 := Lib.hid hO6; have HG6 := Lib.hid (grownBy_own (grownBy_alloc HG2.out _) hg6 (fun k hk => (HK5.out.2.lt k hk).1)); have HR6 := Lib.hid ((hok2.alloc (.cells #[Value.string y] 9)).grown hg6 (fun k hk => by have := (HK5.out.2.lt k hk).1; omega)); clear hown6 hg6 hO6)
      go_roundw
      case rel => exact ⟨k - 1, m + 1, cap6, a6, L ++ [bl y], by have := HMK.out; omega, by congr 1; omega, rfl, by rw [List.length_append, HL.out]; rfl, fun x hx => by rcases List.mem_append.1 hx with h | h; exact HX.out x h; rw [List.mem_singleton.1 h, bl_len]; exact hy, by rw [strs_add]; exact HO6.out, HR6.out, HG6.out⟩
      case measure => simp [intOf]; omega
theorem drawBkOf (a : Option Addr) (len cap : Nat) (z : List Int) (w : World) (hr : IsRow .u8 w a len cap z) (hl : len ≤ 1048576) :
    Calls Try.prog 10 #[.slice a len cap] w fun e w' => ∃ (L : List (List UInt8)) (m : Nat) (a' : Option Addr) (cp : Nat), e = .returned (.slice a' m cp) ∧ L.length = m ∧ m ≤ 10 ∧ (∀ x ∈ L, x.length ≤ 6) ∧ OwnV 9 1 w' w.heap.size a' m cp (strs L) ∧ Below w.heap.size w w' := by
  go_enter Try.func10, Try.ntmps10
  go_wp2_with fail
  refine (l1Open_any _ _ _ _ _ hr hl).mono ?_
  rintro e w1 ⟨rfl, hok, hb⟩
  go_wp2_with fail
  refine (rd_words _ _ _ _ _ _ hok 9 (by omega)).mono ?_
  rintro e w2 ⟨L, m, a', cp, rfl, hL, hm, hx, hO, hok2, hg2⟩
  have HL := Lib.hid hL
  clear hL
  go_wp2_with fail
  go_ret
  exact ⟨L, m, a', cp, rfl, HL.out, hm, hx, hO.mono hb.size, below_rd hb hg2⟩
end Go.Proofs.Ytpniiaemgobaiab

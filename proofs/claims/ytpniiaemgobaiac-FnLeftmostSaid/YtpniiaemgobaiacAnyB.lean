/-
  Some of the first k (plain).
-/
import Derived.Test.YtpniiaemgobaiacRows
namespace Go.Proofs.Ytpniiaemgobaiac
set_option linter.unusedVariables false
set_option maxRecDepth 100000
/-- some of the first k -/
def anyB (p : Nat → Bool) : Nat → Bool
  | 0 => false
  | k + 1 => anyB p k || p k
theorem anyB_iff {p : Nat → Bool} : ∀ {n}, anyB p n = true ↔ ∃ c, c < n ∧ p c = true
  | 0 => ⟨fun h => (by cases h), fun ⟨c, h, _⟩ => (by omega)⟩
  | n + 1 => by
    rw [anyB, Bool.or_eq_true, anyB_iff]
    constructor
    · rintro (⟨c, h1, h2⟩ | h)
      · exact ⟨c, by omega, h2⟩
      · exact ⟨n, by omega, h⟩
    · rintro ⟨c, h1, h2⟩
      by_cases e : c = n
      · subst e; exact .inr h2
      · exact .inl ⟨c, by omega, h2⟩
end Go.Proofs.Ytpniiaemgobaiac

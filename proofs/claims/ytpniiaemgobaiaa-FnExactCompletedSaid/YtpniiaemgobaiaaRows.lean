/-
  No cell of these rows narrows 'for every input' (looked for: loops, veiled, ifaces, maps, wideKeys, modest, calm, conditions, laid).
  DERIVED. THE GIVEN ROWS OF THIS SEAT. 6 by the template 'for every input the law returns true; each argument reads behind the call as it read before'; 0 by the template 'total and deterministic' (their statements: YtpniiaemgobaiaaTotals.lean).
  GIVEN WITH THE SEED: the statements are not yours to turn. If you find one false, say at which input.
  Laid BY PROGRAM, IN A SANDBOX (cutbox-rows.mjs): the forced cells as the released guide's own fill.sh prints them over the translation 423ef971834835a4… (all of the seat's roots in one cut). By AI agents, Wed Nov 11 2026. No macro, syntax, notation, axiom, sorry.
-/
import Derived.Test.YtpniiaemgobaiaaChecked
import GoSem.Claim
import GoSem.ClaimJoined
import GoSem.ClaimMapViews
import Derived.JoinedTies
import Derived.KernelRfl
namespace Go.Proofs.Ytpniiaemgobaiaa
/- THE CELL 'sum', in the pinned program and in every row, IS THE sha256 OF THE DUMP (.gsa) THAT YtpniiaemgobaiaaProg.lean LOADS. Nothing in Lean hashes anything: it is a label: what it is worth is what the hold of that sum in a sandbox is worth. -/
noncomputable def Try.pinned : Pinned := { name := "ytpniiaemgobaiaa", sum := "423ef971834835a40a5e445228aba29ab5aaa99331b4360c891537a62b74d85d", checked := Try.checked }
namespace Rows
def none {H : Type} : Left H := { results := [], args := [] }

/-- 'laws.FnExactLeftmost': WHATEVER THE INPUT: true; the input reads as it did. -/
def fnExactLeftmostSpec : ChangeSpec := { name := "fnExactLeftmost", fn := fun _ => fun
  | [d] => { results := [.lit (.bool true)], args := [d] }
  | _ => none }
def fnExactLeftmostRow : OpenClaim := { program := "ytpniiaemgobaiaa", sum := "423ef971834835a40a5e445228aba29ab5aaa99331b4360c891537a62b74d85d", func := "loop.example/g00568/laws.FnExactLeftmost", spec := "fnExactLeftmost", unfollowed := true, recurses := true, apart := false }
def FnExactLeftmostSaid : Prop := fnExactLeftmostRow.holds Try.pinned (OpenSpec.ofChange fnExactLeftmostSpec)

/-- ITS FALSE NEIGHBOUR: 'it returns false'. Refute it at one input. -/
def fnExactLeftmostWrong : ChangeSpec := { name := "fnExactLeftmost", fn := fun _ => fun
  | [d] => { results := [.lit (.bool false)], args := [d] }
  | _ => none }
def FnExactLeftmostWrongFalsely : Prop := fnExactLeftmostRow.holds Try.pinned (OpenSpec.ofChange fnExactLeftmostWrong)

/-- 'laws.FnExactBestOf': WHATEVER THE INPUT: true; the input reads as it did. -/
def fnExactBestOfSpec : ChangeSpec := { name := "fnExactBestOf", fn := fun _ => fun
  | [d] => { results := [.lit (.bool true)], args := [d] }
  | _ => none }
def fnExactBestOfRow : OpenClaim := { program := "ytpniiaemgobaiaa", sum := "423ef971834835a40a5e445228aba29ab5aaa99331b4360c891537a62b74d85d", func := "loop.example/g00568/laws.FnExactBestOf", spec := "fnExactBestOf", unfollowed := true, recurses := true, apart := false }
def FnExactBestOfSaid : Prop := fnExactBestOfRow.holds Try.pinned (OpenSpec.ofChange fnExactBestOfSpec)

/-- ITS FALSE NEIGHBOUR: 'it returns false'. Refute it at one input. -/
def fnExactBestOfWrong : ChangeSpec := { name := "fnExactBestOf", fn := fun _ => fun
  | [d] => { results := [.lit (.bool false)], args := [d] }
  | _ => none }
def FnExactBestOfWrongFalsely : Prop := fnExactBestOfRow.holds Try.pinned (OpenSpec.ofChange fnExactBestOfWrong)

/-- 'laws.FnExactMarked': WHATEVER THE INPUT: true; the input reads as it did. -/
def fnExactMarkedSpec : ChangeSpec := { name := "fnExactMarked", fn := fun _ => fun
  | [d1, d2] => { results := [.lit (.bool true)], args := [d1, d2] }
  | _ => none }
def fnExactMarkedRow : OpenClaim := { program := "ytpniiaemgobaiaa", sum := "423ef971834835a40a5e445228aba29ab5aaa99331b4360c891537a62b74d85d", func := "loop.example/g00568/laws.FnExactMarked", spec := "fnExactMarked", inPlace := ["internal/abi.NoEscape"], unfollowed := true, recurses := true, apart := false }
def FnExactMarkedSaid : Prop := fnExactMarkedRow.holds Try.pinned (OpenSpec.ofChange fnExactMarkedSpec)

/-- ITS FALSE NEIGHBOUR: 'it returns false'. Refute it at one input. -/
def fnExactMarkedWrong : ChangeSpec := { name := "fnExactMarked", fn := fun _ => fun
  | [d1, d2] => { results := [.lit (.bool false)], args := [d1, d2] }
  | _ => none }
def FnExactMarkedWrongFalsely : Prop := fnExactMarkedRow.holds Try.pinned (OpenSpec.ofChange fnExactMarkedWrong)

/-- 'laws.FnExactSuggested': WHATEVER THE INPUT: true; the input reads as it did. -/
def fnExactSuggestedSpec : ChangeSpec := { name := "fnExactSuggested", fn := fun _ => fun
  | [d1, d2, d3, d4] => { results := [.lit (.bool true)], args := [d1, d2, d3, d4] }
  | _ => none }
def fnExactSuggestedRow : OpenClaim := { program := "ytpniiaemgobaiaa", sum := "423ef971834835a40a5e445228aba29ab5aaa99331b4360c891537a62b74d85d", func := "loop.example/g00568/laws.FnExactSuggested", spec := "fnExactSuggested", unfollowed := true, recurses := true, apart := false }
def FnExactSuggestedSaid : Prop := fnExactSuggestedRow.holds Try.pinned (OpenSpec.ofChange fnExactSuggestedSpec)

/-- ITS FALSE NEIGHBOUR: 'it returns false'. Refute it at one input. -/
def fnExactSuggestedWrong : ChangeSpec := { name := "fnExactSuggested", fn := fun _ => fun
  | [d1, d2, d3, d4] => { results := [.lit (.bool false)], args := [d1, d2, d3, d4] }
  | _ => none }
def FnExactSuggestedWrongFalsely : Prop := fnExactSuggestedRow.holds Try.pinned (OpenSpec.ofChange fnExactSuggestedWrong)

/-- 'laws.FnExactCompleted': WHATEVER THE INPUT: true; the input reads as it did. -/
def fnExactCompletedSpec : ChangeSpec := { name := "fnExactCompleted", fn := fun _ => fun
  | [d1, d2, d3, d4] => { results := [.lit (.bool true)], args := [d1, d2, d3, d4] }
  | _ => none }
def fnExactCompletedRow : OpenClaim := { program := "ytpniiaemgobaiaa", sum := "423ef971834835a40a5e445228aba29ab5aaa99331b4360c891537a62b74d85d", func := "loop.example/g00568/laws.FnExactCompleted", spec := "fnExactCompleted", unfollowed := true, recurses := true, apart := false }
def FnExactCompletedSaid : Prop := fnExactCompletedRow.holds Try.pinned (OpenSpec.ofChange fnExactCompletedSpec)

/-- ITS FALSE NEIGHBOUR: 'it returns false'. Refute it at one input. -/
def fnExactCompletedWrong : ChangeSpec := { name := "fnExactCompleted", fn := fun _ => fun
  | [d1, d2, d3, d4] => { results := [.lit (.bool false)], args := [d1, d2, d3, d4] }
  | _ => none }
def FnExactCompletedWrongFalsely : Prop := fnExactCompletedRow.holds Try.pinned (OpenSpec.ofChange fnExactCompletedWrong)

/-- 'laws.FnExactAlignOf': WHATEVER THE INPUT: true; the input reads as it did. -/
def fnExactAlignOfSpec : ChangeSpec := { name := "fnExactAlignOf", fn := fun _ => fun
  | [d1, d2, d3] => { results := [.lit (.bool true)], args := [d1, d2, d3] }
  | _ => none }
def fnExactAlignOfRow : OpenClaim := { program := "ytpniiaemgobaiaa", sum := "423ef971834835a40a5e445228aba29ab5aaa99331b4360c891537a62b74d85d", func := "loop.example/g00568/laws.FnExactAlignOf", spec := "fnExactAlignOf", unfollowed := true, recurses := true, apart := false }
def FnExactAlignOfSaid : Prop := fnExactAlignOfRow.holds Try.pinned (OpenSpec.ofChange fnExactAlignOfSpec)

/-- ITS FALSE NEIGHBOUR: 'it returns false'. Refute it at one input. -/
def fnExactAlignOfWrong : ChangeSpec := { name := "fnExactAlignOf", fn := fun _ => fun
  | [d1, d2, d3] => { results := [.lit (.bool false)], args := [d1, d2, d3] }
  | _ => none }
def FnExactAlignOfWrongFalsely : Prop := fnExactAlignOfRow.holds Try.pinned (OpenSpec.ofChange fnExactAlignOfWrong)

/- THE SECOND FORM. 'bulk': how many values and letters a reading holds, each counted each time it is reached (what is shared counts as often as it is met; a slice's spare places count too). A statement '..UptoSaid' is the law's where the arguments, and the package variables that the reading takes, are together of bulk at most 1048576: NARROWER than '..Said'. Prove '..Said' where nothing that the law and all that it calls make is longer than what came in: it says more and counts as full. Else prove '..UptoSaid'. A law counts once. -/
mutual
def uptoBulk {H : Type} : DataW H → Nat
  | .lit (.string bytes) => bytes.length + 1
  | .lit _ => 1
  | .nil => 1
  | .ptr d => uptoBulk d + 1
  | .slice elems spare => uptoBulkAll elems + uptoBulkAll spare + 1
  | .agg parts => uptoBulkAll parts + 1
  | .iface _ d => uptoBulk d + 1
  | .map entries => uptoBulkEntries entries + 1
  | .held _ => 1
def uptoBulkAll {H : Type} : List (DataW H) → Nat
  | [] => 0
  | d :: r => uptoBulk d + uptoBulkAll r
def uptoBulkEntries {H : Type} : List (Lit × DataW H) → Nat
  | [] => 0
  | x :: r => uptoBulkEntry x + uptoBulkEntries r
def uptoBulkEntry {H : Type} : Lit × DataW H → Nat
  | (.string bytes, d) => bytes.length + uptoBulk d + 1
  | (_, d) => uptoBulk d + 1
 end
def uptoSmall : (H : Type) → List (DataW H) → Bool := fun _ ds => decide (uptoBulkAll ds ≤ 1048576)
def OpenSpec.upto (s : _root_.Go.ChangeSpec) : _root_.Go.OpenSpec := { _root_.Go.OpenSpec.ofChange s with cond := some uptoSmall }

/-- 'laws.FnExactLeftmost', WHERE WHAT IT READS IS OF BULK AT MOST 1048576: true; the input reads as it did. -/
def fnExactLeftmostUptoRow : OpenClaim := { program := "ytpniiaemgobaiaa", sum := "423ef971834835a40a5e445228aba29ab5aaa99331b4360c891537a62b74d85d", func := "loop.example/g00568/laws.FnExactLeftmost", spec := "fnExactLeftmost", unfollowed := true, recurses := true, apart := false, narrowed := true }
def FnExactLeftmostUptoSaid : Prop := fnExactLeftmostUptoRow.holds Try.pinned (OpenSpec.upto fnExactLeftmostSpec)

/-- 'laws.FnExactBestOf', WHERE WHAT IT READS IS OF BULK AT MOST 1048576: true; the input reads as it did. -/
def fnExactBestOfUptoRow : OpenClaim := { program := "ytpniiaemgobaiaa", sum := "423ef971834835a40a5e445228aba29ab5aaa99331b4360c891537a62b74d85d", func := "loop.example/g00568/laws.FnExactBestOf", spec := "fnExactBestOf", unfollowed := true, recurses := true, apart := false, narrowed := true }
def FnExactBestOfUptoSaid : Prop := fnExactBestOfUptoRow.holds Try.pinned (OpenSpec.upto fnExactBestOfSpec)

/-- 'laws.FnExactMarked', WHERE WHAT IT READS IS OF BULK AT MOST 1048576: true; the input reads as it did. -/
def fnExactMarkedUptoRow : OpenClaim := { program := "ytpniiaemgobaiaa", sum := "423ef971834835a40a5e445228aba29ab5aaa99331b4360c891537a62b74d85d", func := "loop.example/g00568/laws.FnExactMarked", spec := "fnExactMarked", inPlace := ["internal/abi.NoEscape"], unfollowed := true, recurses := true, apart := false, narrowed := true }
def FnExactMarkedUptoSaid : Prop := fnExactMarkedUptoRow.holds Try.pinned (OpenSpec.upto fnExactMarkedSpec)

/-- 'laws.FnExactSuggested', WHERE WHAT IT READS IS OF BULK AT MOST 1048576: true; the input reads as it did. -/
def fnExactSuggestedUptoRow : OpenClaim := { program := "ytpniiaemgobaiaa", sum := "423ef971834835a40a5e445228aba29ab5aaa99331b4360c891537a62b74d85d", func := "loop.example/g00568/laws.FnExactSuggested", spec := "fnExactSuggested", unfollowed := true, recurses := true, apart := false, narrowed := true }
def FnExactSuggestedUptoSaid : Prop := fnExactSuggestedUptoRow.holds Try.pinned (OpenSpec.upto fnExactSuggestedSpec)

/-- 'laws.FnExactCompleted', WHERE WHAT IT READS IS OF BULK AT MOST 1048576: true; the input reads as it did. -/
def fnExactCompletedUptoRow : OpenClaim := { program := "ytpniiaemgobaiaa", sum := "423ef971834835a40a5e445228aba29ab5aaa99331b4360c891537a62b74d85d", func := "loop.example/g00568/laws.FnExactCompleted", spec := "fnExactCompleted", unfollowed := true, recurses := true, apart := false, narrowed := true }
def FnExactCompletedUptoSaid : Prop := fnExactCompletedUptoRow.holds Try.pinned (OpenSpec.upto fnExactCompletedSpec)

/-- 'laws.FnExactAlignOf', WHERE WHAT IT READS IS OF BULK AT MOST 1048576: true; the input reads as it did. -/
def fnExactAlignOfUptoRow : OpenClaim := { program := "ytpniiaemgobaiaa", sum := "423ef971834835a40a5e445228aba29ab5aaa99331b4360c891537a62b74d85d", func := "loop.example/g00568/laws.FnExactAlignOf", spec := "fnExactAlignOf", unfollowed := true, recurses := true, apart := false, narrowed := true }
def FnExactAlignOfUptoSaid : Prop := fnExactAlignOfUptoRow.holds Try.pinned (OpenSpec.upto fnExactAlignOfSpec)

end Rows
end Go.Proofs.Ytpniiaemgobaiaa

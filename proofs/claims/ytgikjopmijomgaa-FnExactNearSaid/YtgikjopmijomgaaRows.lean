/-
  No cell of these rows narrows 'for every input' (looked for: loops, veiled, ifaces, maps, wideKeys, modest, calm, conditions, laid).
  DERIVED. THE GIVEN ROWS OF THIS SEAT. 6 by the template 'for every input the law returns true; each argument reads behind the call as it read before'; 0 by the template 'total and deterministic' (their statements: YtgikjopmijomgaaTotals.lean).
  GIVEN WITH THE SEED: the statements are not yours to turn. If you find one false, say at which input.
  Laid BY PROGRAM, IN A SANDBOX (cutbox-rows.mjs): the forced cells as the released guide's own fill.sh prints them over the translation bada46eb0ea69252… (all of the seat's roots in one cut). By AI agents, Wed Nov 11 2026. No macro, syntax, notation, axiom, sorry.
-/
import Derived.Test.YtgikjopmijomgaaChecked
import GoSem.Claim
import GoSem.ClaimJoined
import GoSem.ClaimMapViews
import Derived.JoinedTies
import Derived.KernelRfl
namespace Go.Proofs.Ytgikjopmijomgaa
/- THE CELL 'sum', in the pinned program and in every row, IS THE sha256 OF THE DUMP (.gsa) THAT YtgikjopmijomgaaProg.lean LOADS. Nothing in Lean hashes anything: it is a label: what it is worth is what the hold of that sum in a sandbox is worth. -/
noncomputable def Try.pinned : Pinned := { name := "ytgikjopmijomgaa", sum := "bada46eb0ea6925242a34e2e370b06dd75882f7233cb9e73aee9bf154f7f832e", checked := Try.checked }
namespace Rows
def none {H : Type} : Left H := { results := [], args := [] }

/-- 'laws.FnExactSwapDist': WHATEVER THE INPUT: true; the input reads as it did. -/
def fnExactSwapDistSpec : ChangeSpec := { name := "fnExactSwapDist", fn := fun _ => fun
  | [d1, d2, d3] => { results := [.lit (.bool true)], args := [d1, d2, d3] }
  | _ => none }
def fnExactSwapDistRow : OpenClaim := { program := "ytgikjopmijomgaa", sum := "bada46eb0ea6925242a34e2e370b06dd75882f7233cb9e73aee9bf154f7f832e", func := "loop.example/g00568/laws.FnExactSwapDist", spec := "fnExactSwapDist", unfollowed := true, recurses := true, apart := false }
def FnExactSwapDistSaid : Prop := fnExactSwapDistRow.holds Try.pinned (OpenSpec.ofChange fnExactSwapDistSpec)

/-- ITS FALSE NEIGHBOUR: 'it returns false'. Refute it at one input. -/
def fnExactSwapDistWrong : ChangeSpec := { name := "fnExactSwapDist", fn := fun _ => fun
  | [d1, d2, d3] => { results := [.lit (.bool false)], args := [d1, d2, d3] }
  | _ => none }
def FnExactSwapDistWrongFalsely : Prop := fnExactSwapDistRow.holds Try.pinned (OpenSpec.ofChange fnExactSwapDistWrong)

/-- 'laws.FnExactSwapEnds': WHATEVER THE INPUT: true; the input reads as it did. -/
def fnExactSwapEndsSpec : ChangeSpec := { name := "fnExactSwapEnds", fn := fun _ => fun
  | [d1, d2] => { results := [.lit (.bool true)], args := [d1, d2] }
  | _ => none }
def fnExactSwapEndsRow : OpenClaim := { program := "ytgikjopmijomgaa", sum := "bada46eb0ea6925242a34e2e370b06dd75882f7233cb9e73aee9bf154f7f832e", func := "loop.example/g00568/laws.FnExactSwapEnds", spec := "fnExactSwapEnds", unfollowed := true, recurses := true, apart := false }
def FnExactSwapEndsSaid : Prop := fnExactSwapEndsRow.holds Try.pinned (OpenSpec.ofChange fnExactSwapEndsSpec)

/-- ITS FALSE NEIGHBOUR: 'it returns false'. Refute it at one input. -/
def fnExactSwapEndsWrong : ChangeSpec := { name := "fnExactSwapEnds", fn := fun _ => fun
  | [d1, d2] => { results := [.lit (.bool false)], args := [d1, d2] }
  | _ => none }
def FnExactSwapEndsWrongFalsely : Prop := fnExactSwapEndsRow.holds Try.pinned (OpenSpec.ofChange fnExactSwapEndsWrong)

/-- 'laws.FnExactWholeEnds': WHATEVER THE INPUT: true; the input reads as it did. -/
def fnExactWholeEndsSpec : ChangeSpec := { name := "fnExactWholeEnds", fn := fun _ => fun
  | [d1, d2] => { results := [.lit (.bool true)], args := [d1, d2] }
  | _ => none }
def fnExactWholeEndsRow : OpenClaim := { program := "ytgikjopmijomgaa", sum := "bada46eb0ea6925242a34e2e370b06dd75882f7233cb9e73aee9bf154f7f832e", func := "loop.example/g00568/laws.FnExactWholeEnds", spec := "fnExactWholeEnds", unfollowed := true, recurses := true, apart := false }
def FnExactWholeEndsSaid : Prop := fnExactWholeEndsRow.holds Try.pinned (OpenSpec.ofChange fnExactWholeEndsSpec)

/-- ITS FALSE NEIGHBOUR: 'it returns false'. Refute it at one input. -/
def fnExactWholeEndsWrong : ChangeSpec := { name := "fnExactWholeEnds", fn := fun _ => fun
  | [d1, d2] => { results := [.lit (.bool false)], args := [d1, d2] }
  | _ => none }
def FnExactWholeEndsWrongFalsely : Prop := fnExactWholeEndsRow.holds Try.pinned (OpenSpec.ofChange fnExactWholeEndsWrong)

/-- 'laws.FnExactNear': WHATEVER THE INPUT: true; the input reads as it did. -/
def fnExactNearSpec : ChangeSpec := { name := "fnExactNear", fn := fun _ => fun
  | [d1, d2, d3] => { results := [.lit (.bool true)], args := [d1, d2, d3] }
  | _ => none }
def fnExactNearRow : OpenClaim := { program := "ytgikjopmijomgaa", sum := "bada46eb0ea6925242a34e2e370b06dd75882f7233cb9e73aee9bf154f7f832e", func := "loop.example/g00568/laws.FnExactNear", spec := "fnExactNear", unfollowed := true, recurses := true, apart := false }
def FnExactNearSaid : Prop := fnExactNearRow.holds Try.pinned (OpenSpec.ofChange fnExactNearSpec)

/-- ITS FALSE NEIGHBOUR: 'it returns false'. Refute it at one input. -/
def fnExactNearWrong : ChangeSpec := { name := "fnExactNear", fn := fun _ => fun
  | [d1, d2, d3] => { results := [.lit (.bool false)], args := [d1, d2, d3] }
  | _ => none }
def FnExactNearWrongFalsely : Prop := fnExactNearRow.holds Try.pinned (OpenSpec.ofChange fnExactNearWrong)

/-- 'laws.FnExactNearBy': WHATEVER THE INPUT: true; the input reads as it did. -/
def fnExactNearBySpec : ChangeSpec := { name := "fnExactNearBy", fn := fun _ => fun
  | [d1, d2, d3, d4] => { results := [.lit (.bool true)], args := [d1, d2, d3, d4] }
  | _ => none }
def fnExactNearByRow : OpenClaim := { program := "ytgikjopmijomgaa", sum := "bada46eb0ea6925242a34e2e370b06dd75882f7233cb9e73aee9bf154f7f832e", func := "loop.example/g00568/laws.FnExactNearBy", spec := "fnExactNearBy", unfollowed := true, recurses := true, apart := false }
def FnExactNearBySaid : Prop := fnExactNearByRow.holds Try.pinned (OpenSpec.ofChange fnExactNearBySpec)

/-- ITS FALSE NEIGHBOUR: 'it returns false'. Refute it at one input. -/
def fnExactNearByWrong : ChangeSpec := { name := "fnExactNearBy", fn := fun _ => fun
  | [d1, d2, d3, d4] => { results := [.lit (.bool false)], args := [d1, d2, d3, d4] }
  | _ => none }
def FnExactNearByWrongFalsely : Prop := fnExactNearByRow.holds Try.pinned (OpenSpec.ofChange fnExactNearByWrong)

/-- 'laws.FnExactWordsOf': WHATEVER THE INPUT: true; the input reads as it did. -/
def fnExactWordsOfSpec : ChangeSpec := { name := "fnExactWordsOf", fn := fun _ => fun
  | [d] => { results := [.lit (.bool true)], args := [d] }
  | _ => none }
def fnExactWordsOfRow : OpenClaim := { program := "ytgikjopmijomgaa", sum := "bada46eb0ea6925242a34e2e370b06dd75882f7233cb9e73aee9bf154f7f832e", func := "loop.example/g00568/laws.FnExactWordsOf", spec := "fnExactWordsOf", unfollowed := true, recurses := true, apart := false }
def FnExactWordsOfSaid : Prop := fnExactWordsOfRow.holds Try.pinned (OpenSpec.ofChange fnExactWordsOfSpec)

/-- ITS FALSE NEIGHBOUR: 'it returns false'. Refute it at one input. -/
def fnExactWordsOfWrong : ChangeSpec := { name := "fnExactWordsOf", fn := fun _ => fun
  | [d] => { results := [.lit (.bool false)], args := [d] }
  | _ => none }
def FnExactWordsOfWrongFalsely : Prop := fnExactWordsOfRow.holds Try.pinned (OpenSpec.ofChange fnExactWordsOfWrong)

/- THE SECOND FORM. 'bulk': how many values and letters a reading holds, each counted each time it is reached (what is shared counts as often as it is met; a slice's spare places count too). A statement '..UptoSaid' is the law's where the arguments, and the package variables that the reading takes, are together of bulk at most 1048576: NARROWER than '..Said'. Prove '..Said' where nothing that the law and all that it calls make is longer than what came in: it says more and counts as full. Else prove '..UptoSaid'. A law counts once. -/
mutual
def uptoBulk {H : Type} : DataW H → Nat
  | .lit (.string bytes) => bytes.length + 1
  | .lit _ => 1
  | .nil => 1
  | .ptr d => uptoBulk d + 1
  | .slice elems spare => uptoBulkAll elems + uptoBulkAll spare + 1
  | .agg parts => uptoBulkAll parts + 1
  | .iface _ d => uptoBulk d + 1
  | .map entries => uptoBulkEntries entries + 1
  | .held _ => 1
def uptoBulkAll {H : Type} : List (DataW H) → Nat
  | [] => 0
  | d :: r => uptoBulk d + uptoBulkAll r
def uptoBulkEntries {H : Type} : List (Lit × DataW H) → Nat
  | [] => 0
  | x :: r => uptoBulkEntry x + uptoBulkEntries r
def uptoBulkEntry {H : Type} : Lit × DataW H → Nat
  | (.string bytes, d) => bytes.length + uptoBulk d + 1
  | (_, d) => uptoBulk d + 1
 end
def uptoSmall : (H : Type) → List (DataW H) → Bool := fun _ ds => decide (uptoBulkAll ds ≤ 1048576)
def OpenSpec.upto (s : _root_.Go.ChangeSpec) : _root_.Go.OpenSpec := { _root_.Go.OpenSpec.ofChange s with cond := some uptoSmall }

/-- 'laws.FnExactSwapDist', WHERE WHAT IT READS IS OF BULK AT MOST 1048576: true; the input reads as it did. -/
def fnExactSwapDistUptoRow : OpenClaim := { program := "ytgikjopmijomgaa", sum := "bada46eb0ea6925242a34e2e370b06dd75882f7233cb9e73aee9bf154f7f832e", func := "loop.example/g00568/laws.FnExactSwapDist", spec := "fnExactSwapDist", unfollowed := true, recurses := true, apart := false, narrowed := true }
def FnExactSwapDistUptoSaid : Prop := fnExactSwapDistUptoRow.holds Try.pinned (OpenSpec.upto fnExactSwapDistSpec)

/-- 'laws.FnExactSwapEnds', WHERE WHAT IT READS IS OF BULK AT MOST 1048576: true; the input reads as it did. -/
def fnExactSwapEndsUptoRow : OpenClaim := { program := "ytgikjopmijomgaa", sum := "bada46eb0ea6925242a34e2e370b06dd75882f7233cb9e73aee9bf154f7f832e", func := "loop.example/g00568/laws.FnExactSwapEnds", spec := "fnExactSwapEnds", unfollowed := true, recurses := true, apart := false, narrowed := true }
def FnExactSwapEndsUptoSaid : Prop := fnExactSwapEndsUptoRow.holds Try.pinned (OpenSpec.upto fnExactSwapEndsSpec)

/-- 'laws.FnExactWholeEnds', WHERE WHAT IT READS IS OF BULK AT MOST 1048576: true; the input reads as it did. -/
def fnExactWholeEndsUptoRow : OpenClaim := { program := "ytgikjopmijomgaa", sum := "bada46eb0ea6925242a34e2e370b06dd75882f7233cb9e73aee9bf154f7f832e", func := "loop.example/g00568/laws.FnExactWholeEnds", spec := "fnExactWholeEnds", unfollowed := true, recurses := true, apart := false, narrowed := true }
def FnExactWholeEndsUptoSaid : Prop := fnExactWholeEndsUptoRow.holds Try.pinned (OpenSpec.upto fnExactWholeEndsSpec)

/-- 'laws.FnExactNear', WHERE WHAT IT READS IS OF BULK AT MOST 1048576: true; the input reads as it did. -/
def fnExactNearUptoRow : OpenClaim := { program := "ytgikjopmijomgaa", sum := "bada46eb0ea6925242a34e2e370b06dd75882f7233cb9e73aee9bf154f7f832e", func := "loop.example/g00568/laws.FnExactNear", spec := "fnExactNear", unfollowed := true, recurses := true, apart := false, narrowed := true }
def FnExactNearUptoSaid : Prop := fnExactNearUptoRow.holds Try.pinned (OpenSpec.upto fnExactNearSpec)

/-- 'laws.FnExactNearBy', WHERE WHAT IT READS IS OF BULK AT MOST 1048576: true; the input reads as it did. -/
def fnExactNearByUptoRow : OpenClaim := { program := "ytgikjopmijomgaa", sum := "bada46eb0ea6925242a34e2e370b06dd75882f7233cb9e73aee9bf154f7f832e", func := "loop.example/g00568/laws.FnExactNearBy", spec := "fnExactNearBy", unfollowed := true, recurses := true, apart := false, narrowed := true }
def FnExactNearByUptoSaid : Prop := fnExactNearByUptoRow.holds Try.pinned (OpenSpec.upto fnExactNearBySpec)

/-- 'laws.FnExactWordsOf', WHERE WHAT IT READS IS OF BULK AT MOST 1048576: true; the input reads as it did. -/
def fnExactWordsOfUptoRow : OpenClaim := { program := "ytgikjopmijomgaa", sum := "bada46eb0ea6925242a34e2e370b06dd75882f7233cb9e73aee9bf154f7f832e", func := "loop.example/g00568/laws.FnExactWordsOf", spec := "fnExactWordsOf", unfollowed := true, recurses := true, apart := false, narrowed := true }
def FnExactWordsOfUptoSaid : Prop := fnExactWordsOfUptoRow.holds Try.pinned (OpenSpec.upto fnExactWordsOfSpec)

end Rows
end Go.Proofs.Ytgikjopmijomgaa

/-
  No cell of these rows narrows 'for every input' (looked for: loops, veiled, ifaces, maps, wideKeys, modest, calm, conditions, laid).
  DERIVED. THE GIVEN ROWS OF THIS SEAT. 12 by the template 'for every input the law returns true; each argument reads behind the call as it read before'; 0 by the template 'total and deterministic' (their statements: YtnmjcoppbkjogaaTotals.lean).
  GIVEN WITH THE SEED: the statements are not yours to turn. If you find one false, say at which input.
  Laid BY PROGRAM, IN A SANDBOX (cutbox-rows.mjs): the forced cells as the released guide's own fill.sh prints them over the translation 0bbd182a58208527… (all of the seat's roots in one cut). By AI agents, Wed Nov 11 2026. No macro, syntax, notation, axiom, sorry.
-/
import Derived.Test.YtnmjcoppbkjogaaChecked
import GoSem.Claim
import GoSem.ClaimJoined
import GoSem.ClaimMapViews
import Derived.JoinedTies
import Derived.KernelRfl
namespace Go.Proofs.Ytnmjcoppbkjogaa
/- THE CELL 'sum', in the pinned program and in every row, IS THE sha256 OF THE DUMP (.gsa) THAT YtnmjcoppbkjogaaProg.lean LOADS. Nothing in Lean hashes anything: it is a label: what it is worth is what the hold of that sum in a sandbox is worth. -/
noncomputable def Try.pinned : Pinned := { name := "ytnmjcoppbkjogaa", sum := "0bbd182a58208527d1560d3a1fbad4759ca72ebaa6ba62dc127fb0cf1b2facc8", checked := Try.checked }
namespace Rows
def none {H : Type} : Left H := { results := [], args := [] }

/-- 'laws.FnExactFoundOk': WHATEVER THE INPUT: true; the input reads as it did. -/
def fnExactFoundOkSpec : ChangeSpec := { name := "fnExactFoundOk", fn := fun _ => fun
  | [d] => { results := [.lit (.bool true)], args := [d] }
  | _ => none }
def fnExactFoundOkRow : OpenClaim := { program := "ytnmjcoppbkjogaa", sum := "0bbd182a58208527d1560d3a1fbad4759ca72ebaa6ba62dc127fb0cf1b2facc8", func := "loop.example/g00568/laws.FnExactFoundOk", spec := "fnExactFoundOk", unfollowed := true, recurses := true, apart := false }
def FnExactFoundOkSaid : Prop := fnExactFoundOkRow.holds Try.pinned (OpenSpec.ofChange fnExactFoundOkSpec)

/-- ITS FALSE NEIGHBOUR: 'it returns false'. Refute it at one input. -/
def fnExactFoundOkWrong : ChangeSpec := { name := "fnExactFoundOk", fn := fun _ => fun
  | [d] => { results := [.lit (.bool false)], args := [d] }
  | _ => none }
def FnExactFoundOkWrongFalsely : Prop := fnExactFoundOkRow.holds Try.pinned (OpenSpec.ofChange fnExactFoundOkWrong)

/-- 'laws.FnExactHamming': WHATEVER THE INPUT: true; the input reads as it did. -/
def fnExactHammingSpec : ChangeSpec := { name := "fnExactHamming", fn := fun _ => fun
  | [d1, d2, d3] => { results := [.lit (.bool true)], args := [d1, d2, d3] }
  | _ => none }
def fnExactHammingRow : OpenClaim := { program := "ytnmjcoppbkjogaa", sum := "0bbd182a58208527d1560d3a1fbad4759ca72ebaa6ba62dc127fb0cf1b2facc8", func := "loop.example/g00568/laws.FnExactHamming", spec := "fnExactHamming", apart := false }
def FnExactHammingSaid : Prop := fnExactHammingRow.holds Try.pinned (OpenSpec.ofChange fnExactHammingSpec)

/-- ITS FALSE NEIGHBOUR: 'it returns false'. Refute it at one input. -/
def fnExactHammingWrong : ChangeSpec := { name := "fnExactHamming", fn := fun _ => fun
  | [d1, d2, d3] => { results := [.lit (.bool false)], args := [d1, d2, d3] }
  | _ => none }
def FnExactHammingWrongFalsely : Prop := fnExactHammingRow.holds Try.pinned (OpenSpec.ofChange fnExactHammingWrong)

/-- 'laws.FnExactCostOf': WHATEVER THE INPUT: true; the input reads as it did. -/
def fnExactCostOfSpec : ChangeSpec := { name := "fnExactCostOf", fn := fun _ => fun
  | [d1, d2, d3, d4, d5] => { results := [.lit (.bool true)], args := [d1, d2, d3, d4, d5] }
  | _ => none }
def fnExactCostOfRow : OpenClaim := { program := "ytnmjcoppbkjogaa", sum := "0bbd182a58208527d1560d3a1fbad4759ca72ebaa6ba62dc127fb0cf1b2facc8", func := "loop.example/g00568/laws.FnExactCostOf", spec := "fnExactCostOf", apart := false }
def FnExactCostOfSaid : Prop := fnExactCostOfRow.holds Try.pinned (OpenSpec.ofChange fnExactCostOfSpec)

/-- ITS FALSE NEIGHBOUR: 'it returns false'. Refute it at one input. -/
def fnExactCostOfWrong : ChangeSpec := { name := "fnExactCostOf", fn := fun _ => fun
  | [d1, d2, d3, d4, d5] => { results := [.lit (.bool false)], args := [d1, d2, d3, d4, d5] }
  | _ => none }
def FnExactCostOfWrongFalsely : Prop := fnExactCostOfRow.holds Try.pinned (OpenSpec.ofChange fnExactCostOfWrong)

/-- 'laws.FnExactSwapDist': WHATEVER THE INPUT: true; the input reads as it did. -/
def fnExactSwapDistSpec : ChangeSpec := { name := "fnExactSwapDist", fn := fun _ => fun
  | [d1, d2, d3] => { results := [.lit (.bool true)], args := [d1, d2, d3] }
  | _ => none }
def fnExactSwapDistRow : OpenClaim := { program := "ytnmjcoppbkjogaa", sum := "0bbd182a58208527d1560d3a1fbad4759ca72ebaa6ba62dc127fb0cf1b2facc8", func := "loop.example/g00568/laws.FnExactSwapDist", spec := "fnExactSwapDist", unfollowed := true, recurses := true, apart := false }
def FnExactSwapDistSaid : Prop := fnExactSwapDistRow.holds Try.pinned (OpenSpec.ofChange fnExactSwapDistSpec)

/-- ITS FALSE NEIGHBOUR: 'it returns false'. Refute it at one input. -/
def fnExactSwapDistWrong : ChangeSpec := { name := "fnExactSwapDist", fn := fun _ => fun
  | [d1, d2, d3] => { results := [.lit (.bool false)], args := [d1, d2, d3] }
  | _ => none }
def FnExactSwapDistWrongFalsely : Prop := fnExactSwapDistRow.holds Try.pinned (OpenSpec.ofChange fnExactSwapDistWrong)

/-- 'laws.FnExactSwapEnds': WHATEVER THE INPUT: true; the input reads as it did. -/
def fnExactSwapEndsSpec : ChangeSpec := { name := "fnExactSwapEnds", fn := fun _ => fun
  | [d1, d2] => { results := [.lit (.bool true)], args := [d1, d2] }
  | _ => none }
def fnExactSwapEndsRow : OpenClaim := { program := "ytnmjcoppbkjogaa", sum := "0bbd182a58208527d1560d3a1fbad4759ca72ebaa6ba62dc127fb0cf1b2facc8", func := "loop.example/g00568/laws.FnExactSwapEnds", spec := "fnExactSwapEnds", unfollowed := true, recurses := true, apart := false }
def FnExactSwapEndsSaid : Prop := fnExactSwapEndsRow.holds Try.pinned (OpenSpec.ofChange fnExactSwapEndsSpec)

/-- ITS FALSE NEIGHBOUR: 'it returns false'. Refute it at one input. -/
def fnExactSwapEndsWrong : ChangeSpec := { name := "fnExactSwapEnds", fn := fun _ => fun
  | [d1, d2] => { results := [.lit (.bool false)], args := [d1, d2] }
  | _ => none }
def FnExactSwapEndsWrongFalsely : Prop := fnExactSwapEndsRow.holds Try.pinned (OpenSpec.ofChange fnExactSwapEndsWrong)

/-- 'laws.FnExactStartDist': WHATEVER THE INPUT: true; the input reads as it did. -/
def fnExactStartDistSpec : ChangeSpec := { name := "fnExactStartDist", fn := fun _ => fun
  | [d1, d2] => { results := [.lit (.bool true)], args := [d1, d2] }
  | _ => none }
def fnExactStartDistRow : OpenClaim := { program := "ytnmjcoppbkjogaa", sum := "0bbd182a58208527d1560d3a1fbad4759ca72ebaa6ba62dc127fb0cf1b2facc8", func := "loop.example/g00568/laws.FnExactStartDist", spec := "fnExactStartDist", unfollowed := true, recurses := true, apart := false }
def FnExactStartDistSaid : Prop := fnExactStartDistRow.holds Try.pinned (OpenSpec.ofChange fnExactStartDistSpec)

/-- ITS FALSE NEIGHBOUR: 'it returns false'. Refute it at one input. -/
def fnExactStartDistWrong : ChangeSpec := { name := "fnExactStartDist", fn := fun _ => fun
  | [d1, d2] => { results := [.lit (.bool false)], args := [d1, d2] }
  | _ => none }
def FnExactStartDistWrongFalsely : Prop := fnExactStartDistRow.holds Try.pinned (OpenSpec.ofChange fnExactStartDistWrong)

/-- 'laws.FnExactWordsOf': WHATEVER THE INPUT: true; the input reads as it did. -/
def fnExactWordsOfSpec : ChangeSpec := { name := "fnExactWordsOf", fn := fun _ => fun
  | [d] => { results := [.lit (.bool true)], args := [d] }
  | _ => none }
def fnExactWordsOfRow : OpenClaim := { program := "ytnmjcoppbkjogaa", sum := "0bbd182a58208527d1560d3a1fbad4759ca72ebaa6ba62dc127fb0cf1b2facc8", func := "loop.example/g00568/laws.FnExactWordsOf", spec := "fnExactWordsOf", unfollowed := true, recurses := true, apart := false }
def FnExactWordsOfSaid : Prop := fnExactWordsOfRow.holds Try.pinned (OpenSpec.ofChange fnExactWordsOfSpec)

/-- ITS FALSE NEIGHBOUR: 'it returns false'. Refute it at one input. -/
def fnExactWordsOfWrong : ChangeSpec := { name := "fnExactWordsOf", fn := fun _ => fun
  | [d] => { results := [.lit (.bool false)], args := [d] }
  | _ => none }
def FnExactWordsOfWrongFalsely : Prop := fnExactWordsOfRow.holds Try.pinned (OpenSpec.ofChange fnExactWordsOfWrong)

/-- 'laws.FnExactWholeEnds': WHATEVER THE INPUT: true; the input reads as it did. -/
def fnExactWholeEndsSpec : ChangeSpec := { name := "fnExactWholeEnds", fn := fun _ => fun
  | [d1, d2] => { results := [.lit (.bool true)], args := [d1, d2] }
  | _ => none }
def fnExactWholeEndsRow : OpenClaim := { program := "ytnmjcoppbkjogaa", sum := "0bbd182a58208527d1560d3a1fbad4759ca72ebaa6ba62dc127fb0cf1b2facc8", func := "loop.example/g00568/laws.FnExactWholeEnds", spec := "fnExactWholeEnds", unfollowed := true, recurses := true, apart := false }
def FnExactWholeEndsSaid : Prop := fnExactWholeEndsRow.holds Try.pinned (OpenSpec.ofChange fnExactWholeEndsSpec)

/-- ITS FALSE NEIGHBOUR: 'it returns false'. Refute it at one input. -/
def fnExactWholeEndsWrong : ChangeSpec := { name := "fnExactWholeEnds", fn := fun _ => fun
  | [d1, d2] => { results := [.lit (.bool false)], args := [d1, d2] }
  | _ => none }
def FnExactWholeEndsWrongFalsely : Prop := fnExactWholeEndsRow.holds Try.pinned (OpenSpec.ofChange fnExactWholeEndsWrong)

/-- 'laws.FnExactBkOf': WHATEVER THE INPUT: true; the input reads as it did. -/
def fnExactBkOfSpec : ChangeSpec := { name := "fnExactBkOf", fn := fun _ => fun
  | [d] => { results := [.lit (.bool true)], args := [d] }
  | _ => none }
def fnExactBkOfRow : OpenClaim := { program := "ytnmjcoppbkjogaa", sum := "0bbd182a58208527d1560d3a1fbad4759ca72ebaa6ba62dc127fb0cf1b2facc8", func := "loop.example/g00568/laws.FnExactBkOf", spec := "fnExactBkOf", unfollowed := true, recurses := true, apart := false }
def FnExactBkOfSaid : Prop := fnExactBkOfRow.holds Try.pinned (OpenSpec.ofChange fnExactBkOfSpec)

/-- ITS FALSE NEIGHBOUR: 'it returns false'. Refute it at one input. -/
def fnExactBkOfWrong : ChangeSpec := { name := "fnExactBkOf", fn := fun _ => fun
  | [d] => { results := [.lit (.bool false)], args := [d] }
  | _ => none }
def FnExactBkOfWrongFalsely : Prop := fnExactBkOfRow.holds Try.pinned (OpenSpec.ofChange fnExactBkOfWrong)

/-- 'laws.FnExactBkOk': WHATEVER THE INPUT: true; the input reads as it did. -/
def fnExactBkOkSpec : ChangeSpec := { name := "fnExactBkOk", fn := fun _ => fun
  | [d] => { results := [.lit (.bool true)], args := [d] }
  | _ => none }
def fnExactBkOkRow : OpenClaim := { program := "ytnmjcoppbkjogaa", sum := "0bbd182a58208527d1560d3a1fbad4759ca72ebaa6ba62dc127fb0cf1b2facc8", func := "loop.example/g00568/laws.FnExactBkOk", spec := "fnExactBkOk", unfollowed := true, recurses := true, apart := false }
def FnExactBkOkSaid : Prop := fnExactBkOkRow.holds Try.pinned (OpenSpec.ofChange fnExactBkOkSpec)

/-- ITS FALSE NEIGHBOUR: 'it returns false'. Refute it at one input. -/
def fnExactBkOkWrong : ChangeSpec := { name := "fnExactBkOk", fn := fun _ => fun
  | [d] => { results := [.lit (.bool false)], args := [d] }
  | _ => none }
def FnExactBkOkWrongFalsely : Prop := fnExactBkOkRow.holds Try.pinned (OpenSpec.ofChange fnExactBkOkWrong)

/-- 'laws.FnExactNear': WHATEVER THE INPUT: true; the input reads as it did. -/
def fnExactNearSpec : ChangeSpec := { name := "fnExactNear", fn := fun _ => fun
  | [d1, d2, d3] => { results := [.lit (.bool true)], args := [d1, d2, d3] }
  | _ => none }
def fnExactNearRow : OpenClaim := { program := "ytnmjcoppbkjogaa", sum := "0bbd182a58208527d1560d3a1fbad4759ca72ebaa6ba62dc127fb0cf1b2facc8", func := "loop.example/g00568/laws.FnExactNear", spec := "fnExactNear", unfollowed := true, recurses := true, apart := false }
def FnExactNearSaid : Prop := fnExactNearRow.holds Try.pinned (OpenSpec.ofChange fnExactNearSpec)

/-- ITS FALSE NEIGHBOUR: 'it returns false'. Refute it at one input. -/
def fnExactNearWrong : ChangeSpec := { name := "fnExactNear", fn := fun _ => fun
  | [d1, d2, d3] => { results := [.lit (.bool false)], args := [d1, d2, d3] }
  | _ => none }
def FnExactNearWrongFalsely : Prop := fnExactNearRow.holds Try.pinned (OpenSpec.ofChange fnExactNearWrong)

/-- 'laws.FnExactAlignOf': WHATEVER THE INPUT: true; the input reads as it did. -/
def fnExactAlignOfSpec : ChangeSpec := { name := "fnExactAlignOf", fn := fun _ => fun
  | [d1, d2, d3] => { results := [.lit (.bool true)], args := [d1, d2, d3] }
  | _ => none }
def fnExactAlignOfRow : OpenClaim := { program := "ytnmjcoppbkjogaa", sum := "0bbd182a58208527d1560d3a1fbad4759ca72ebaa6ba62dc127fb0cf1b2facc8", func := "loop.example/g00568/laws.FnExactAlignOf", spec := "fnExactAlignOf", unfollowed := true, recurses := true, apart := false }
def FnExactAlignOfSaid : Prop := fnExactAlignOfRow.holds Try.pinned (OpenSpec.ofChange fnExactAlignOfSpec)

/-- ITS FALSE NEIGHBOUR: 'it returns false'. Refute it at one input. -/
def fnExactAlignOfWrong : ChangeSpec := { name := "fnExactAlignOf", fn := fun _ => fun
  | [d1, d2, d3] => { results := [.lit (.bool false)], args := [d1, d2, d3] }
  | _ => none }
def FnExactAlignOfWrongFalsely : Prop := fnExactAlignOfRow.holds Try.pinned (OpenSpec.ofChange fnExactAlignOfWrong)

/- THE SECOND FORM. 'bulk': how many values and letters a reading holds, each counted each time it is reached (what is shared counts as often as it is met; a slice's spare places count too). A statement '..UptoSaid' is the law's where the arguments, and the package variables that the reading takes, are together of bulk at most 1048576: NARROWER than '..Said'. Prove '..Said' where nothing that the law and all that it calls make is longer than what came in: it says more and counts as full. Else prove '..UptoSaid'. A law counts once. -/
mutual
def uptoBulk {H : Type} : DataW H → Nat
  | .lit (.string bytes) => bytes.length + 1
  | .lit _ => 1
  | .nil => 1
  | .ptr d => uptoBulk d + 1
  | .slice elems spare => uptoBulkAll elems + uptoBulkAll spare + 1
  | .agg parts => uptoBulkAll parts + 1
  | .iface _ d => uptoBulk d + 1
  | .map entries => uptoBulkEntries entries + 1
  | .held _ => 1
def uptoBulkAll {H : Type} : List (DataW H) → Nat
  | [] => 0
  | d :: r => uptoBulk d + uptoBulkAll r
def uptoBulkEntries {H : Type} : List (Lit × DataW H) → Nat
  | [] => 0
  | x :: r => uptoBulkEntry x + uptoBulkEntries r
def uptoBulkEntry {H : Type} : Lit × DataW H → Nat
  | (.string bytes, d) => bytes.length + uptoBulk d + 1
  | (_, d) => uptoBulk d + 1
 end
def uptoSmall : (H : Type) → List (DataW H) → Bool := fun _ ds => decide (uptoBulkAll ds ≤ 1048576)
def OpenSpec.upto (s : _root_.Go.ChangeSpec) : _root_.Go.OpenSpec := { _root_.Go.OpenSpec.ofChange s with cond := some uptoSmall }

/-- 'laws.FnExactFoundOk', WHERE WHAT IT READS IS OF BULK AT MOST 1048576: true; the input reads as it did. -/
def fnExactFoundOkUptoRow : OpenClaim := { program := "ytnmjcoppbkjogaa", sum := "0bbd182a58208527d1560d3a1fbad4759ca72ebaa6ba62dc127fb0cf1b2facc8", func := "loop.example/g00568/laws.FnExactFoundOk", spec := "fnExactFoundOk", unfollowed := true, recurses := true, apart := false, narrowed := true }
def FnExactFoundOkUptoSaid : Prop := fnExactFoundOkUptoRow.holds Try.pinned (OpenSpec.upto fnExactFoundOkSpec)

/-- 'laws.FnExactHamming', WHERE WHAT IT READS IS OF BULK AT MOST 1048576: true; the input reads as it did. -/
def fnExactHammingUptoRow : OpenClaim := { program := "ytnmjcoppbkjogaa", sum := "0bbd182a58208527d1560d3a1fbad4759ca72ebaa6ba62dc127fb0cf1b2facc8", func := "loop.example/g00568/laws.FnExactHamming", spec := "fnExactHamming", apart := false, narrowed := true }
def FnExactHammingUptoSaid : Prop := fnExactHammingUptoRow.holds Try.pinned (OpenSpec.upto fnExactHammingSpec)

/-- 'laws.FnExactCostOf', WHERE WHAT IT READS IS OF BULK AT MOST 1048576: true; the input reads as it did. -/
def fnExactCostOfUptoRow : OpenClaim := { program := "ytnmjcoppbkjogaa", sum := "0bbd182a58208527d1560d3a1fbad4759ca72ebaa6ba62dc127fb0cf1b2facc8", func := "loop.example/g00568/laws.FnExactCostOf", spec := "fnExactCostOf", apart := false, narrowed := true }
def FnExactCostOfUptoSaid : Prop := fnExactCostOfUptoRow.holds Try.pinned (OpenSpec.upto fnExactCostOfSpec)

/-- 'laws.FnExactSwapDist', WHERE WHAT IT READS IS OF BULK AT MOST 1048576: true; the input reads as it did. -/
def fnExactSwapDistUptoRow : OpenClaim := { program := "ytnmjcoppbkjogaa", sum := "0bbd182a58208527d1560d3a1fbad4759ca72ebaa6ba62dc127fb0cf1b2facc8", func := "loop.example/g00568/laws.FnExactSwapDist", spec := "fnExactSwapDist", unfollowed := true, recurses := true, apart := false, narrowed := true }
def FnExactSwapDistUptoSaid : Prop := fnExactSwapDistUptoRow.holds Try.pinned (OpenSpec.upto fnExactSwapDistSpec)

/-- 'laws.FnExactSwapEnds', WHERE WHAT IT READS IS OF BULK AT MOST 1048576: true; the input reads as it did. -/
def fnExactSwapEndsUptoRow : OpenClaim := { program := "ytnmjcoppbkjogaa", sum := "0bbd182a58208527d1560d3a1fbad4759ca72ebaa6ba62dc127fb0cf1b2facc8", func := "loop.example/g00568/laws.FnExactSwapEnds", spec := "fnExactSwapEnds", unfollowed := true, recurses := true, apart := false, narrowed := true }
def FnExactSwapEndsUptoSaid : Prop := fnExactSwapEndsUptoRow.holds Try.pinned (OpenSpec.upto fnExactSwapEndsSpec)

/-- 'laws.FnExactStartDist', WHERE WHAT IT READS IS OF BULK AT MOST 1048576: true; the input reads as it did. -/
def fnExactStartDistUptoRow : OpenClaim := { program := "ytnmjcoppbkjogaa", sum := "0bbd182a58208527d1560d3a1fbad4759ca72ebaa6ba62dc127fb0cf1b2facc8", func := "loop.example/g00568/laws.FnExactStartDist", spec := "fnExactStartDist", unfollowed := true, recurses := true, apart := false, narrowed := true }
def FnExactStartDistUptoSaid : Prop := fnExactStartDistUptoRow.holds Try.pinned (OpenSpec.upto fnExactStartDistSpec)

/-- 'laws.FnExactWordsOf', WHERE WHAT IT READS IS OF BULK AT MOST 1048576: true; the input reads as it did. -/
def fnExactWordsOfUptoRow : OpenClaim := { program := "ytnmjcoppbkjogaa", sum := "0bbd182a58208527d1560d3a1fbad4759ca72ebaa6ba62dc127fb0cf1b2facc8", func := "loop.example/g00568/laws.FnExactWordsOf", spec := "fnExactWordsOf", unfollowed := true, recurses := true, apart := false, narrowed := true }
def FnExactWordsOfUptoSaid : Prop := fnExactWordsOfUptoRow.holds Try.pinned (OpenSpec.upto fnExactWordsOfSpec)

/-- 'laws.FnExactWholeEnds', WHERE WHAT IT READS IS OF BULK AT MOST 1048576: true; the input reads as it did. -/
def fnExactWholeEndsUptoRow : OpenClaim := { program := "ytnmjcoppbkjogaa", sum := "0bbd182a58208527d1560d3a1fbad4759ca72ebaa6ba62dc127fb0cf1b2facc8", func := "loop.example/g00568/laws.FnExactWholeEnds", spec := "fnExactWholeEnds", unfollowed := true, recurses := true, apart := false, narrowed := true }
def FnExactWholeEndsUptoSaid : Prop := fnExactWholeEndsUptoRow.holds Try.pinned (OpenSpec.upto fnExactWholeEndsSpec)

/-- 'laws.FnExactBkOf', WHERE WHAT IT READS IS OF BULK AT MOST 1048576: true; the input reads as it did. -/
def fnExactBkOfUptoRow : OpenClaim := { program := "ytnmjcoppbkjogaa", sum := "0bbd182a58208527d1560d3a1fbad4759ca72ebaa6ba62dc127fb0cf1b2facc8", func := "loop.example/g00568/laws.FnExactBkOf", spec := "fnExactBkOf", unfollowed := true, recurses := true, apart := false, narrowed := true }
def FnExactBkOfUptoSaid : Prop := fnExactBkOfUptoRow.holds Try.pinned (OpenSpec.upto fnExactBkOfSpec)

/-- 'laws.FnExactBkOk', WHERE WHAT IT READS IS OF BULK AT MOST 1048576: true; the input reads as it did. -/
def fnExactBkOkUptoRow : OpenClaim := { program := "ytnmjcoppbkjogaa", sum := "0bbd182a58208527d1560d3a1fbad4759ca72ebaa6ba62dc127fb0cf1b2facc8", func := "loop.example/g00568/laws.FnExactBkOk", spec := "fnExactBkOk", unfollowed := true, recurses := true, apart := false, narrowed := true }
def FnExactBkOkUptoSaid : Prop := fnExactBkOkUptoRow.holds Try.pinned (OpenSpec.upto fnExactBkOkSpec)

/-- 'laws.FnExactNear', WHERE WHAT IT READS IS OF BULK AT MOST 1048576: true; the input reads as it did. -/
def fnExactNearUptoRow : OpenClaim := { program := "ytnmjcoppbkjogaa", sum := "0bbd182a58208527d1560d3a1fbad4759ca72ebaa6ba62dc127fb0cf1b2facc8", func := "loop.example/g00568/laws.FnExactNear", spec := "fnExactNear", unfollowed := true, recurses := true, apart := false, narrowed := true }
def FnExactNearUptoSaid : Prop := fnExactNearUptoRow.holds Try.pinned (OpenSpec.upto fnExactNearSpec)

/-- 'laws.FnExactAlignOf', WHERE WHAT IT READS IS OF BULK AT MOST 1048576: true; the input reads as it did. -/
def fnExactAlignOfUptoRow : OpenClaim := { program := "ytnmjcoppbkjogaa", sum := "0bbd182a58208527d1560d3a1fbad4759ca72ebaa6ba62dc127fb0cf1b2facc8", func := "loop.example/g00568/laws.FnExactAlignOf", spec := "fnExactAlignOf", unfollowed := true, recurses := true, apart := false, narrowed := true }
def FnExactAlignOfUptoSaid : Prop := fnExactAlignOfUptoRow.holds Try.pinned (OpenSpec.upto fnExactAlignOfSpec)

end Rows
end Go.Proofs.Ytnmjcoppbkjogaa

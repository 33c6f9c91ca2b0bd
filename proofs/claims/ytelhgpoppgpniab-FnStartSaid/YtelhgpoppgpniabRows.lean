/-
  No cell of these rows narrows 'for every input' (looked for: loops, veiled, ifaces, maps, wideKeys, modest, calm, conditions, laid).
  DERIVED. THE GIVEN ROWS OF THIS SEAT. 7 by the template 'for every input the law returns true; each argument reads behind the call as it read before'; 0 by the template 'total and deterministic' (their statements: YtelhgpoppgpniabTotals.lean).
  GIVEN WITH THE SEED: the statements are not yours to turn. If you find one false, say at which input.
  Laid BY PROGRAM, IN A SANDBOX (cutbox-rows.mjs): the forced cells as the released guide's own fill.sh prints them over the translation adf0af8249f88f57… (all of the seat's roots in one cut). By AI agents, Wed Nov 11 2026. No macro, syntax, notation, axiom, sorry.
-/
import Derived.Test.YtelhgpoppgpniabChecked
import GoSem.Claim
import GoSem.ClaimJoined
import GoSem.ClaimMapViews
import Derived.JoinedTies
import Derived.KernelRfl
namespace Go.Proofs.Ytelhgpoppgpniab
/- THE CELL 'sum', in the pinned program and in every row, IS THE sha256 OF THE DUMP (.gsa) THAT YtelhgpoppgpniabProg.lean LOADS. Nothing in Lean hashes anything: it is a label: what it is worth is what the hold of that sum in a sandbox is worth. -/
noncomputable def Try.pinned : Pinned := { name := "ytelhgpoppgpniab", sum := "adf0af8249f88f57c56f861caf4fc19ddb4f69224ec714e159c00040dcc4d337", checked := Try.checked }
namespace Rows
def none {H : Type} : Left H := { results := [], args := [] }

/-- 'laws.FnAligned': WHATEVER THE INPUT: true; the input reads as it did. -/
def fnAlignedSpec : ChangeSpec := { name := "fnAligned", fn := fun _ => fun
  | [d] => { results := [.lit (.bool true)], args := [d] }
  | _ => none }
def fnAlignedRow : OpenClaim := { program := "ytelhgpoppgpniab", sum := "adf0af8249f88f57c56f861caf4fc19ddb4f69224ec714e159c00040dcc4d337", func := "loop.example/g00568/laws.FnAligned", spec := "fnAligned", unfollowed := true, recurses := true, apart := false }
def FnAlignedSaid : Prop := fnAlignedRow.holds Try.pinned (OpenSpec.ofChange fnAlignedSpec)

/-- ITS FALSE NEIGHBOUR: 'it returns false'. Refute it at one input. -/
def fnAlignedWrong : ChangeSpec := { name := "fnAligned", fn := fun _ => fun
  | [d] => { results := [.lit (.bool false)], args := [d] }
  | _ => none }
def FnAlignedWrongFalsely : Prop := fnAlignedRow.holds Try.pinned (OpenSpec.ofChange fnAlignedWrong)

/-- 'laws.FnStart': WHATEVER THE INPUT: true; the input reads as it did. -/
def fnStartSpec : ChangeSpec := { name := "fnStart", fn := fun _ => fun
  | [d] => { results := [.lit (.bool true)], args := [d] }
  | _ => none }
def fnStartRow : OpenClaim := { program := "ytelhgpoppgpniab", sum := "adf0af8249f88f57c56f861caf4fc19ddb4f69224ec714e159c00040dcc4d337", func := "loop.example/g00568/laws.FnStart", spec := "fnStart", unfollowed := true, recurses := true, apart := false }
def FnStartSaid : Prop := fnStartRow.holds Try.pinned (OpenSpec.ofChange fnStartSpec)

/-- ITS FALSE NEIGHBOUR: 'it returns false'. Refute it at one input. -/
def fnStartWrong : ChangeSpec := { name := "fnStart", fn := fun _ => fun
  | [d] => { results := [.lit (.bool false)], args := [d] }
  | _ => none }
def FnStartWrongFalsely : Prop := fnStartRow.holds Try.pinned (OpenSpec.ofChange fnStartWrong)

/-- 'laws.FnTrees': WHATEVER THE INPUT: true; the input reads as it did. -/
def fnTreesSpec : ChangeSpec := { name := "fnTrees", fn := fun _ => fun
  | [d] => { results := [.lit (.bool true)], args := [d] }
  | _ => none }
def fnTreesRow : OpenClaim := { program := "ytelhgpoppgpniab", sum := "adf0af8249f88f57c56f861caf4fc19ddb4f69224ec714e159c00040dcc4d337", func := "loop.example/g00568/laws.FnTrees", spec := "fnTrees", unfollowed := true, recurses := true, apart := false }
def FnTreesSaid : Prop := fnTreesRow.holds Try.pinned (OpenSpec.ofChange fnTreesSpec)

/-- ITS FALSE NEIGHBOUR: 'it returns false'. Refute it at one input. -/
def fnTreesWrong : ChangeSpec := { name := "fnTrees", fn := fun _ => fun
  | [d] => { results := [.lit (.bool false)], args := [d] }
  | _ => none }
def FnTreesWrongFalsely : Prop := fnTreesRow.holds Try.pinned (OpenSpec.ofChange fnTreesWrong)

/-- 'laws.FnNear': WHATEVER THE INPUT: true; the input reads as it did. -/
def fnNearSpec : ChangeSpec := { name := "fnNear", fn := fun _ => fun
  | [d] => { results := [.lit (.bool true)], args := [d] }
  | _ => none }
def fnNearRow : OpenClaim := { program := "ytelhgpoppgpniab", sum := "adf0af8249f88f57c56f861caf4fc19ddb4f69224ec714e159c00040dcc4d337", func := "loop.example/g00568/laws.FnNear", spec := "fnNear", unfollowed := true, recurses := true, apart := false }
def FnNearSaid : Prop := fnNearRow.holds Try.pinned (OpenSpec.ofChange fnNearSpec)

/-- ITS FALSE NEIGHBOUR: 'it returns false'. Refute it at one input. -/
def fnNearWrong : ChangeSpec := { name := "fnNear", fn := fun _ => fun
  | [d] => { results := [.lit (.bool false)], args := [d] }
  | _ => none }
def FnNearWrongFalsely : Prop := fnNearRow.holds Try.pinned (OpenSpec.ofChange fnNearWrong)

/-- 'laws.FnGrams': WHATEVER THE INPUT: true; the input reads as it did. -/
def fnGramsSpec : ChangeSpec := { name := "fnGrams", fn := fun _ => fun
  | [d] => { results := [.lit (.bool true)], args := [d] }
  | _ => none }
def fnGramsRow : OpenClaim := { program := "ytelhgpoppgpniab", sum := "adf0af8249f88f57c56f861caf4fc19ddb4f69224ec714e159c00040dcc4d337", func := "loop.example/g00568/laws.FnGrams", spec := "fnGrams", unfollowed := true, recurses := true, apart := false }
def FnGramsSaid : Prop := fnGramsRow.holds Try.pinned (OpenSpec.ofChange fnGramsSpec)

/-- ITS FALSE NEIGHBOUR: 'it returns false'. Refute it at one input. -/
def fnGramsWrong : ChangeSpec := { name := "fnGrams", fn := fun _ => fun
  | [d] => { results := [.lit (.bool false)], args := [d] }
  | _ => none }
def FnGramsWrongFalsely : Prop := fnGramsRow.holds Try.pinned (OpenSpec.ofChange fnGramsWrong)

/-- 'laws.FnMayBe': WHATEVER THE INPUT: true; the input reads as it did. -/
def fnMayBeSpec : ChangeSpec := { name := "fnMayBe", fn := fun _ => fun
  | [d] => { results := [.lit (.bool true)], args := [d] }
  | _ => none }
def fnMayBeRow : OpenClaim := { program := "ytelhgpoppgpniab", sum := "adf0af8249f88f57c56f861caf4fc19ddb4f69224ec714e159c00040dcc4d337", func := "loop.example/g00568/laws.FnMayBe", spec := "fnMayBe", unfollowed := true, recurses := true, apart := false }
def FnMayBeSaid : Prop := fnMayBeRow.holds Try.pinned (OpenSpec.ofChange fnMayBeSpec)

/-- ITS FALSE NEIGHBOUR: 'it returns false'. Refute it at one input. -/
def fnMayBeWrong : ChangeSpec := { name := "fnMayBe", fn := fun _ => fun
  | [d] => { results := [.lit (.bool false)], args := [d] }
  | _ => none }
def FnMayBeWrongFalsely : Prop := fnMayBeRow.holds Try.pinned (OpenSpec.ofChange fnMayBeWrong)

/-- 'laws.FnNearBy': WHATEVER THE INPUT: true; the input reads as it did. -/
def fnNearBySpec : ChangeSpec := { name := "fnNearBy", fn := fun _ => fun
  | [d] => { results := [.lit (.bool true)], args := [d] }
  | _ => none }
def fnNearByRow : OpenClaim := { program := "ytelhgpoppgpniab", sum := "adf0af8249f88f57c56f861caf4fc19ddb4f69224ec714e159c00040dcc4d337", func := "loop.example/g00568/laws.FnNearBy", spec := "fnNearBy", unfollowed := true, recurses := true, apart := false }
def FnNearBySaid : Prop := fnNearByRow.holds Try.pinned (OpenSpec.ofChange fnNearBySpec)

/-- ITS FALSE NEIGHBOUR: 'it returns false'. Refute it at one input. -/
def fnNearByWrong : ChangeSpec := { name := "fnNearBy", fn := fun _ => fun
  | [d] => { results := [.lit (.bool false)], args := [d] }
  | _ => none }
def FnNearByWrongFalsely : Prop := fnNearByRow.holds Try.pinned (OpenSpec.ofChange fnNearByWrong)

/- THE SECOND FORM. 'bulk': how many values and letters a reading holds, each counted each time it is reached (what is shared counts as often as it is met; a slice's spare places count too). A statement '..UptoSaid' is the law's where the arguments, and the package variables that the reading takes, are together of bulk at most 1048576: NARROWER than '..Said'. Prove '..Said' where nothing that the law and all that it calls make is longer than what came in: it says more and counts as full. Else prove '..UptoSaid'. A law counts once. -/
mutual
def uptoBulk {H : Type} : DataW H → Nat
  | .lit (.string bytes) => bytes.length + 1
  | .lit _ => 1
  | .nil => 1
  | .ptr d => uptoBulk d + 1
  | .slice elems spare => uptoBulkAll elems + uptoBulkAll spare + 1
  | .agg parts => uptoBulkAll parts + 1
  | .iface _ d => uptoBulk d + 1
  | .map entries => uptoBulkEntries entries + 1
  | .held _ => 1
def uptoBulkAll {H : Type} : List (DataW H) → Nat
  | [] => 0
  | d :: r => uptoBulk d + uptoBulkAll r
def uptoBulkEntries {H : Type} : List (Lit × DataW H) → Nat
  | [] => 0
  | x :: r => uptoBulkEntry x + uptoBulkEntries r
def uptoBulkEntry {H : Type} : Lit × DataW H → Nat
  | (.string bytes, d) => bytes.length + uptoBulk d + 1
  | (_, d) => uptoBulk d + 1
 end
def uptoSmall : (H : Type) → List (DataW H) → Bool := fun _ ds => decide (uptoBulkAll ds ≤ 1048576)
def OpenSpec.upto (s : _root_.Go.ChangeSpec) : _root_.Go.OpenSpec := { _root_.Go.OpenSpec.ofChange s with cond := some uptoSmall }

/-- 'laws.FnAligned', WHERE WHAT IT READS IS OF BULK AT MOST 1048576: true; the input reads as it did. -/
def fnAlignedUptoRow : OpenClaim := { program := "ytelhgpoppgpniab", sum := "adf0af8249f88f57c56f861caf4fc19ddb4f69224ec714e159c00040dcc4d337", func := "loop.example/g00568/laws.FnAligned", spec := "fnAligned", unfollowed := true, recurses := true, apart := false, narrowed := true }
def FnAlignedUptoSaid : Prop := fnAlignedUptoRow.holds Try.pinned (OpenSpec.upto fnAlignedSpec)

/-- 'laws.FnStart', WHERE WHAT IT READS IS OF BULK AT MOST 1048576: true; the input reads as it did. -/
def fnStartUptoRow : OpenClaim := { program := "ytelhgpoppgpniab", sum := "adf0af8249f88f57c56f861caf4fc19ddb4f69224ec714e159c00040dcc4d337", func := "loop.example/g00568/laws.FnStart", spec := "fnStart", unfollowed := true, recurses := true, apart := false, narrowed := true }
def FnStartUptoSaid : Prop := fnStartUptoRow.holds Try.pinned (OpenSpec.upto fnStartSpec)

/-- 'laws.FnTrees', WHERE WHAT IT READS IS OF BULK AT MOST 1048576: true; the input reads as it did. -/
def fnTreesUptoRow : OpenClaim := { program := "ytelhgpoppgpniab", sum := "adf0af8249f88f57c56f861caf4fc19ddb4f69224ec714e159c00040dcc4d337", func := "loop.example/g00568/laws.FnTrees", spec := "fnTrees", unfollowed := true, recurses := true, apart := false, narrowed := true }
def FnTreesUptoSaid : Prop := fnTreesUptoRow.holds Try.pinned (OpenSpec.upto fnTreesSpec)

/-- 'laws.FnNear', WHERE WHAT IT READS IS OF BULK AT MOST 1048576: true; the input reads as it did. -/
def fnNearUptoRow : OpenClaim := { program := "ytelhgpoppgpniab", sum := "adf0af8249f88f57c56f861caf4fc19ddb4f69224ec714e159c00040dcc4d337", func := "loop.example/g00568/laws.FnNear", spec := "fnNear", unfollowed := true, recurses := true, apart := false, narrowed := true }
def FnNearUptoSaid : Prop := fnNearUptoRow.holds Try.pinned (OpenSpec.upto fnNearSpec)

/-- 'laws.FnGrams', WHERE WHAT IT READS IS OF BULK AT MOST 1048576: true; the input reads as it did. -/
def fnGramsUptoRow : OpenClaim := { program := "ytelhgpoppgpniab", sum := "adf0af8249f88f57c56f861caf4fc19ddb4f69224ec714e159c00040dcc4d337", func := "loop.example/g00568/laws.FnGrams", spec := "fnGrams", unfollowed := true, recurses := true, apart := false, narrowed := true }
def FnGramsUptoSaid : Prop := fnGramsUptoRow.holds Try.pinned (OpenSpec.upto fnGramsSpec)

/-- 'laws.FnMayBe', WHERE WHAT IT READS IS OF BULK AT MOST 1048576: true; the input reads as it did. -/
def fnMayBeUptoRow : OpenClaim := { program := "ytelhgpoppgpniab", sum := "adf0af8249f88f57c56f861caf4fc19ddb4f69224ec714e159c00040dcc4d337", func := "loop.example/g00568/laws.FnMayBe", spec := "fnMayBe", unfollowed := true, recurses := true, apart := false, narrowed := true }
def FnMayBeUptoSaid : Prop := fnMayBeUptoRow.holds Try.pinned (OpenSpec.upto fnMayBeSpec)

/-- 'laws.FnNearBy', WHERE WHAT IT READS IS OF BULK AT MOST 1048576: true; the input reads as it did. -/
def fnNearByUptoRow : OpenClaim := { program := "ytelhgpoppgpniab", sum := "adf0af8249f88f57c56f861caf4fc19ddb4f69224ec714e159c00040dcc4d337", func := "loop.example/g00568/laws.FnNearBy", spec := "fnNearBy", unfollowed := true, recurses := true, apart := false, narrowed := true }
def FnNearByUptoSaid : Prop := fnNearByUptoRow.holds Try.pinned (OpenSpec.upto fnNearBySpec)

end Rows
end Go.Proofs.Ytelhgpoppgpniab

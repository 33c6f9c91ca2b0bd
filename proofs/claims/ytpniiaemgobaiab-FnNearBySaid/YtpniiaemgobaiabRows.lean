/-
  No cell of these rows narrows 'for every input' (looked for: loops, veiled, ifaces, maps, wideKeys, modest, calm, conditions, laid).
  DERIVED. THE GIVEN ROWS OF THIS SEAT. 6 by the template 'for every input the law returns true; each argument reads behind the call as it read before'; 0 by the template 'total and deterministic' (their statements: YtpniiaemgobaiabTotals.lean).
  GIVEN WITH THE SEED: the statements are not yours to turn. If you find one false, say at which input.
  Laid BY PROGRAM, IN A SANDBOX (cutbox-rows.mjs): the forced cells as the released guide's own fill.sh prints them over the translation bb9ddeac34a8f15e… (all of the seat's roots in one cut). By AI agents, Wed Nov 11 2026. No macro, syntax, notation, axiom, sorry.
-/
import Derived.Test.YtpniiaemgobaiabChecked
import GoSem.Claim
import GoSem.ClaimJoined
import GoSem.ClaimMapViews
import Derived.JoinedTies
import Derived.KernelRfl
namespace Go.Proofs.Ytpniiaemgobaiab
/- THE CELL 'sum', in the pinned program and in every row, IS THE sha256 OF THE DUMP (.gsa) THAT YtpniiaemgobaiabProg.lean LOADS. Nothing in Lean hashes anything: it is a label: what it is worth is what the hold of that sum in a sandbox is worth. -/
noncomputable def Try.pinned : Pinned := { name := "ytpniiaemgobaiab", sum := "bb9ddeac34a8f15e1152173bd83702b72c6a44f08decf3d800dd50ddbe0c7890", checked := Try.checked }
namespace Rows
def none {H : Type} : Left H := { results := [], args := [] }

/-- 'laws.FnTrees': WHATEVER THE INPUT: true; the input reads as it did. -/
def fnTreesSpec : ChangeSpec := { name := "fnTrees", fn := fun _ => fun
  | [d] => { results := [.lit (.bool true)], args := [d] }
  | _ => none }
def fnTreesRow : OpenClaim := { program := "ytpniiaemgobaiab", sum := "bb9ddeac34a8f15e1152173bd83702b72c6a44f08decf3d800dd50ddbe0c7890", func := "loop.example/g00568/laws.FnTrees", spec := "fnTrees", unfollowed := true, recurses := true, apart := false }
def FnTreesSaid : Prop := fnTreesRow.holds Try.pinned (OpenSpec.ofChange fnTreesSpec)

/-- ITS FALSE NEIGHBOUR: 'it returns false'. Refute it at one input. -/
def fnTreesWrong : ChangeSpec := { name := "fnTrees", fn := fun _ => fun
  | [d] => { results := [.lit (.bool false)], args := [d] }
  | _ => none }
def FnTreesWrongFalsely : Prop := fnTreesRow.holds Try.pinned (OpenSpec.ofChange fnTreesWrong)

/-- 'laws.FnNear': WHATEVER THE INPUT: true; the input reads as it did. -/
def fnNearSpec : ChangeSpec := { name := "fnNear", fn := fun _ => fun
  | [d] => { results := [.lit (.bool true)], args := [d] }
  | _ => none }
def fnNearRow : OpenClaim := { program := "ytpniiaemgobaiab", sum := "bb9ddeac34a8f15e1152173bd83702b72c6a44f08decf3d800dd50ddbe0c7890", func := "loop.example/g00568/laws.FnNear", spec := "fnNear", unfollowed := true, recurses := true, apart := false }
def FnNearSaid : Prop := fnNearRow.holds Try.pinned (OpenSpec.ofChange fnNearSpec)

/-- ITS FALSE NEIGHBOUR: 'it returns false'. Refute it at one input. -/
def fnNearWrong : ChangeSpec := { name := "fnNear", fn := fun _ => fun
  | [d] => { results := [.lit (.bool false)], args := [d] }
  | _ => none }
def FnNearWrongFalsely : Prop := fnNearRow.holds Try.pinned (OpenSpec.ofChange fnNearWrong)

/-- 'laws.FnNearBy': WHATEVER THE INPUT: true; the input reads as it did. -/
def fnNearBySpec : ChangeSpec := { name := "fnNearBy", fn := fun _ => fun
  | [d] => { results := [.lit (.bool true)], args := [d] }
  | _ => none }
def fnNearByRow : OpenClaim := { program := "ytpniiaemgobaiab", sum := "bb9ddeac34a8f15e1152173bd83702b72c6a44f08decf3d800dd50ddbe0c7890", func := "loop.example/g00568/laws.FnNearBy", spec := "fnNearBy", unfollowed := true, recurses := true, apart := false }
def FnNearBySaid : Prop := fnNearByRow.holds Try.pinned (OpenSpec.ofChange fnNearBySpec)

/-- ITS FALSE NEIGHBOUR: 'it returns false'. Refute it at one input. -/
def fnNearByWrong : ChangeSpec := { name := "fnNearBy", fn := fun _ => fun
  | [d] => { results := [.lit (.bool false)], args := [d] }
  | _ => none }
def FnNearByWrongFalsely : Prop := fnNearByRow.holds Try.pinned (OpenSpec.ofChange fnNearByWrong)

/-- 'laws.FnAligned': WHATEVER THE INPUT: true; the input reads as it did. -/
def fnAlignedSpec : ChangeSpec := { name := "fnAligned", fn := fun _ => fun
  | [d] => { results := [.lit (.bool true)], args := [d] }
  | _ => none }
def fnAlignedRow : OpenClaim := { program := "ytpniiaemgobaiab", sum := "bb9ddeac34a8f15e1152173bd83702b72c6a44f08decf3d800dd50ddbe0c7890", func := "loop.example/g00568/laws.FnAligned", spec := "fnAligned", unfollowed := true, recurses := true, apart := false }
def FnAlignedSaid : Prop := fnAlignedRow.holds Try.pinned (OpenSpec.ofChange fnAlignedSpec)

/-- ITS FALSE NEIGHBOUR: 'it returns false'. Refute it at one input. -/
def fnAlignedWrong : ChangeSpec := { name := "fnAligned", fn := fun _ => fun
  | [d] => { results := [.lit (.bool false)], args := [d] }
  | _ => none }
def FnAlignedWrongFalsely : Prop := fnAlignedRow.holds Try.pinned (OpenSpec.ofChange fnAlignedWrong)

/-- 'laws.FnSuggested': WHATEVER THE INPUT: true; the input reads as it did. -/
def fnSuggestedSpec : ChangeSpec := { name := "fnSuggested", fn := fun _ => fun
  | [d] => { results := [.lit (.bool true)], args := [d] }
  | _ => none }
def fnSuggestedRow : OpenClaim := { program := "ytpniiaemgobaiab", sum := "bb9ddeac34a8f15e1152173bd83702b72c6a44f08decf3d800dd50ddbe0c7890", func := "loop.example/g00568/laws.FnSuggested", spec := "fnSuggested", unfollowed := true, recurses := true, apart := false }
def FnSuggestedSaid : Prop := fnSuggestedRow.holds Try.pinned (OpenSpec.ofChange fnSuggestedSpec)

/-- ITS FALSE NEIGHBOUR: 'it returns false'. Refute it at one input. -/
def fnSuggestedWrong : ChangeSpec := { name := "fnSuggested", fn := fun _ => fun
  | [d] => { results := [.lit (.bool false)], args := [d] }
  | _ => none }
def FnSuggestedWrongFalsely : Prop := fnSuggestedRow.holds Try.pinned (OpenSpec.ofChange fnSuggestedWrong)

/-- 'laws.FnCompleted': WHATEVER THE INPUT: true; the input reads as it did. -/
def fnCompletedSpec : ChangeSpec := { name := "fnCompleted", fn := fun _ => fun
  | [d] => { results := [.lit (.bool true)], args := [d] }
  | _ => none }
def fnCompletedRow : OpenClaim := { program := "ytpniiaemgobaiab", sum := "bb9ddeac34a8f15e1152173bd83702b72c6a44f08decf3d800dd50ddbe0c7890", func := "loop.example/g00568/laws.FnCompleted", spec := "fnCompleted", unfollowed := true, recurses := true, apart := false }
def FnCompletedSaid : Prop := fnCompletedRow.holds Try.pinned (OpenSpec.ofChange fnCompletedSpec)

/-- ITS FALSE NEIGHBOUR: 'it returns false'. Refute it at one input. -/
def fnCompletedWrong : ChangeSpec := { name := "fnCompleted", fn := fun _ => fun
  | [d] => { results := [.lit (.bool false)], args := [d] }
  | _ => none }
def FnCompletedWrongFalsely : Prop := fnCompletedRow.holds Try.pinned (OpenSpec.ofChange fnCompletedWrong)

/- THE SECOND FORM. 'bulk': how many values and letters a reading holds, each counted each time it is reached (what is shared counts as often as it is met; a slice's spare places count too). A statement '..UptoSaid' is the law's where the arguments, and the package variables that the reading takes, are together of bulk at most 1048576: NARROWER than '..Said'. Prove '..Said' where nothing that the law and all that it calls make is longer than what came in: it says more and counts as full. Else prove '..UptoSaid'. A law counts once. -/
mutual
def uptoBulk {H : Type} : DataW H → Nat
  | .lit (.string bytes) => bytes.length + 1
  | .lit _ => 1
  | .nil => 1
  | .ptr d => uptoBulk d + 1
  | .slice elems spare => uptoBulkAll elems + uptoBulkAll spare + 1
  | .agg parts => uptoBulkAll parts + 1
  | .iface _ d => uptoBulk d + 1
  | .map entries => uptoBulkEntries entries + 1
  | .held _ => 1
def uptoBulkAll {H : Type} : List (DataW H) → Nat
  | [] => 0
  | d :: r => uptoBulk d + uptoBulkAll r
def uptoBulkEntries {H : Type} : List (Lit × DataW H) → Nat
  | [] => 0
  | x :: r => uptoBulkEntry x + uptoBulkEntries r
def uptoBulkEntry {H : Type} : Lit × DataW H → Nat
  | (.string bytes, d) => bytes.length + uptoBulk d + 1
  | (_, d) => uptoBulk d + 1
 end
def uptoSmall : (H : Type) → List (DataW H) → Bool := fun _ ds => decide (uptoBulkAll ds ≤ 1048576)
def OpenSpec.upto (s : _root_.Go.ChangeSpec) : _root_.Go.OpenSpec := { _root_.Go.OpenSpec.ofChange s with cond := some uptoSmall }

/-- 'laws.FnTrees', WHERE WHAT IT READS IS OF BULK AT MOST 1048576: true; the input reads as it did. -/
def fnTreesUptoRow : OpenClaim := { program := "ytpniiaemgobaiab", sum := "bb9ddeac34a8f15e1152173bd83702b72c6a44f08decf3d800dd50ddbe0c7890", func := "loop.example/g00568/laws.FnTrees", spec := "fnTrees", unfollowed := true, recurses := true, apart := false, narrowed := true }
def FnTreesUptoSaid : Prop := fnTreesUptoRow.holds Try.pinned (OpenSpec.upto fnTreesSpec)

/-- 'laws.FnNear', WHERE WHAT IT READS IS OF BULK AT MOST 1048576: true; the input reads as it did. -/
def fnNearUptoRow : OpenClaim := { program := "ytpniiaemgobaiab", sum := "bb9ddeac34a8f15e1152173bd83702b72c6a44f08decf3d800dd50ddbe0c7890", func := "loop.example/g00568/laws.FnNear", spec := "fnNear", unfollowed := true, recurses := true, apart := false, narrowed := true }
def FnNearUptoSaid : Prop := fnNearUptoRow.holds Try.pinned (OpenSpec.upto fnNearSpec)

/-- 'laws.FnNearBy', WHERE WHAT IT READS IS OF BULK AT MOST 1048576: true; the input reads as it did. -/
def fnNearByUptoRow : OpenClaim := { program := "ytpniiaemgobaiab", sum := "bb9ddeac34a8f15e1152173bd83702b72c6a44f08decf3d800dd50ddbe0c7890", func := "loop.example/g00568/laws.FnNearBy", spec := "fnNearBy", unfollowed := true, recurses := true, apart := false, narrowed := true }
def FnNearByUptoSaid : Prop := fnNearByUptoRow.holds Try.pinned (OpenSpec.upto fnNearBySpec)

/-- 'laws.FnAligned', WHERE WHAT IT READS IS OF BULK AT MOST 1048576: true; the input reads as it did. -/
def fnAlignedUptoRow : OpenClaim := { program := "ytpniiaemgobaiab", sum := "bb9ddeac34a8f15e1152173bd83702b72c6a44f08decf3d800dd50ddbe0c7890", func := "loop.example/g00568/laws.FnAligned", spec := "fnAligned", unfollowed := true, recurses := true, apart := false, narrowed := true }
def FnAlignedUptoSaid : Prop := fnAlignedUptoRow.holds Try.pinned (OpenSpec.upto fnAlignedSpec)

/-- 'laws.FnSuggested', WHERE WHAT IT READS IS OF BULK AT MOST 1048576: true; the input reads as it did. -/
def fnSuggestedUptoRow : OpenClaim := { program := "ytpniiaemgobaiab", sum := "bb9ddeac34a8f15e1152173bd83702b72c6a44f08decf3d800dd50ddbe0c7890", func := "loop.example/g00568/laws.FnSuggested", spec := "fnSuggested", unfollowed := true, recurses := true, apart := false, narrowed := true }
def FnSuggestedUptoSaid : Prop := fnSuggestedUptoRow.holds Try.pinned (OpenSpec.upto fnSuggestedSpec)

/-- 'laws.FnCompleted', WHERE WHAT IT READS IS OF BULK AT MOST 1048576: true; the input reads as it did. -/
def fnCompletedUptoRow : OpenClaim := { program := "ytpniiaemgobaiab", sum := "bb9ddeac34a8f15e1152173bd83702b72c6a44f08decf3d800dd50ddbe0c7890", func := "loop.example/g00568/laws.FnCompleted", spec := "fnCompleted", unfollowed := true, recurses := true, apart := false, narrowed := true }
def FnCompletedUptoSaid : Prop := fnCompletedUptoRow.holds Try.pinned (OpenSpec.upto fnCompletedSpec)

end Rows
end Go.Proofs.Ytpniiaemgobaiab

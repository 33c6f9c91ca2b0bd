/-
  No cell of these rows narrows 'for every input' (looked for: loops, veiled, ifaces, maps, wideKeys, modest, calm, conditions, laid).
  DERIVED. THE GIVEN ROWS OF THIS SEAT. 11 by the template 'for every input the law returns true; each argument reads behind the call as it read before'; 0 by the template 'total and deterministic' (their statements: YtflbjjpkloeocaaTotals.lean).
  GIVEN WITH THE SEED: the statements are not yours to turn. If you find one false, say at which input.
  Laid BY PROGRAM, IN A SANDBOX (cutbox-rows.mjs): the forced cells as the released guide's own fill.sh prints them over the translation 616316154539035a… (all of the seat's roots in one cut). By AI agents, Wed Nov 11 2026. No macro, syntax, notation, axiom, sorry.
-/
import Derived.Test.YtflbjjpkloeocaaChecked
import GoSem.Claim
import GoSem.ClaimJoined
import GoSem.ClaimMapViews
import Derived.JoinedTies
import Derived.KernelRfl
namespace Go.Proofs.Ytflbjjpkloeocaa
/- THE CELL 'sum', in the pinned program and in every row, IS THE sha256 OF THE DUMP (.gsa) THAT YtflbjjpkloeocaaProg.lean LOADS. Nothing in Lean hashes anything: it is a label: what it is worth is what the hold of that sum in a sandbox is worth. -/
noncomputable def Try.pinned : Pinned := { name := "ytflbjjpkloeocaa", sum := "616316154539035aeee3b83e97e2d39923309f837cdf9f7aa0b6e08ab3b86d10", checked := Try.checked }
namespace Rows
def none {H : Type} : Left H := { results := [], args := [] }

/-- 'laws.FnDistance': WHATEVER THE INPUT: true; the input reads as it did. -/
def fnDistanceSpec : ChangeSpec := { name := "fnDistance", fn := fun _ => fun
  | [d] => { results := [.lit (.bool true)], args := [d] }
  | _ => none }
def fnDistanceRow : OpenClaim := { program := "ytflbjjpkloeocaa", sum := "616316154539035aeee3b83e97e2d39923309f837cdf9f7aa0b6e08ab3b86d10", func := "loop.example/g00568/laws.FnDistance", spec := "fnDistance", unfollowed := true, recurses := true, apart := false }
def FnDistanceSaid : Prop := fnDistanceRow.holds Try.pinned (OpenSpec.ofChange fnDistanceSpec)

/-- ITS FALSE NEIGHBOUR: 'it returns false'. Refute it at one input. -/
def fnDistanceWrong : ChangeSpec := { name := "fnDistance", fn := fun _ => fun
  | [d] => { results := [.lit (.bool false)], args := [d] }
  | _ => none }
def FnDistanceWrongFalsely : Prop := fnDistanceRow.holds Try.pinned (OpenSpec.ofChange fnDistanceWrong)

/-- 'laws.FnPieceByPiece': WHATEVER THE INPUT: true; the input reads as it did. -/
def fnPieceByPieceSpec : ChangeSpec := { name := "fnPieceByPiece", fn := fun _ => fun
  | [d] => { results := [.lit (.bool true)], args := [d] }
  | _ => none }
def fnPieceByPieceRow : OpenClaim := { program := "ytflbjjpkloeocaa", sum := "616316154539035aeee3b83e97e2d39923309f837cdf9f7aa0b6e08ab3b86d10", func := "loop.example/g00568/laws.FnPieceByPiece", spec := "fnPieceByPiece", unfollowed := true, recurses := true, apart := false }
def FnPieceByPieceSaid : Prop := fnPieceByPieceRow.holds Try.pinned (OpenSpec.ofChange fnPieceByPieceSpec)

/-- ITS FALSE NEIGHBOUR: 'it returns false'. Refute it at one input. -/
def fnPieceByPieceWrong : ChangeSpec := { name := "fnPieceByPiece", fn := fun _ => fun
  | [d] => { results := [.lit (.bool false)], args := [d] }
  | _ => none }
def FnPieceByPieceWrongFalsely : Prop := fnPieceByPieceRow.holds Try.pinned (OpenSpec.ofChange fnPieceByPieceWrong)

/-- 'laws.FnColumns': WHATEVER THE INPUT: true; the input reads as it did. -/
def fnColumnsSpec : ChangeSpec := { name := "fnColumns", fn := fun _ => fun
  | [d] => { results := [.lit (.bool true)], args := [d] }
  | _ => none }
def fnColumnsRow : OpenClaim := { program := "ytflbjjpkloeocaa", sum := "616316154539035aeee3b83e97e2d39923309f837cdf9f7aa0b6e08ab3b86d10", func := "loop.example/g00568/laws.FnColumns", spec := "fnColumns", apart := false }
def FnColumnsSaid : Prop := fnColumnsRow.holds Try.pinned (OpenSpec.ofChange fnColumnsSpec)

/-- ITS FALSE NEIGHBOUR: 'it returns false'. Refute it at one input. -/
def fnColumnsWrong : ChangeSpec := { name := "fnColumns", fn := fun _ => fun
  | [d] => { results := [.lit (.bool false)], args := [d] }
  | _ => none }
def FnColumnsWrongFalsely : Prop := fnColumnsRow.holds Try.pinned (OpenSpec.ofChange fnColumnsWrong)

/-- 'laws.FnEnds': WHATEVER THE INPUT: true; the input reads as it did. -/
def fnEndsSpec : ChangeSpec := { name := "fnEnds", fn := fun _ => fun
  | [d] => { results := [.lit (.bool true)], args := [d] }
  | _ => none }
def fnEndsRow : OpenClaim := { program := "ytflbjjpkloeocaa", sum := "616316154539035aeee3b83e97e2d39923309f837cdf9f7aa0b6e08ab3b86d10", func := "loop.example/g00568/laws.FnEnds", spec := "fnEnds", unfollowed := true, recurses := true, apart := false }
def FnEndsSaid : Prop := fnEndsRow.holds Try.pinned (OpenSpec.ofChange fnEndsSpec)

/-- ITS FALSE NEIGHBOUR: 'it returns false'. Refute it at one input. -/
def fnEndsWrong : ChangeSpec := { name := "fnEnds", fn := fun _ => fun
  | [d] => { results := [.lit (.bool false)], args := [d] }
  | _ => none }
def FnEndsWrongFalsely : Prop := fnEndsRow.holds Try.pinned (OpenSpec.ofChange fnEndsWrong)

/-- 'laws.FnMoreFaults': WHATEVER THE INPUT: true; the input reads as it did. -/
def fnMoreFaultsSpec : ChangeSpec := { name := "fnMoreFaults", fn := fun _ => fun
  | [d] => { results := [.lit (.bool true)], args := [d] }
  | _ => none }
def fnMoreFaultsRow : OpenClaim := { program := "ytflbjjpkloeocaa", sum := "616316154539035aeee3b83e97e2d39923309f837cdf9f7aa0b6e08ab3b86d10", func := "loop.example/g00568/laws.FnMoreFaults", spec := "fnMoreFaults", unfollowed := true, recurses := true, apart := false }
def FnMoreFaultsSaid : Prop := fnMoreFaultsRow.holds Try.pinned (OpenSpec.ofChange fnMoreFaultsSpec)

/-- ITS FALSE NEIGHBOUR: 'it returns false'. Refute it at one input. -/
def fnMoreFaultsWrong : ChangeSpec := { name := "fnMoreFaults", fn := fun _ => fun
  | [d] => { results := [.lit (.bool false)], args := [d] }
  | _ => none }
def FnMoreFaultsWrongFalsely : Prop := fnMoreFaultsRow.holds Try.pinned (OpenSpec.ofChange fnMoreFaultsWrong)

/-- 'laws.FnFirstEnds': WHATEVER THE INPUT: true; the input reads as it did. -/
def fnFirstEndsSpec : ChangeSpec := { name := "fnFirstEnds", fn := fun _ => fun
  | [d] => { results := [.lit (.bool true)], args := [d] }
  | _ => none }
def fnFirstEndsRow : OpenClaim := { program := "ytflbjjpkloeocaa", sum := "616316154539035aeee3b83e97e2d39923309f837cdf9f7aa0b6e08ab3b86d10", func := "loop.example/g00568/laws.FnFirstEnds", spec := "fnFirstEnds", unfollowed := true, recurses := true, apart := false }
def FnFirstEndsSaid : Prop := fnFirstEndsRow.holds Try.pinned (OpenSpec.ofChange fnFirstEndsSpec)

/-- ITS FALSE NEIGHBOUR: 'it returns false'. Refute it at one input. -/
def fnFirstEndsWrong : ChangeSpec := { name := "fnFirstEnds", fn := fun _ => fun
  | [d] => { results := [.lit (.bool false)], args := [d] }
  | _ => none }
def FnFirstEndsWrongFalsely : Prop := fnFirstEndsRow.holds Try.pinned (OpenSpec.ofChange fnFirstEndsWrong)

/-- 'laws.FnFoldedEnds': WHATEVER THE INPUT: true; the input reads as it did. -/
def fnFoldedEndsSpec : ChangeSpec := { name := "fnFoldedEnds", fn := fun _ => fun
  | [d] => { results := [.lit (.bool true)], args := [d] }
  | _ => none }
def fnFoldedEndsRow : OpenClaim := { program := "ytflbjjpkloeocaa", sum := "616316154539035aeee3b83e97e2d39923309f837cdf9f7aa0b6e08ab3b86d10", func := "loop.example/g00568/laws.FnFoldedEnds", spec := "fnFoldedEnds", unfollowed := true, recurses := true, apart := false }
def FnFoldedEndsSaid : Prop := fnFoldedEndsRow.holds Try.pinned (OpenSpec.ofChange fnFoldedEndsSpec)

/-- ITS FALSE NEIGHBOUR: 'it returns false'. Refute it at one input. -/
def fnFoldedEndsWrong : ChangeSpec := { name := "fnFoldedEnds", fn := fun _ => fun
  | [d] => { results := [.lit (.bool false)], args := [d] }
  | _ => none }
def FnFoldedEndsWrongFalsely : Prop := fnFoldedEndsRow.holds Try.pinned (OpenSpec.ofChange fnFoldedEndsWrong)

/-- 'laws.FnMyers': WHATEVER THE INPUT: true; the input reads as it did. -/
def fnMyersSpec : ChangeSpec := { name := "fnMyers", fn := fun _ => fun
  | [d] => { results := [.lit (.bool true)], args := [d] }
  | _ => none }
def fnMyersRow : OpenClaim := { program := "ytflbjjpkloeocaa", sum := "616316154539035aeee3b83e97e2d39923309f837cdf9f7aa0b6e08ab3b86d10", func := "loop.example/g00568/laws.FnMyers", spec := "fnMyers", unfollowed := true, recurses := true, apart := false }
def FnMyersSaid : Prop := fnMyersRow.holds Try.pinned (OpenSpec.ofChange fnMyersSpec)

/-- ITS FALSE NEIGHBOUR: 'it returns false'. Refute it at one input. -/
def fnMyersWrong : ChangeSpec := { name := "fnMyers", fn := fun _ => fun
  | [d] => { results := [.lit (.bool false)], args := [d] }
  | _ => none }
def FnMyersWrongFalsely : Prop := fnMyersRow.holds Try.pinned (OpenSpec.ofChange fnMyersWrong)

/-- 'laws.FnMyersCol': WHATEVER THE INPUT: true; the input reads as it did. -/
def fnMyersColSpec : ChangeSpec := { name := "fnMyersCol", fn := fun _ => fun
  | [d] => { results := [.lit (.bool true)], args := [d] }
  | _ => none }
def fnMyersColRow : OpenClaim := { program := "ytflbjjpkloeocaa", sum := "616316154539035aeee3b83e97e2d39923309f837cdf9f7aa0b6e08ab3b86d10", func := "loop.example/g00568/laws.FnMyersCol", spec := "fnMyersCol", apart := false }
def FnMyersColSaid : Prop := fnMyersColRow.holds Try.pinned (OpenSpec.ofChange fnMyersColSpec)

/-- ITS FALSE NEIGHBOUR: 'it returns false'. Refute it at one input. -/
def fnMyersColWrong : ChangeSpec := { name := "fnMyersCol", fn := fun _ => fun
  | [d] => { results := [.lit (.bool false)], args := [d] }
  | _ => none }
def FnMyersColWrongFalsely : Prop := fnMyersColRow.holds Try.pinned (OpenSpec.ofChange fnMyersColWrong)

/-- 'laws.FnMyersRun': WHATEVER THE INPUT: true; the input reads as it did. -/
def fnMyersRunSpec : ChangeSpec := { name := "fnMyersRun", fn := fun _ => fun
  | [d] => { results := [.lit (.bool true)], args := [d] }
  | _ => none }
def fnMyersRunRow : OpenClaim := { program := "ytflbjjpkloeocaa", sum := "616316154539035aeee3b83e97e2d39923309f837cdf9f7aa0b6e08ab3b86d10", func := "loop.example/g00568/laws.FnMyersRun", spec := "fnMyersRun", unfollowed := true, recurses := true, apart := false }
def FnMyersRunSaid : Prop := fnMyersRunRow.holds Try.pinned (OpenSpec.ofChange fnMyersRunSpec)

/-- ITS FALSE NEIGHBOUR: 'it returns false'. Refute it at one input. -/
def fnMyersRunWrong : ChangeSpec := { name := "fnMyersRun", fn := fun _ => fun
  | [d] => { results := [.lit (.bool false)], args := [d] }
  | _ => none }
def FnMyersRunWrongFalsely : Prop := fnMyersRunRow.holds Try.pinned (OpenSpec.ofChange fnMyersRunWrong)

/-- 'laws.FnRows': WHATEVER THE INPUT: true; the input reads as it did. -/
def fnRowsSpec : ChangeSpec := { name := "fnRows", fn := fun _ => fun
  | [d] => { results := [.lit (.bool true)], args := [d] }
  | _ => none }
def fnRowsRow : OpenClaim := { program := "ytflbjjpkloeocaa", sum := "616316154539035aeee3b83e97e2d39923309f837cdf9f7aa0b6e08ab3b86d10", func := "loop.example/g00568/laws.FnRows", spec := "fnRows", unfollowed := true, recurses := true, apart := false }
def FnRowsSaid : Prop := fnRowsRow.holds Try.pinned (OpenSpec.ofChange fnRowsSpec)

/-- ITS FALSE NEIGHBOUR: 'it returns false'. Refute it at one input. -/
def fnRowsWrong : ChangeSpec := { name := "fnRows", fn := fun _ => fun
  | [d] => { results := [.lit (.bool false)], args := [d] }
  | _ => none }
def FnRowsWrongFalsely : Prop := fnRowsRow.holds Try.pinned (OpenSpec.ofChange fnRowsWrong)

/- THE SECOND FORM. 'bulk': how many values and letters a reading holds, each counted each time it is reached (what is shared counts as often as it is met; a slice's spare places count too). A statement '..UptoSaid' is the law's where the arguments, and the package variables that the reading takes, are together of bulk at most 1048576: NARROWER than '..Said'. Prove '..Said' where nothing that the law and all that it calls make is longer than what came in: it says more and counts as full. Else prove '..UptoSaid'. A law counts once. -/
mutual
def uptoBulk {H : Type} : DataW H → Nat
  | .lit (.string bytes) => bytes.length + 1
  | .lit _ => 1
  | .nil => 1
  | .ptr d => uptoBulk d + 1
  | .slice elems spare => uptoBulkAll elems + uptoBulkAll spare + 1
  | .agg parts => uptoBulkAll parts + 1
  | .iface _ d => uptoBulk d + 1
  | .map entries => uptoBulkEntries entries + 1
  | .held _ => 1
def uptoBulkAll {H : Type} : List (DataW H) → Nat
  | [] => 0
  | d :: r => uptoBulk d + uptoBulkAll r
def uptoBulkEntries {H : Type} : List (Lit × DataW H) → Nat
  | [] => 0
  | x :: r => uptoBulkEntry x + uptoBulkEntries r
def uptoBulkEntry {H : Type} : Lit × DataW H → Nat
  | (.string bytes, d) => bytes.length + uptoBulk d + 1
  | (_, d) => uptoBulk d + 1
 end
def uptoSmall : (H : Type) → List (DataW H) → Bool := fun _ ds => decide (uptoBulkAll ds ≤ 1048576)
def OpenSpec.upto (s : _root_.Go.ChangeSpec) : _root_.Go.OpenSpec := { _root_.Go.OpenSpec.ofChange s with cond := some uptoSmall }

/-- 'laws.FnDistance', WHERE WHAT IT READS IS OF BULK AT MOST 1048576: true; the input reads as it did. -/
def fnDistanceUptoRow : OpenClaim := { program := "ytflbjjpkloeocaa", sum := "616316154539035aeee3b83e97e2d39923309f837cdf9f7aa0b6e08ab3b86d10", func := "loop.example/g00568/laws.FnDistance", spec := "fnDistance", unfollowed := true, recurses := true, apart := false, narrowed := true }
def FnDistanceUptoSaid : Prop := fnDistanceUptoRow.holds Try.pinned (OpenSpec.upto fnDistanceSpec)

/-- 'laws.FnPieceByPiece', WHERE WHAT IT READS IS OF BULK AT MOST 1048576: true; the input reads as it did. -/
def fnPieceByPieceUptoRow : OpenClaim := { program := "ytflbjjpkloeocaa", sum := "616316154539035aeee3b83e97e2d39923309f837cdf9f7aa0b6e08ab3b86d10", func := "loop.example/g00568/laws.FnPieceByPiece", spec := "fnPieceByPiece", unfollowed := true, recurses := true, apart := false, narrowed := true }
def FnPieceByPieceUptoSaid : Prop := fnPieceByPieceUptoRow.holds Try.pinned (OpenSpec.upto fnPieceByPieceSpec)

/-- 'laws.FnColumns', WHERE WHAT IT READS IS OF BULK AT MOST 1048576: true; the input reads as it did. -/
def fnColumnsUptoRow : OpenClaim := { program := "ytflbjjpkloeocaa", sum := "616316154539035aeee3b83e97e2d39923309f837cdf9f7aa0b6e08ab3b86d10", func := "loop.example/g00568/laws.FnColumns", spec := "fnColumns", apart := false, narrowed := true }
def FnColumnsUptoSaid : Prop := fnColumnsUptoRow.holds Try.pinned (OpenSpec.upto fnColumnsSpec)

/-- 'laws.FnEnds', WHERE WHAT IT READS IS OF BULK AT MOST 1048576: true; the input reads as it did. -/
def fnEndsUptoRow : OpenClaim := { program := "ytflbjjpkloeocaa", sum := "616316154539035aeee3b83e97e2d39923309f837cdf9f7aa0b6e08ab3b86d10", func := "loop.example/g00568/laws.FnEnds", spec := "fnEnds", unfollowed := true, recurses := true, apart := false, narrowed := true }
def FnEndsUptoSaid : Prop := fnEndsUptoRow.holds Try.pinned (OpenSpec.upto fnEndsSpec)

/-- 'laws.FnMoreFaults', WHERE WHAT IT READS IS OF BULK AT MOST 1048576: true; the input reads as it did. -/
def fnMoreFaultsUptoRow : OpenClaim := { program := "ytflbjjpkloeocaa", sum := "616316154539035aeee3b83e97e2d39923309f837cdf9f7aa0b6e08ab3b86d10", func := "loop.example/g00568/laws.FnMoreFaults", spec := "fnMoreFaults", unfollowed := true, recurses := true, apart := false, narrowed := true }
def FnMoreFaultsUptoSaid : Prop := fnMoreFaultsUptoRow.holds Try.pinned (OpenSpec.upto fnMoreFaultsSpec)

/-- 'laws.FnFirstEnds', WHERE WHAT IT READS IS OF BULK AT MOST 1048576: true; the input reads as it did. -/
def fnFirstEndsUptoRow : OpenClaim := { program := "ytflbjjpkloeocaa", sum := "616316154539035aeee3b83e97e2d39923309f837cdf9f7aa0b6e08ab3b86d10", func := "loop.example/g00568/laws.FnFirstEnds", spec := "fnFirstEnds", unfollowed := true, recurses := true, apart := false, narrowed := true }
def FnFirstEndsUptoSaid : Prop := fnFirstEndsUptoRow.holds Try.pinned (OpenSpec.upto fnFirstEndsSpec)

/-- 'laws.FnFoldedEnds', WHERE WHAT IT READS IS OF BULK AT MOST 1048576: true; the input reads as it did. -/
def fnFoldedEndsUptoRow : OpenClaim := { program := "ytflbjjpkloeocaa", sum := "616316154539035aeee3b83e97e2d39923309f837cdf9f7aa0b6e08ab3b86d10", func := "loop.example/g00568/laws.FnFoldedEnds", spec := "fnFoldedEnds", unfollowed := true, recurses := true, apart := false, narrowed := true }
def FnFoldedEndsUptoSaid : Prop := fnFoldedEndsUptoRow.holds Try.pinned (OpenSpec.upto fnFoldedEndsSpec)

/-- 'laws.FnMyers', WHERE WHAT IT READS IS OF BULK AT MOST 1048576: true; the input reads as it did. -/
def fnMyersUptoRow : OpenClaim := { program := "ytflbjjpkloeocaa", sum := "616316154539035aeee3b83e97e2d39923309f837cdf9f7aa0b6e08ab3b86d10", func := "loop.example/g00568/laws.FnMyers", spec := "fnMyers", unfollowed := true, recurses := true, apart := false, narrowed := true }
def FnMyersUptoSaid : Prop := fnMyersUptoRow.holds Try.pinned (OpenSpec.upto fnMyersSpec)

/-- 'laws.FnMyersCol', WHERE WHAT IT READS IS OF BULK AT MOST 1048576: true; the input reads as it did. -/
def fnMyersColUptoRow : OpenClaim := { program := "ytflbjjpkloeocaa", sum := "616316154539035aeee3b83e97e2d39923309f837cdf9f7aa0b6e08ab3b86d10", func := "loop.example/g00568/laws.FnMyersCol", spec := "fnMyersCol", apart := false, narrowed := true }
def FnMyersColUptoSaid : Prop := fnMyersColUptoRow.holds Try.pinned (OpenSpec.upto fnMyersColSpec)

/-- 'laws.FnMyersRun', WHERE WHAT IT READS IS OF BULK AT MOST 1048576: true; the input reads as it did. -/
def fnMyersRunUptoRow : OpenClaim := { program := "ytflbjjpkloeocaa", sum := "616316154539035aeee3b83e97e2d39923309f837cdf9f7aa0b6e08ab3b86d10", func := "loop.example/g00568/laws.FnMyersRun", spec := "fnMyersRun", unfollowed := true, recurses := true, apart := false, narrowed := true }
def FnMyersRunUptoSaid : Prop := fnMyersRunUptoRow.holds Try.pinned (OpenSpec.upto fnMyersRunSpec)

/-- 'laws.FnRows', WHERE WHAT IT READS IS OF BULK AT MOST 1048576: true; the input reads as it did. -/
def fnRowsUptoRow : OpenClaim := { program := "ytflbjjpkloeocaa", sum := "616316154539035aeee3b83e97e2d39923309f837cdf9f7aa0b6e08ab3b86d10", func := "loop.example/g00568/laws.FnRows", spec := "fnRows", unfollowed := true, recurses := true, apart := false, narrowed := true }
def FnRowsUptoSaid : Prop := fnRowsUptoRow.holds Try.pinned (OpenSpec.upto fnRowsSpec)

end Rows
end Go.Proofs.Ytflbjjpkloeocaa

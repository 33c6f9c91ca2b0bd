/-
  No cell of these rows narrows 'for every input' (looked for: loops, veiled, ifaces, maps, wideKeys, modest, calm, conditions, laid).
  DERIVED. THE GIVEN ROWS OF THIS SEAT. 12 by the template 'for every input the law returns true; each argument reads behind the call as it read before'; 0 by the template 'total and deterministic' (their statements: YtglldmfhjipacaaTotals.lean).
  GIVEN WITH THE SEED: the statements are not yours to turn. If you find one false, say at which input.
  Laid BY PROGRAM, IN A SANDBOX (cutbox-rows.mjs): the forced cells as the released guide's own fill.sh prints them over the translation 42bdbf2275f2340e… (all of the seat's roots in one cut). By AI agents, Wed Nov 11 2026. No macro, syntax, notation, axiom, sorry.
-/
import Derived.Test.YtglldmfhjipacaaChecked
import GoSem.Claim
import GoSem.ClaimJoined
import GoSem.ClaimMapViews
import Derived.JoinedTies
import Derived.KernelRfl
namespace Go.Proofs.Ytglldmfhjipacaa
/- THE CELL 'sum', in the pinned program and in every row, IS THE sha256 OF THE DUMP (.gsa) THAT YtglldmfhjipacaaProg.lean LOADS. Nothing in Lean hashes anything: it is a label: what it is worth is what the hold of that sum in a sandbox is worth. -/
noncomputable def Try.pinned : Pinned := { name := "ytglldmfhjipacaa", sum := "42bdbf2275f2340e4f0709b9ae803f19f5d4d9ece2371234dd1048d494250363", checked := Try.checked }
namespace Rows
def none {H : Type} : Left H := { results := [], args := [] }

/-- 'laws.FnRings': WHATEVER THE INPUT: true; the input reads as it did. -/
def fnRingsSpec : ChangeSpec := { name := "fnRings", fn := fun _ => fun
  | [d] => { results := [.lit (.bool true)], args := [d] }
  | _ => none }
def fnRingsRow : OpenClaim := { program := "ytglldmfhjipacaa", sum := "42bdbf2275f2340e4f0709b9ae803f19f5d4d9ece2371234dd1048d494250363", func := "loop.example/g00568/laws.FnRings", spec := "fnRings", apart := false }
def FnRingsSaid : Prop := fnRingsRow.holds Try.pinned (OpenSpec.ofChange fnRingsSpec)

/-- ITS FALSE NEIGHBOUR: 'it returns false'. Refute it at one input. -/
def fnRingsWrong : ChangeSpec := { name := "fnRings", fn := fun _ => fun
  | [d] => { results := [.lit (.bool false)], args := [d] }
  | _ => none }
def FnRingsWrongFalsely : Prop := fnRingsRow.holds Try.pinned (OpenSpec.ofChange fnRingsWrong)

/-- 'laws.FnRingCut': WHATEVER THE INPUT: true; the input reads as it did. -/
def fnRingCutSpec : ChangeSpec := { name := "fnRingCut", fn := fun _ => fun
  | [d] => { results := [.lit (.bool true)], args := [d] }
  | _ => none }
def fnRingCutRow : OpenClaim := { program := "ytglldmfhjipacaa", sum := "42bdbf2275f2340e4f0709b9ae803f19f5d4d9ece2371234dd1048d494250363", func := "loop.example/g00568/laws.FnRingCut", spec := "fnRingCut", apart := false }
def FnRingCutSaid : Prop := fnRingCutRow.holds Try.pinned (OpenSpec.ofChange fnRingCutSpec)

/-- ITS FALSE NEIGHBOUR: 'it returns false'. Refute it at one input. -/
def fnRingCutWrong : ChangeSpec := { name := "fnRingCut", fn := fun _ => fun
  | [d] => { results := [.lit (.bool false)], args := [d] }
  | _ => none }
def FnRingCutWrongFalsely : Prop := fnRingCutRow.holds Try.pinned (OpenSpec.ofChange fnRingCutWrong)

/-- 'laws.FnExactRingOk': WHATEVER THE INPUT: true; the input reads as it did. -/
def fnExactRingOkSpec : ChangeSpec := { name := "fnExactRingOk", fn := fun _ => fun
  | [d] => { results := [.lit (.bool true)], args := [d] }
  | _ => none }
def fnExactRingOkRow : OpenClaim := { program := "ytglldmfhjipacaa", sum := "42bdbf2275f2340e4f0709b9ae803f19f5d4d9ece2371234dd1048d494250363", func := "loop.example/g00568/laws.FnExactRingOk", spec := "fnExactRingOk", apart := false }
def FnExactRingOkSaid : Prop := fnExactRingOkRow.holds Try.pinned (OpenSpec.ofChange fnExactRingOkSpec)

/-- ITS FALSE NEIGHBOUR: 'it returns false'. Refute it at one input. -/
def fnExactRingOkWrong : ChangeSpec := { name := "fnExactRingOk", fn := fun _ => fun
  | [d] => { results := [.lit (.bool false)], args := [d] }
  | _ => none }
def FnExactRingOkWrongFalsely : Prop := fnExactRingOkRow.holds Try.pinned (OpenSpec.ofChange fnExactRingOkWrong)

/-- 'laws.FnExactRingNew': WHATEVER THE INPUT: true; the input reads as it did. -/
def fnExactRingNewSpec : ChangeSpec := { name := "fnExactRingNew", fn := fun _ => fun
  | [d1, d2] => { results := [.lit (.bool true)], args := [d1, d2] }
  | _ => none }
def fnExactRingNewRow : OpenClaim := { program := "ytglldmfhjipacaa", sum := "42bdbf2275f2340e4f0709b9ae803f19f5d4d9ece2371234dd1048d494250363", func := "loop.example/g00568/laws.FnExactRingNew", spec := "fnExactRingNew", apart := false }
def FnExactRingNewSaid : Prop := fnExactRingNewRow.holds Try.pinned (OpenSpec.ofChange fnExactRingNewSpec)

/-- ITS FALSE NEIGHBOUR: 'it returns false'. Refute it at one input. -/
def fnExactRingNewWrong : ChangeSpec := { name := "fnExactRingNew", fn := fun _ => fun
  | [d1, d2] => { results := [.lit (.bool false)], args := [d1, d2] }
  | _ => none }
def FnExactRingNewWrongFalsely : Prop := fnExactRingNewRow.holds Try.pinned (OpenSpec.ofChange fnExactRingNewWrong)

/-- 'laws.FnExactRingPut': WHATEVER THE INPUT: true; the input reads as it did. -/
def fnExactRingPutSpec : ChangeSpec := { name := "fnExactRingPut", fn := fun _ => fun
  | [d1, d2] => { results := [.lit (.bool true)], args := [d1, d2] }
  | _ => none }
def fnExactRingPutRow : OpenClaim := { program := "ytglldmfhjipacaa", sum := "42bdbf2275f2340e4f0709b9ae803f19f5d4d9ece2371234dd1048d494250363", func := "loop.example/g00568/laws.FnExactRingPut", spec := "fnExactRingPut", apart := false }
def FnExactRingPutSaid : Prop := fnExactRingPutRow.holds Try.pinned (OpenSpec.ofChange fnExactRingPutSpec)

/-- ITS FALSE NEIGHBOUR: 'it returns false'. Refute it at one input. -/
def fnExactRingPutWrong : ChangeSpec := { name := "fnExactRingPut", fn := fun _ => fun
  | [d1, d2] => { results := [.lit (.bool false)], args := [d1, d2] }
  | _ => none }
def FnExactRingPutWrongFalsely : Prop := fnExactRingPutRow.holds Try.pinned (OpenSpec.ofChange fnExactRingPutWrong)

/-- 'laws.FnExactRingCut': WHATEVER THE INPUT: true; the input reads as it did. -/
def fnExactRingCutSpec : ChangeSpec := { name := "fnExactRingCut", fn := fun _ => fun
  | [d1, d2, d3] => { results := [.lit (.bool true)], args := [d1, d2, d3] }
  | _ => none }
def fnExactRingCutRow : OpenClaim := { program := "ytglldmfhjipacaa", sum := "42bdbf2275f2340e4f0709b9ae803f19f5d4d9ece2371234dd1048d494250363", func := "loop.example/g00568/laws.FnExactRingCut", spec := "fnExactRingCut", apart := false }
def FnExactRingCutSaid : Prop := fnExactRingCutRow.holds Try.pinned (OpenSpec.ofChange fnExactRingCutSpec)

/-- ITS FALSE NEIGHBOUR: 'it returns false'. Refute it at one input. -/
def fnExactRingCutWrong : ChangeSpec := { name := "fnExactRingCut", fn := fun _ => fun
  | [d1, d2, d3] => { results := [.lit (.bool false)], args := [d1, d2, d3] }
  | _ => none }
def FnExactRingCutWrongFalsely : Prop := fnExactRingCutRow.holds Try.pinned (OpenSpec.ofChange fnExactRingCutWrong)

/-- 'laws.FnPieces': WHATEVER THE INPUT: true; the input reads as it did. -/
def fnPiecesSpec : ChangeSpec := { name := "fnPieces", fn := fun _ => fun
  | [d] => { results := [.lit (.bool true)], args := [d] }
  | _ => none }
def fnPiecesRow : OpenClaim := { program := "ytglldmfhjipacaa", sum := "42bdbf2275f2340e4f0709b9ae803f19f5d4d9ece2371234dd1048d494250363", func := "loop.example/g00568/laws.FnPieces", spec := "fnPieces", apart := false }
def FnPiecesSaid : Prop := fnPiecesRow.holds Try.pinned (OpenSpec.ofChange fnPiecesSpec)

/-- ITS FALSE NEIGHBOUR: 'it returns false'. Refute it at one input. -/
def fnPiecesWrong : ChangeSpec := { name := "fnPieces", fn := fun _ => fun
  | [d] => { results := [.lit (.bool false)], args := [d] }
  | _ => none }
def FnPiecesWrongFalsely : Prop := fnPiecesRow.holds Try.pinned (OpenSpec.ofChange fnPiecesWrong)

/-- 'laws.FnExactPiecesOf': WHATEVER THE INPUT: true; the input reads as it did. -/
def fnExactPiecesOfSpec : ChangeSpec := { name := "fnExactPiecesOf", fn := fun _ => fun
  | [d] => { results := [.lit (.bool true)], args := [d] }
  | _ => none }
def fnExactPiecesOfRow : OpenClaim := { program := "ytglldmfhjipacaa", sum := "42bdbf2275f2340e4f0709b9ae803f19f5d4d9ece2371234dd1048d494250363", func := "loop.example/g00568/laws.FnExactPiecesOf", spec := "fnExactPiecesOf", apart := false }
def FnExactPiecesOfSaid : Prop := fnExactPiecesOfRow.holds Try.pinned (OpenSpec.ofChange fnExactPiecesOfSpec)

/-- ITS FALSE NEIGHBOUR: 'it returns false'. Refute it at one input. -/
def fnExactPiecesOfWrong : ChangeSpec := { name := "fnExactPiecesOf", fn := fun _ => fun
  | [d] => { results := [.lit (.bool false)], args := [d] }
  | _ => none }
def FnExactPiecesOfWrongFalsely : Prop := fnExactPiecesOfRow.holds Try.pinned (OpenSpec.ofChange fnExactPiecesOfWrong)

/-- 'laws.FnRows': WHATEVER THE INPUT: true; the input reads as it did. -/
def fnRowsSpec : ChangeSpec := { name := "fnRows", fn := fun _ => fun
  | [d] => { results := [.lit (.bool true)], args := [d] }
  | _ => none }
def fnRowsRow : OpenClaim := { program := "ytglldmfhjipacaa", sum := "42bdbf2275f2340e4f0709b9ae803f19f5d4d9ece2371234dd1048d494250363", func := "loop.example/g00568/laws.FnRows", spec := "fnRows", unfollowed := true, recurses := true, apart := false }
def FnRowsSaid : Prop := fnRowsRow.holds Try.pinned (OpenSpec.ofChange fnRowsSpec)

/-- ITS FALSE NEIGHBOUR: 'it returns false'. Refute it at one input. -/
def fnRowsWrong : ChangeSpec := { name := "fnRows", fn := fun _ => fun
  | [d] => { results := [.lit (.bool false)], args := [d] }
  | _ => none }
def FnRowsWrongFalsely : Prop := fnRowsRow.holds Try.pinned (OpenSpec.ofChange fnRowsWrong)

/-- 'laws.FnRowsRun': WHATEVER THE INPUT: true; the input reads as it did. -/
def fnRowsRunSpec : ChangeSpec := { name := "fnRowsRun", fn := fun _ => fun
  | [d] => { results := [.lit (.bool true)], args := [d] }
  | _ => none }
def fnRowsRunRow : OpenClaim := { program := "ytglldmfhjipacaa", sum := "42bdbf2275f2340e4f0709b9ae803f19f5d4d9ece2371234dd1048d494250363", func := "loop.example/g00568/laws.FnRowsRun", spec := "fnRowsRun", unfollowed := true, recurses := true, apart := false }
def FnRowsRunSaid : Prop := fnRowsRunRow.holds Try.pinned (OpenSpec.ofChange fnRowsRunSpec)

/-- ITS FALSE NEIGHBOUR: 'it returns false'. Refute it at one input. -/
def fnRowsRunWrong : ChangeSpec := { name := "fnRowsRun", fn := fun _ => fun
  | [d] => { results := [.lit (.bool false)], args := [d] }
  | _ => none }
def FnRowsRunWrongFalsely : Prop := fnRowsRunRow.holds Try.pinned (OpenSpec.ofChange fnRowsRunWrong)

/-- 'laws.FnCuts': WHATEVER THE INPUT: true; the input reads as it did. -/
def fnCutsSpec : ChangeSpec := { name := "fnCuts", fn := fun _ => fun
  | [d] => { results := [.lit (.bool true)], args := [d] }
  | _ => none }
def fnCutsRow : OpenClaim := { program := "ytglldmfhjipacaa", sum := "42bdbf2275f2340e4f0709b9ae803f19f5d4d9ece2371234dd1048d494250363", func := "loop.example/g00568/laws.FnCuts", spec := "fnCuts", unfollowed := true, recurses := true, apart := false }
def FnCutsSaid : Prop := fnCutsRow.holds Try.pinned (OpenSpec.ofChange fnCutsSpec)

/-- ITS FALSE NEIGHBOUR: 'it returns false'. Refute it at one input. -/
def fnCutsWrong : ChangeSpec := { name := "fnCuts", fn := fun _ => fun
  | [d] => { results := [.lit (.bool false)], args := [d] }
  | _ => none }
def FnCutsWrongFalsely : Prop := fnCutsRow.holds Try.pinned (OpenSpec.ofChange fnCutsWrong)

/-- 'laws.FnCutRun': WHATEVER THE INPUT: true; the input reads as it did. -/
def fnCutRunSpec : ChangeSpec := { name := "fnCutRun", fn := fun _ => fun
  | [d] => { results := [.lit (.bool true)], args := [d] }
  | _ => none }
def fnCutRunRow : OpenClaim := { program := "ytglldmfhjipacaa", sum := "42bdbf2275f2340e4f0709b9ae803f19f5d4d9ece2371234dd1048d494250363", func := "loop.example/g00568/laws.FnCutRun", spec := "fnCutRun", unfollowed := true, recurses := true, apart := false }
def FnCutRunSaid : Prop := fnCutRunRow.holds Try.pinned (OpenSpec.ofChange fnCutRunSpec)

/-- ITS FALSE NEIGHBOUR: 'it returns false'. Refute it at one input. -/
def fnCutRunWrong : ChangeSpec := { name := "fnCutRun", fn := fun _ => fun
  | [d] => { results := [.lit (.bool false)], args := [d] }
  | _ => none }
def FnCutRunWrongFalsely : Prop := fnCutRunRow.holds Try.pinned (OpenSpec.ofChange fnCutRunWrong)

/- THE SECOND FORM. 'bulk': how many values and letters a reading holds, each counted each time it is reached (what is shared counts as often as it is met; a slice's spare places count too). A statement '..UptoSaid' is the law's where the arguments, and the package variables that the reading takes, are together of bulk at most 1048576: NARROWER than '..Said'. Prove '..Said' where nothing that the law and all that it calls make is longer than what came in: it says more and counts as full. Else prove '..UptoSaid'. A law counts once. -/
mutual
def uptoBulk {H : Type} : DataW H → Nat
  | .lit (.string bytes) => bytes.length + 1
  | .lit _ => 1
  | .nil => 1
  | .ptr d => uptoBulk d + 1
  | .slice elems spare => uptoBulkAll elems + uptoBulkAll spare + 1
  | .agg parts => uptoBulkAll parts + 1
  | .iface _ d => uptoBulk d + 1
  | .map entries => uptoBulkEntries entries + 1
  | .held _ => 1
def uptoBulkAll {H : Type} : List (DataW H) → Nat
  | [] => 0
  | d :: r => uptoBulk d + uptoBulkAll r
def uptoBulkEntries {H : Type} : List (Lit × DataW H) → Nat
  | [] => 0
  | x :: r => uptoBulkEntry x + uptoBulkEntries r
def uptoBulkEntry {H : Type} : Lit × DataW H → Nat
  | (.string bytes, d) => bytes.length + uptoBulk d + 1
  | (_, d) => uptoBulk d + 1
 end
def uptoSmall : (H : Type) → List (DataW H) → Bool := fun _ ds => decide (uptoBulkAll ds ≤ 1048576)
def OpenSpec.upto (s : _root_.Go.ChangeSpec) : _root_.Go.OpenSpec := { _root_.Go.OpenSpec.ofChange s with cond := some uptoSmall }

/-- 'laws.FnRings', WHERE WHAT IT READS IS OF BULK AT MOST 1048576: true; the input reads as it did. -/
def fnRingsUptoRow : OpenClaim := { program := "ytglldmfhjipacaa", sum := "42bdbf2275f2340e4f0709b9ae803f19f5d4d9ece2371234dd1048d494250363", func := "loop.example/g00568/laws.FnRings", spec := "fnRings", apart := false, narrowed := true }
def FnRingsUptoSaid : Prop := fnRingsUptoRow.holds Try.pinned (OpenSpec.upto fnRingsSpec)

/-- 'laws.FnRingCut', WHERE WHAT IT READS IS OF BULK AT MOST 1048576: true; the input reads as it did. -/
def fnRingCutUptoRow : OpenClaim := { program := "ytglldmfhjipacaa", sum := "42bdbf2275f2340e4f0709b9ae803f19f5d4d9ece2371234dd1048d494250363", func := "loop.example/g00568/laws.FnRingCut", spec := "fnRingCut", apart := false, narrowed := true }
def FnRingCutUptoSaid : Prop := fnRingCutUptoRow.holds Try.pinned (OpenSpec.upto fnRingCutSpec)

/-- 'laws.FnExactRingOk', WHERE WHAT IT READS IS OF BULK AT MOST 1048576: true; the input reads as it did. -/
def fnExactRingOkUptoRow : OpenClaim := { program := "ytglldmfhjipacaa", sum := "42bdbf2275f2340e4f0709b9ae803f19f5d4d9ece2371234dd1048d494250363", func := "loop.example/g00568/laws.FnExactRingOk", spec := "fnExactRingOk", apart := false, narrowed := true }
def FnExactRingOkUptoSaid : Prop := fnExactRingOkUptoRow.holds Try.pinned (OpenSpec.upto fnExactRingOkSpec)

/-- 'laws.FnExactRingNew', WHERE WHAT IT READS IS OF BULK AT MOST 1048576: true; the input reads as it did. -/
def fnExactRingNewUptoRow : OpenClaim := { program := "ytglldmfhjipacaa", sum := "42bdbf2275f2340e4f0709b9ae803f19f5d4d9ece2371234dd1048d494250363", func := "loop.example/g00568/laws.FnExactRingNew", spec := "fnExactRingNew", apart := false, narrowed := true }
def FnExactRingNewUptoSaid : Prop := fnExactRingNewUptoRow.holds Try.pinned (OpenSpec.upto fnExactRingNewSpec)

/-- 'laws.FnExactRingPut', WHERE WHAT IT READS IS OF BULK AT MOST 1048576: true; the input reads as it did. -/
def fnExactRingPutUptoRow : OpenClaim := { program := "ytglldmfhjipacaa", sum := "42bdbf2275f2340e4f0709b9ae803f19f5d4d9ece2371234dd1048d494250363", func := "loop.example/g00568/laws.FnExactRingPut", spec := "fnExactRingPut", apart := false, narrowed := true }
def FnExactRingPutUptoSaid : Prop := fnExactRingPutUptoRow.holds Try.pinned (OpenSpec.upto fnExactRingPutSpec)

/-- 'laws.FnExactRingCut', WHERE WHAT IT READS IS OF BULK AT MOST 1048576: true; the input reads as it did. -/
def fnExactRingCutUptoRow : OpenClaim := { program := "ytglldmfhjipacaa", sum := "42bdbf2275f2340e4f0709b9ae803f19f5d4d9ece2371234dd1048d494250363", func := "loop.example/g00568/laws.FnExactRingCut", spec := "fnExactRingCut", apart := false, narrowed := true }
def FnExactRingCutUptoSaid : Prop := fnExactRingCutUptoRow.holds Try.pinned (OpenSpec.upto fnExactRingCutSpec)

/-- 'laws.FnPieces', WHERE WHAT IT READS IS OF BULK AT MOST 1048576: true; the input reads as it did. -/
def fnPiecesUptoRow : OpenClaim := { program := "ytglldmfhjipacaa", sum := "42bdbf2275f2340e4f0709b9ae803f19f5d4d9ece2371234dd1048d494250363", func := "loop.example/g00568/laws.FnPieces", spec := "fnPieces", apart := false, narrowed := true }
def FnPiecesUptoSaid : Prop := fnPiecesUptoRow.holds Try.pinned (OpenSpec.upto fnPiecesSpec)

/-- 'laws.FnExactPiecesOf', WHERE WHAT IT READS IS OF BULK AT MOST 1048576: true; the input reads as it did. -/
def fnExactPiecesOfUptoRow : OpenClaim := { program := "ytglldmfhjipacaa", sum := "42bdbf2275f2340e4f0709b9ae803f19f5d4d9ece2371234dd1048d494250363", func := "loop.example/g00568/laws.FnExactPiecesOf", spec := "fnExactPiecesOf", apart := false, narrowed := true }
def FnExactPiecesOfUptoSaid : Prop := fnExactPiecesOfUptoRow.holds Try.pinned (OpenSpec.upto fnExactPiecesOfSpec)

/-- 'laws.FnRows', WHERE WHAT IT READS IS OF BULK AT MOST 1048576: true; the input reads as it did. -/
def fnRowsUptoRow : OpenClaim := { program := "ytglldmfhjipacaa", sum := "42bdbf2275f2340e4f0709b9ae803f19f5d4d9ece2371234dd1048d494250363", func := "loop.example/g00568/laws.FnRows", spec := "fnRows", unfollowed := true, recurses := true, apart := false, narrowed := true }
def FnRowsUptoSaid : Prop := fnRowsUptoRow.holds Try.pinned (OpenSpec.upto fnRowsSpec)

/-- 'laws.FnRowsRun', WHERE WHAT IT READS IS OF BULK AT MOST 1048576: true; the input reads as it did. -/
def fnRowsRunUptoRow : OpenClaim := { program := "ytglldmfhjipacaa", sum := "42bdbf2275f2340e4f0709b9ae803f19f5d4d9ece2371234dd1048d494250363", func := "loop.example/g00568/laws.FnRowsRun", spec := "fnRowsRun", unfollowed := true, recurses := true, apart := false, narrowed := true }
def FnRowsRunUptoSaid : Prop := fnRowsRunUptoRow.holds Try.pinned (OpenSpec.upto fnRowsRunSpec)

/-- 'laws.FnCuts', WHERE WHAT IT READS IS OF BULK AT MOST 1048576: true; the input reads as it did. -/
def fnCutsUptoRow : OpenClaim := { program := "ytglldmfhjipacaa", sum := "42bdbf2275f2340e4f0709b9ae803f19f5d4d9ece2371234dd1048d494250363", func := "loop.example/g00568/laws.FnCuts", spec := "fnCuts", unfollowed := true, recurses := true, apart := false, narrowed := true }
def FnCutsUptoSaid : Prop := fnCutsUptoRow.holds Try.pinned (OpenSpec.upto fnCutsSpec)

/-- 'laws.FnCutRun', WHERE WHAT IT READS IS OF BULK AT MOST 1048576: true; the input reads as it did. -/
def fnCutRunUptoRow : OpenClaim := { program := "ytglldmfhjipacaa", sum := "42bdbf2275f2340e4f0709b9ae803f19f5d4d9ece2371234dd1048d494250363", func := "loop.example/g00568/laws.FnCutRun", spec := "fnCutRun", unfollowed := true, recurses := true, apart := false, narrowed := true }
def FnCutRunUptoSaid : Prop := fnCutRunUptoRow.holds Try.pinned (OpenSpec.upto fnCutRunSpec)

end Rows
end Go.Proofs.Ytglldmfhjipacaa

/-
  No cell of these rows narrows 'for every input' (looked for: loops, veiled, ifaces, maps, wideKeys, modest, calm, conditions, laid).
  DERIVED. THE GIVEN ROWS OF THIS SEAT. 10 by the template 'for every input the law returns true; each argument reads behind the call as it read before'; 0 by the template 'total and deterministic' (their statements: YtbbmkcpdeeckdaaTotals.lean).
  GIVEN WITH THE SEED: the statements are not yours to turn. If you find one false, say at which input.
  Laid BY PROGRAM, IN A SANDBOX (cutbox-rows.mjs): the forced cells as the released guide's own fill.sh prints them over the translation 740bc0a49c4a2c65… (all of the seat's roots in one cut). By AI agents, Wed Nov 11 2026. No macro, syntax, notation, axiom, sorry.
-/
import Derived.Test.YtbbmkcpdeeckdaaChecked
import GoSem.Claim
import GoSem.ClaimJoined
import GoSem.ClaimMapViews
import Derived.JoinedTies
import Derived.KernelRfl
namespace Go.Proofs.Ytbbmkcpdeeckdaa
/- THE CELL 'sum', in the pinned program and in every row, IS THE sha256 OF THE DUMP (.gsa) THAT YtbbmkcpdeeckdaaProg.lean LOADS. Nothing in Lean hashes anything: it is a label: what it is worth is what the hold of that sum in a sandbox is worth. -/
noncomputable def Try.pinned : Pinned := { name := "ytbbmkcpdeeckdaa", sum := "740bc0a49c4a2c65e61934bef2f444d45e5456fc5aea6a483007504e9026f2d3", checked := Try.checked }
namespace Rows
def none {H : Type} : Left H := { results := [], args := [] }

/-- 'laws.FnRows': WHATEVER THE INPUT: true; the input reads as it did. -/
def fnRowsSpec : ChangeSpec := { name := "fnRows", fn := fun _ => fun
  | [d] => { results := [.lit (.bool true)], args := [d] }
  | _ => none }
def fnRowsRow : OpenClaim := { program := "ytbbmkcpdeeckdaa", sum := "740bc0a49c4a2c65e61934bef2f444d45e5456fc5aea6a483007504e9026f2d3", func := "loop.example/g00568/laws.FnRows", spec := "fnRows", unfollowed := true, recurses := true, apart := false }
def FnRowsSaid : Prop := fnRowsRow.holds Try.pinned (OpenSpec.ofChange fnRowsSpec)

/-- ITS FALSE NEIGHBOUR: 'it returns false'. Refute it at one input. -/
def fnRowsWrong : ChangeSpec := { name := "fnRows", fn := fun _ => fun
  | [d] => { results := [.lit (.bool false)], args := [d] }
  | _ => none }
def FnRowsWrongFalsely : Prop := fnRowsRow.holds Try.pinned (OpenSpec.ofChange fnRowsWrong)

/-- 'laws.FnRowsRun': WHATEVER THE INPUT: true; the input reads as it did. -/
def fnRowsRunSpec : ChangeSpec := { name := "fnRowsRun", fn := fun _ => fun
  | [d] => { results := [.lit (.bool true)], args := [d] }
  | _ => none }
def fnRowsRunRow : OpenClaim := { program := "ytbbmkcpdeeckdaa", sum := "740bc0a49c4a2c65e61934bef2f444d45e5456fc5aea6a483007504e9026f2d3", func := "loop.example/g00568/laws.FnRowsRun", spec := "fnRowsRun", unfollowed := true, recurses := true, apart := false }
def FnRowsRunSaid : Prop := fnRowsRunRow.holds Try.pinned (OpenSpec.ofChange fnRowsRunSpec)

/-- ITS FALSE NEIGHBOUR: 'it returns false'. Refute it at one input. -/
def fnRowsRunWrong : ChangeSpec := { name := "fnRowsRun", fn := fun _ => fun
  | [d] => { results := [.lit (.bool false)], args := [d] }
  | _ => none }
def FnRowsRunWrongFalsely : Prop := fnRowsRunRow.holds Try.pinned (OpenSpec.ofChange fnRowsRunWrong)

/-- 'laws.FnCuts': WHATEVER THE INPUT: true; the input reads as it did. -/
def fnCutsSpec : ChangeSpec := { name := "fnCuts", fn := fun _ => fun
  | [d] => { results := [.lit (.bool true)], args := [d] }
  | _ => none }
def fnCutsRow : OpenClaim := { program := "ytbbmkcpdeeckdaa", sum := "740bc0a49c4a2c65e61934bef2f444d45e5456fc5aea6a483007504e9026f2d3", func := "loop.example/g00568/laws.FnCuts", spec := "fnCuts", unfollowed := true, recurses := true, apart := false }
def FnCutsSaid : Prop := fnCutsRow.holds Try.pinned (OpenSpec.ofChange fnCutsSpec)

/-- ITS FALSE NEIGHBOUR: 'it returns false'. Refute it at one input. -/
def fnCutsWrong : ChangeSpec := { name := "fnCuts", fn := fun _ => fun
  | [d] => { results := [.lit (.bool false)], args := [d] }
  | _ => none }
def FnCutsWrongFalsely : Prop := fnCutsRow.holds Try.pinned (OpenSpec.ofChange fnCutsWrong)

/-- 'laws.FnCutRun': WHATEVER THE INPUT: true; the input reads as it did. -/
def fnCutRunSpec : ChangeSpec := { name := "fnCutRun", fn := fun _ => fun
  | [d] => { results := [.lit (.bool true)], args := [d] }
  | _ => none }
def fnCutRunRow : OpenClaim := { program := "ytbbmkcpdeeckdaa", sum := "740bc0a49c4a2c65e61934bef2f444d45e5456fc5aea6a483007504e9026f2d3", func := "loop.example/g00568/laws.FnCutRun", spec := "fnCutRun", unfollowed := true, recurses := true, apart := false }
def FnCutRunSaid : Prop := fnCutRunRow.holds Try.pinned (OpenSpec.ofChange fnCutRunSpec)

/-- ITS FALSE NEIGHBOUR: 'it returns false'. Refute it at one input. -/
def fnCutRunWrong : ChangeSpec := { name := "fnCutRun", fn := fun _ => fun
  | [d] => { results := [.lit (.bool false)], args := [d] }
  | _ => none }
def FnCutRunWrongFalsely : Prop := fnCutRunRow.holds Try.pinned (OpenSpec.ofChange fnCutRunWrong)

/-- 'laws.FnTrie': WHATEVER THE INPUT: true; the input reads as it did. -/
def fnTrieSpec : ChangeSpec := { name := "fnTrie", fn := fun _ => fun
  | [d] => { results := [.lit (.bool true)], args := [d] }
  | _ => none }
def fnTrieRow : OpenClaim := { program := "ytbbmkcpdeeckdaa", sum := "740bc0a49c4a2c65e61934bef2f444d45e5456fc5aea6a483007504e9026f2d3", func := "loop.example/g00568/laws.FnTrie", spec := "fnTrie", unfollowed := true, recurses := true, apart := false }
def FnTrieSaid : Prop := fnTrieRow.holds Try.pinned (OpenSpec.ofChange fnTrieSpec)

/-- ITS FALSE NEIGHBOUR: 'it returns false'. Refute it at one input. -/
def fnTrieWrong : ChangeSpec := { name := "fnTrie", fn := fun _ => fun
  | [d] => { results := [.lit (.bool false)], args := [d] }
  | _ => none }
def FnTrieWrongFalsely : Prop := fnTrieRow.holds Try.pinned (OpenSpec.ofChange fnTrieWrong)

/-- 'laws.FnTrieRun': WHATEVER THE INPUT: true; the input reads as it did. -/
def fnTrieRunSpec : ChangeSpec := { name := "fnTrieRun", fn := fun _ => fun
  | [d] => { results := [.lit (.bool true)], args := [d] }
  | _ => none }
def fnTrieRunRow : OpenClaim := { program := "ytbbmkcpdeeckdaa", sum := "740bc0a49c4a2c65e61934bef2f444d45e5456fc5aea6a483007504e9026f2d3", func := "loop.example/g00568/laws.FnTrieRun", spec := "fnTrieRun", unfollowed := true, recurses := true, apart := false }
def FnTrieRunSaid : Prop := fnTrieRunRow.holds Try.pinned (OpenSpec.ofChange fnTrieRunSpec)

/-- ITS FALSE NEIGHBOUR: 'it returns false'. Refute it at one input. -/
def fnTrieRunWrong : ChangeSpec := { name := "fnTrieRun", fn := fun _ => fun
  | [d] => { results := [.lit (.bool false)], args := [d] }
  | _ => none }
def FnTrieRunWrongFalsely : Prop := fnTrieRunRow.holds Try.pinned (OpenSpec.ofChange fnTrieRunWrong)

/-- 'laws.FnTrieStep': WHATEVER THE INPUT: true; the input reads as it did. -/
def fnTrieStepSpec : ChangeSpec := { name := "fnTrieStep", fn := fun _ => fun
  | [d] => { results := [.lit (.bool true)], args := [d] }
  | _ => none }
def fnTrieStepRow : OpenClaim := { program := "ytbbmkcpdeeckdaa", sum := "740bc0a49c4a2c65e61934bef2f444d45e5456fc5aea6a483007504e9026f2d3", func := "loop.example/g00568/laws.FnTrieStep", spec := "fnTrieStep", unfollowed := true, recurses := true, apart := false }
def FnTrieStepSaid : Prop := fnTrieStepRow.holds Try.pinned (OpenSpec.ofChange fnTrieStepSpec)

/-- ITS FALSE NEIGHBOUR: 'it returns false'. Refute it at one input. -/
def fnTrieStepWrong : ChangeSpec := { name := "fnTrieStep", fn := fun _ => fun
  | [d] => { results := [.lit (.bool false)], args := [d] }
  | _ => none }
def FnTrieStepWrongFalsely : Prop := fnTrieStepRow.holds Try.pinned (OpenSpec.ofChange fnTrieStepWrong)

/-- 'laws.FnPieces': WHATEVER THE INPUT: true; the input reads as it did. -/
def fnPiecesSpec : ChangeSpec := { name := "fnPieces", fn := fun _ => fun
  | [d] => { results := [.lit (.bool true)], args := [d] }
  | _ => none }
def fnPiecesRow : OpenClaim := { program := "ytbbmkcpdeeckdaa", sum := "740bc0a49c4a2c65e61934bef2f444d45e5456fc5aea6a483007504e9026f2d3", func := "loop.example/g00568/laws.FnPieces", spec := "fnPieces", apart := false }
def FnPiecesSaid : Prop := fnPiecesRow.holds Try.pinned (OpenSpec.ofChange fnPiecesSpec)

/-- ITS FALSE NEIGHBOUR: 'it returns false'. Refute it at one input. -/
def fnPiecesWrong : ChangeSpec := { name := "fnPieces", fn := fun _ => fun
  | [d] => { results := [.lit (.bool false)], args := [d] }
  | _ => none }
def FnPiecesWrongFalsely : Prop := fnPiecesRow.holds Try.pinned (OpenSpec.ofChange fnPiecesWrong)

/-- 'laws.FnWindows': WHATEVER THE INPUT: true; the input reads as it did. -/
def fnWindowsSpec : ChangeSpec := { name := "fnWindows", fn := fun _ => fun
  | [d] => { results := [.lit (.bool true)], args := [d] }
  | _ => none }
def fnWindowsRow : OpenClaim := { program := "ytbbmkcpdeeckdaa", sum := "740bc0a49c4a2c65e61934bef2f444d45e5456fc5aea6a483007504e9026f2d3", func := "loop.example/g00568/laws.FnWindows", spec := "fnWindows", unfollowed := true, recurses := true, apart := false }
def FnWindowsSaid : Prop := fnWindowsRow.holds Try.pinned (OpenSpec.ofChange fnWindowsSpec)

/-- ITS FALSE NEIGHBOUR: 'it returns false'. Refute it at one input. -/
def fnWindowsWrong : ChangeSpec := { name := "fnWindows", fn := fun _ => fun
  | [d] => { results := [.lit (.bool false)], args := [d] }
  | _ => none }
def FnWindowsWrongFalsely : Prop := fnWindowsRow.holds Try.pinned (OpenSpec.ofChange fnWindowsWrong)

/-- 'laws.FnFiltered': WHATEVER THE INPUT: true; the input reads as it did. -/
def fnFilteredSpec : ChangeSpec := { name := "fnFiltered", fn := fun _ => fun
  | [d] => { results := [.lit (.bool true)], args := [d] }
  | _ => none }
def fnFilteredRow : OpenClaim := { program := "ytbbmkcpdeeckdaa", sum := "740bc0a49c4a2c65e61934bef2f444d45e5456fc5aea6a483007504e9026f2d3", func := "loop.example/g00568/laws.FnFiltered", spec := "fnFiltered", unfollowed := true, recurses := true, apart := false }
def FnFilteredSaid : Prop := fnFilteredRow.holds Try.pinned (OpenSpec.ofChange fnFilteredSpec)

/-- ITS FALSE NEIGHBOUR: 'it returns false'. Refute it at one input. -/
def fnFilteredWrong : ChangeSpec := { name := "fnFiltered", fn := fun _ => fun
  | [d] => { results := [.lit (.bool false)], args := [d] }
  | _ => none }
def FnFilteredWrongFalsely : Prop := fnFilteredRow.holds Try.pinned (OpenSpec.ofChange fnFilteredWrong)

/- THE SECOND FORM. 'bulk': how many values and letters a reading holds, each counted each time it is reached (what is shared counts as often as it is met; a slice's spare places count too). A statement '..UptoSaid' is the law's where the arguments, and the package variables that the reading takes, are together of bulk at most 1048576: NARROWER than '..Said'. Prove '..Said' where nothing that the law and all that it calls make is longer than what came in: it says more and counts as full. Else prove '..UptoSaid'. A law counts once. -/
mutual
def uptoBulk {H : Type} : DataW H → Nat
  | .lit (.string bytes) => bytes.length + 1
  | .lit _ => 1
  | .nil => 1
  | .ptr d => uptoBulk d + 1
  | .slice elems spare => uptoBulkAll elems + uptoBulkAll spare + 1
  | .agg parts => uptoBulkAll parts + 1
  | .iface _ d => uptoBulk d + 1
  | .map entries => uptoBulkEntries entries + 1
  | .held _ => 1
def uptoBulkAll {H : Type} : List (DataW H) → Nat
  | [] => 0
  | d :: r => uptoBulk d + uptoBulkAll r
def uptoBulkEntries {H : Type} : List (Lit × DataW H) → Nat
  | [] => 0
  | x :: r => uptoBulkEntry x + uptoBulkEntries r
def uptoBulkEntry {H : Type} : Lit × DataW H → Nat
  | (.string bytes, d) => bytes.length + uptoBulk d + 1
  | (_, d) => uptoBulk d + 1
 end
def uptoSmall : (H : Type) → List (DataW H) → Bool := fun _ ds => decide (uptoBulkAll ds ≤ 1048576)
def OpenSpec.upto (s : _root_.Go.ChangeSpec) : _root_.Go.OpenSpec := { _root_.Go.OpenSpec.ofChange s with cond := some uptoSmall }

/-- 'laws.FnRows', WHERE WHAT IT READS IS OF BULK AT MOST 1048576: true; the input reads as it did. -/
def fnRowsUptoRow : OpenClaim := { program := "ytbbmkcpdeeckdaa", sum := "740bc0a49c4a2c65e61934bef2f444d45e5456fc5aea6a483007504e9026f2d3", func := "loop.example/g00568/laws.FnRows", spec := "fnRows", unfollowed := true, recurses := true, apart := false, narrowed := true }
def FnRowsUptoSaid : Prop := fnRowsUptoRow.holds Try.pinned (OpenSpec.upto fnRowsSpec)

/-- 'laws.FnRowsRun', WHERE WHAT IT READS IS OF BULK AT MOST 1048576: true; the input reads as it did. -/
def fnRowsRunUptoRow : OpenClaim := { program := "ytbbmkcpdeeckdaa", sum := "740bc0a49c4a2c65e61934bef2f444d45e5456fc5aea6a483007504e9026f2d3", func := "loop.example/g00568/laws.FnRowsRun", spec := "fnRowsRun", unfollowed := true, recurses := true, apart := false, narrowed := true }
def FnRowsRunUptoSaid : Prop := fnRowsRunUptoRow.holds Try.pinned (OpenSpec.upto fnRowsRunSpec)

/-- 'laws.FnCuts', WHERE WHAT IT READS IS OF BULK AT MOST 1048576: true; the input reads as it did. -/
def fnCutsUptoRow : OpenClaim := { program := "ytbbmkcpdeeckdaa", sum := "740bc0a49c4a2c65e61934bef2f444d45e5456fc5aea6a483007504e9026f2d3", func := "loop.example/g00568/laws.FnCuts", spec := "fnCuts", unfollowed := true, recurses := true, apart := false, narrowed := true }
def FnCutsUptoSaid : Prop := fnCutsUptoRow.holds Try.pinned (OpenSpec.upto fnCutsSpec)

/-- 'laws.FnCutRun', WHERE WHAT IT READS IS OF BULK AT MOST 1048576: true; the input reads as it did. -/
def fnCutRunUptoRow : OpenClaim := { program := "ytbbmkcpdeeckdaa", sum := "740bc0a49c4a2c65e61934bef2f444d45e5456fc5aea6a483007504e9026f2d3", func := "loop.example/g00568/laws.FnCutRun", spec := "fnCutRun", unfollowed := true, recurses := true, apart := false, narrowed := true }
def FnCutRunUptoSaid : Prop := fnCutRunUptoRow.holds Try.pinned (OpenSpec.upto fnCutRunSpec)

/-- 'laws.FnTrie', WHERE WHAT IT READS IS OF BULK AT MOST 1048576: true; the input reads as it did. -/
def fnTrieUptoRow : OpenClaim := { program := "ytbbmkcpdeeckdaa", sum := "740bc0a49c4a2c65e61934bef2f444d45e5456fc5aea6a483007504e9026f2d3", func := "loop.example/g00568/laws.FnTrie", spec := "fnTrie", unfollowed := true, recurses := true, apart := false, narrowed := true }
def FnTrieUptoSaid : Prop := fnTrieUptoRow.holds Try.pinned (OpenSpec.upto fnTrieSpec)

/-- 'laws.FnTrieRun', WHERE WHAT IT READS IS OF BULK AT MOST 1048576: true; the input reads as it did. -/
def fnTrieRunUptoRow : OpenClaim := { program := "ytbbmkcpdeeckdaa", sum := "740bc0a49c4a2c65e61934bef2f444d45e5456fc5aea6a483007504e9026f2d3", func := "loop.example/g00568/laws.FnTrieRun", spec := "fnTrieRun", unfollowed := true, recurses := true, apart := false, narrowed := true }
def FnTrieRunUptoSaid : Prop := fnTrieRunUptoRow.holds Try.pinned (OpenSpec.upto fnTrieRunSpec)

/-- 'laws.FnTrieStep', WHERE WHAT IT READS IS OF BULK AT MOST 1048576: true; the input reads as it did. -/
def fnTrieStepUptoRow : OpenClaim := { program := "ytbbmkcpdeeckdaa", sum := "740bc0a49c4a2c65e61934bef2f444d45e5456fc5aea6a483007504e9026f2d3", func := "loop.example/g00568/laws.FnTrieStep", spec := "fnTrieStep", unfollowed := true, recurses := true, apart := false, narrowed := true }
def FnTrieStepUptoSaid : Prop := fnTrieStepUptoRow.holds Try.pinned (OpenSpec.upto fnTrieStepSpec)

/-- 'laws.FnPieces', WHERE WHAT IT READS IS OF BULK AT MOST 1048576: true; the input reads as it did. -/
def fnPiecesUptoRow : OpenClaim := { program := "ytbbmkcpdeeckdaa", sum := "740bc0a49c4a2c65e61934bef2f444d45e5456fc5aea6a483007504e9026f2d3", func := "loop.example/g00568/laws.FnPieces", spec := "fnPieces", apart := false, narrowed := true }
def FnPiecesUptoSaid : Prop := fnPiecesUptoRow.holds Try.pinned (OpenSpec.upto fnPiecesSpec)

/-- 'laws.FnWindows', WHERE WHAT IT READS IS OF BULK AT MOST 1048576: true; the input reads as it did. -/
def fnWindowsUptoRow : OpenClaim := { program := "ytbbmkcpdeeckdaa", sum := "740bc0a49c4a2c65e61934bef2f444d45e5456fc5aea6a483007504e9026f2d3", func := "loop.example/g00568/laws.FnWindows", spec := "fnWindows", unfollowed := true, recurses := true, apart := false, narrowed := true }
def FnWindowsUptoSaid : Prop := fnWindowsUptoRow.holds Try.pinned (OpenSpec.upto fnWindowsSpec)

/-- 'laws.FnFiltered', WHERE WHAT IT READS IS OF BULK AT MOST 1048576: true; the input reads as it did. -/
def fnFilteredUptoRow : OpenClaim := { program := "ytbbmkcpdeeckdaa", sum := "740bc0a49c4a2c65e61934bef2f444d45e5456fc5aea6a483007504e9026f2d3", func := "loop.example/g00568/laws.FnFiltered", spec := "fnFiltered", unfollowed := true, recurses := true, apart := false, narrowed := true }
def FnFilteredUptoSaid : Prop := fnFilteredUptoRow.holds Try.pinned (OpenSpec.upto fnFilteredSpec)

end Rows
end Go.Proofs.Ytbbmkcpdeeckdaa

/-
  No cell of these rows narrows 'for every input' (looked for: loops, veiled, ifaces, maps, wideKeys, modest, calm, conditions, laid).
  DERIVED. THE GIVEN ROWS OF THIS SEAT. 9 by the template 'for every input the law returns true; each argument reads behind the call as it read before'; 0 by the template 'total and deterministic' (their statements: YtflbjjpkloeocabTotals.lean).
  GIVEN WITH THE SEED: the statements are not yours to turn. If you find one false, say at which input.
  Laid BY PROGRAM, IN A SANDBOX (cutbox-rows.mjs): the forced cells as the released guide's own fill.sh prints them over the translation 81f341d6b798a3b2… (all of the seat's roots in one cut). By AI agents, Wed Nov 11 2026. No macro, syntax, notation, axiom, sorry.
-/
import Derived.Test.YtflbjjpkloeocabChecked
import GoSem.Claim
import GoSem.ClaimJoined
import GoSem.ClaimMapViews
import Derived.JoinedTies
import Derived.KernelRfl
namespace Go.Proofs.Ytflbjjpkloeocab
/- THE CELL 'sum', in the pinned program and in every row, IS THE sha256 OF THE DUMP (.gsa) THAT YtflbjjpkloeocabProg.lean LOADS. Nothing in Lean hashes anything: it is a label: what it is worth is what the hold of that sum in a sandbox is worth. -/
noncomputable def Try.pinned : Pinned := { name := "ytflbjjpkloeocab", sum := "81f341d6b798a3b2978fbf271c0e7b415a75454115a659bf48bbf33784a367ad", checked := Try.checked }
namespace Rows
def none {H : Type} : Left H := { results := [], args := [] }

/-- 'laws.FnRowsRun': WHATEVER THE INPUT: true; the input reads as it did. -/
def fnRowsRunSpec : ChangeSpec := { name := "fnRowsRun", fn := fun _ => fun
  | [d] => { results := [.lit (.bool true)], args := [d] }
  | _ => none }
def fnRowsRunRow : OpenClaim := { program := "ytflbjjpkloeocab", sum := "81f341d6b798a3b2978fbf271c0e7b415a75454115a659bf48bbf33784a367ad", func := "loop.example/g00568/laws.FnRowsRun", spec := "fnRowsRun", unfollowed := true, recurses := true, apart := false }
def FnRowsRunSaid : Prop := fnRowsRunRow.holds Try.pinned (OpenSpec.ofChange fnRowsRunSpec)

/-- ITS FALSE NEIGHBOUR: 'it returns false'. Refute it at one input. -/
def fnRowsRunWrong : ChangeSpec := { name := "fnRowsRun", fn := fun _ => fun
  | [d] => { results := [.lit (.bool false)], args := [d] }
  | _ => none }
def FnRowsRunWrongFalsely : Prop := fnRowsRunRow.holds Try.pinned (OpenSpec.ofChange fnRowsRunWrong)

/-- 'laws.FnCuts': WHATEVER THE INPUT: true; the input reads as it did. -/
def fnCutsSpec : ChangeSpec := { name := "fnCuts", fn := fun _ => fun
  | [d] => { results := [.lit (.bool true)], args := [d] }
  | _ => none }
def fnCutsRow : OpenClaim := { program := "ytflbjjpkloeocab", sum := "81f341d6b798a3b2978fbf271c0e7b415a75454115a659bf48bbf33784a367ad", func := "loop.example/g00568/laws.FnCuts", spec := "fnCuts", unfollowed := true, recurses := true, apart := false }
def FnCutsSaid : Prop := fnCutsRow.holds Try.pinned (OpenSpec.ofChange fnCutsSpec)

/-- ITS FALSE NEIGHBOUR: 'it returns false'. Refute it at one input. -/
def fnCutsWrong : ChangeSpec := { name := "fnCuts", fn := fun _ => fun
  | [d] => { results := [.lit (.bool false)], args := [d] }
  | _ => none }
def FnCutsWrongFalsely : Prop := fnCutsRow.holds Try.pinned (OpenSpec.ofChange fnCutsWrong)

/-- 'laws.FnCutRun': WHATEVER THE INPUT: true; the input reads as it did. -/
def fnCutRunSpec : ChangeSpec := { name := "fnCutRun", fn := fun _ => fun
  | [d] => { results := [.lit (.bool true)], args := [d] }
  | _ => none }
def fnCutRunRow : OpenClaim := { program := "ytflbjjpkloeocab", sum := "81f341d6b798a3b2978fbf271c0e7b415a75454115a659bf48bbf33784a367ad", func := "loop.example/g00568/laws.FnCutRun", spec := "fnCutRun", unfollowed := true, recurses := true, apart := false }
def FnCutRunSaid : Prop := fnCutRunRow.holds Try.pinned (OpenSpec.ofChange fnCutRunSpec)

/-- ITS FALSE NEIGHBOUR: 'it returns false'. Refute it at one input. -/
def fnCutRunWrong : ChangeSpec := { name := "fnCutRun", fn := fun _ => fun
  | [d] => { results := [.lit (.bool false)], args := [d] }
  | _ => none }
def FnCutRunWrongFalsely : Prop := fnCutRunRow.holds Try.pinned (OpenSpec.ofChange fnCutRunWrong)

/-- 'laws.FnExactReadDict': WHATEVER THE INPUT: true; the input reads as it did. -/
def fnExactReadDictSpec : ChangeSpec := { name := "fnExactReadDict", fn := fun _ => fun
  | [d] => { results := [.lit (.bool true)], args := [d] }
  | _ => none }
def fnExactReadDictRow : OpenClaim := { program := "ytflbjjpkloeocab", sum := "81f341d6b798a3b2978fbf271c0e7b415a75454115a659bf48bbf33784a367ad", func := "loop.example/g00568/laws.FnExactReadDict", spec := "fnExactReadDict", inPlace := ["internal/bytealg.IndexByteString", "internal/bytealg.IndexString"], unfollowed := true, recurses := true, named := ["internal/bytealg.MaxLen"], apart := false }
def FnExactReadDictSaid : Prop := fnExactReadDictRow.holds Try.pinned (OpenSpec.ofChange fnExactReadDictSpec)

/-- ITS FALSE NEIGHBOUR: 'it returns false'. Refute it at one input. -/
def fnExactReadDictWrong : ChangeSpec := { name := "fnExactReadDict", fn := fun _ => fun
  | [d] => { results := [.lit (.bool false)], args := [d] }
  | _ => none }
def FnExactReadDictWrongFalsely : Prop := fnExactReadDictRow.holds Try.pinned (OpenSpec.ofChange fnExactReadDictWrong)

/-- 'laws.FnExactDistance': WHATEVER THE INPUT: true; the input reads as it did. -/
def fnExactDistanceSpec : ChangeSpec := { name := "fnExactDistance", fn := fun _ => fun
  | [d1, d2, d3] => { results := [.lit (.bool true)], args := [d1, d2, d3] }
  | _ => none }
def fnExactDistanceRow : OpenClaim := { program := "ytflbjjpkloeocab", sum := "81f341d6b798a3b2978fbf271c0e7b415a75454115a659bf48bbf33784a367ad", func := "loop.example/g00568/laws.FnExactDistance", spec := "fnExactDistance", unfollowed := true, recurses := true, apart := false }
def FnExactDistanceSaid : Prop := fnExactDistanceRow.holds Try.pinned (OpenSpec.ofChange fnExactDistanceSpec)

/-- ITS FALSE NEIGHBOUR: 'it returns false'. Refute it at one input. -/
def fnExactDistanceWrong : ChangeSpec := { name := "fnExactDistance", fn := fun _ => fun
  | [d1, d2, d3] => { results := [.lit (.bool false)], args := [d1, d2, d3] }
  | _ => none }
def FnExactDistanceWrongFalsely : Prop := fnExactDistanceRow.holds Try.pinned (OpenSpec.ofChange fnExactDistanceWrong)

/-- 'laws.FnExactEndsOf': WHATEVER THE INPUT: true; the input reads as it did. -/
def fnExactEndsOfSpec : ChangeSpec := { name := "fnExactEndsOf", fn := fun _ => fun
  | [d1, d2] => { results := [.lit (.bool true)], args := [d1, d2] }
  | _ => none }
def fnExactEndsOfRow : OpenClaim := { program := "ytflbjjpkloeocab", sum := "81f341d6b798a3b2978fbf271c0e7b415a75454115a659bf48bbf33784a367ad", func := "loop.example/g00568/laws.FnExactEndsOf", spec := "fnExactEndsOf", unfollowed := true, recurses := true, apart := false }
def FnExactEndsOfSaid : Prop := fnExactEndsOfRow.holds Try.pinned (OpenSpec.ofChange fnExactEndsOfSpec)

/-- ITS FALSE NEIGHBOUR: 'it returns false'. Refute it at one input. -/
def fnExactEndsOfWrong : ChangeSpec := { name := "fnExactEndsOf", fn := fun _ => fun
  | [d1, d2] => { results := [.lit (.bool false)], args := [d1, d2] }
  | _ => none }
def FnExactEndsOfWrongFalsely : Prop := fnExactEndsOfRow.holds Try.pinned (OpenSpec.ofChange fnExactEndsOfWrong)

/-- 'laws.FnExactMyersStep': WHATEVER THE INPUT: true; the input reads as it did. -/
def fnExactMyersStepSpec : ChangeSpec := { name := "fnExactMyersStep", fn := fun _ => fun
  | [d1, d2, d3] => { results := [.lit (.bool true)], args := [d1, d2, d3] }
  | _ => none }
def fnExactMyersStepRow : OpenClaim := { program := "ytflbjjpkloeocab", sum := "81f341d6b798a3b2978fbf271c0e7b415a75454115a659bf48bbf33784a367ad", func := "loop.example/g00568/laws.FnExactMyersStep", spec := "fnExactMyersStep", unfollowed := true, recurses := true, apart := false }
def FnExactMyersStepSaid : Prop := fnExactMyersStepRow.holds Try.pinned (OpenSpec.ofChange fnExactMyersStepSpec)

/-- ITS FALSE NEIGHBOUR: 'it returns false'. Refute it at one input. -/
def fnExactMyersStepWrong : ChangeSpec := { name := "fnExactMyersStep", fn := fun _ => fun
  | [d1, d2, d3] => { results := [.lit (.bool false)], args := [d1, d2, d3] }
  | _ => none }
def FnExactMyersStepWrongFalsely : Prop := fnExactMyersStepRow.holds Try.pinned (OpenSpec.ofChange fnExactMyersStepWrong)

/-- 'laws.FnExactRowsStep': WHATEVER THE INPUT: true; the input reads as it did. -/
def fnExactRowsStepSpec : ChangeSpec := { name := "fnExactRowsStep", fn := fun _ => fun
  | [d1, d2, d3] => { results := [.lit (.bool true)], args := [d1, d2, d3] }
  | _ => none }
def fnExactRowsStepRow : OpenClaim := { program := "ytflbjjpkloeocab", sum := "81f341d6b798a3b2978fbf271c0e7b415a75454115a659bf48bbf33784a367ad", func := "loop.example/g00568/laws.FnExactRowsStep", spec := "fnExactRowsStep", unfollowed := true, recurses := true, apart := false }
def FnExactRowsStepSaid : Prop := fnExactRowsStepRow.holds Try.pinned (OpenSpec.ofChange fnExactRowsStepSpec)

/-- ITS FALSE NEIGHBOUR: 'it returns false'. Refute it at one input. -/
def fnExactRowsStepWrong : ChangeSpec := { name := "fnExactRowsStep", fn := fun _ => fun
  | [d1, d2, d3] => { results := [.lit (.bool false)], args := [d1, d2, d3] }
  | _ => none }
def FnExactRowsStepWrongFalsely : Prop := fnExactRowsStepRow.holds Try.pinned (OpenSpec.ofChange fnExactRowsStepWrong)

/-- 'laws.FnExactCutStep': WHATEVER THE INPUT: true; the input reads as it did. -/
def fnExactCutStepSpec : ChangeSpec := { name := "fnExactCutStep", fn := fun _ => fun
  | [d1, d2, d3] => { results := [.lit (.bool true)], args := [d1, d2, d3] }
  | _ => none }
def fnExactCutStepRow : OpenClaim := { program := "ytflbjjpkloeocab", sum := "81f341d6b798a3b2978fbf271c0e7b415a75454115a659bf48bbf33784a367ad", func := "loop.example/g00568/laws.FnExactCutStep", spec := "fnExactCutStep", unfollowed := true, recurses := true, apart := false }
def FnExactCutStepSaid : Prop := fnExactCutStepRow.holds Try.pinned (OpenSpec.ofChange fnExactCutStepSpec)

/-- ITS FALSE NEIGHBOUR: 'it returns false'. Refute it at one input. -/
def fnExactCutStepWrong : ChangeSpec := { name := "fnExactCutStep", fn := fun _ => fun
  | [d1, d2, d3] => { results := [.lit (.bool false)], args := [d1, d2, d3] }
  | _ => none }
def FnExactCutStepWrongFalsely : Prop := fnExactCutStepRow.holds Try.pinned (OpenSpec.ofChange fnExactCutStepWrong)

/- THE SECOND FORM. 'bulk': how many values and letters a reading holds, each counted each time it is reached (what is shared counts as often as it is met; a slice's spare places count too). A statement '..UptoSaid' is the law's where the arguments, and the package variables that the reading takes, are together of bulk at most 1048576: NARROWER than '..Said'. Prove '..Said' where nothing that the law and all that it calls make is longer than what came in: it says more and counts as full. Else prove '..UptoSaid'. A law counts once. -/
mutual
def uptoBulk {H : Type} : DataW H → Nat
  | .lit (.string bytes) => bytes.length + 1
  | .lit _ => 1
  | .nil => 1
  | .ptr d => uptoBulk d + 1
  | .slice elems spare => uptoBulkAll elems + uptoBulkAll spare + 1
  | .agg parts => uptoBulkAll parts + 1
  | .iface _ d => uptoBulk d + 1
  | .map entries => uptoBulkEntries entries + 1
  | .held _ => 1
def uptoBulkAll {H : Type} : List (DataW H) → Nat
  | [] => 0
  | d :: r => uptoBulk d + uptoBulkAll r
def uptoBulkEntries {H : Type} : List (Lit × DataW H) → Nat
  | [] => 0
  | x :: r => uptoBulkEntry x + uptoBulkEntries r
def uptoBulkEntry {H : Type} : Lit × DataW H → Nat
  | (.string bytes, d) => bytes.length + uptoBulk d + 1
  | (_, d) => uptoBulk d + 1
 end
def uptoSmall : (H : Type) → List (DataW H) → Bool := fun _ ds => decide (uptoBulkAll ds ≤ 1048576)
def OpenSpec.upto (s : _root_.Go.ChangeSpec) : _root_.Go.OpenSpec := { _root_.Go.OpenSpec.ofChange s with cond := some uptoSmall }

/-- 'laws.FnRowsRun', WHERE WHAT IT READS IS OF BULK AT MOST 1048576: true; the input reads as it did. -/
def fnRowsRunUptoRow : OpenClaim := { program := "ytflbjjpkloeocab", sum := "81f341d6b798a3b2978fbf271c0e7b415a75454115a659bf48bbf33784a367ad", func := "loop.example/g00568/laws.FnRowsRun", spec := "fnRowsRun", unfollowed := true, recurses := true, apart := false, narrowed := true }
def FnRowsRunUptoSaid : Prop := fnRowsRunUptoRow.holds Try.pinned (OpenSpec.upto fnRowsRunSpec)

/-- 'laws.FnCuts', WHERE WHAT IT READS IS OF BULK AT MOST 1048576: true; the input reads as it did. -/
def fnCutsUptoRow : OpenClaim := { program := "ytflbjjpkloeocab", sum := "81f341d6b798a3b2978fbf271c0e7b415a75454115a659bf48bbf33784a367ad", func := "loop.example/g00568/laws.FnCuts", spec := "fnCuts", unfollowed := true, recurses := true, apart := false, narrowed := true }
def FnCutsUptoSaid : Prop := fnCutsUptoRow.holds Try.pinned (OpenSpec.upto fnCutsSpec)

/-- 'laws.FnCutRun', WHERE WHAT IT READS IS OF BULK AT MOST 1048576: true; the input reads as it did. -/
def fnCutRunUptoRow : OpenClaim := { program := "ytflbjjpkloeocab", sum := "81f341d6b798a3b2978fbf271c0e7b415a75454115a659bf48bbf33784a367ad", func := "loop.example/g00568/laws.FnCutRun", spec := "fnCutRun", unfollowed := true, recurses := true, apart := false, narrowed := true }
def FnCutRunUptoSaid : Prop := fnCutRunUptoRow.holds Try.pinned (OpenSpec.upto fnCutRunSpec)

/-- 'laws.FnExactReadDict', WHERE WHAT IT READS IS OF BULK AT MOST 1048576: true; the input reads as it did. -/
def fnExactReadDictUptoRow : OpenClaim := { program := "ytflbjjpkloeocab", sum := "81f341d6b798a3b2978fbf271c0e7b415a75454115a659bf48bbf33784a367ad", func := "loop.example/g00568/laws.FnExactReadDict", spec := "fnExactReadDict", inPlace := ["internal/bytealg.IndexByteString", "internal/bytealg.IndexString"], unfollowed := true, recurses := true, named := ["internal/bytealg.MaxLen"], apart := false, narrowed := true }
def FnExactReadDictUptoSaid : Prop := fnExactReadDictUptoRow.holds Try.pinned (OpenSpec.upto fnExactReadDictSpec)

/-- 'laws.FnExactDistance', WHERE WHAT IT READS IS OF BULK AT MOST 1048576: true; the input reads as it did. -/
def fnExactDistanceUptoRow : OpenClaim := { program := "ytflbjjpkloeocab", sum := "81f341d6b798a3b2978fbf271c0e7b415a75454115a659bf48bbf33784a367ad", func := "loop.example/g00568/laws.FnExactDistance", spec := "fnExactDistance", unfollowed := true, recurses := true, apart := false, narrowed := true }
def FnExactDistanceUptoSaid : Prop := fnExactDistanceUptoRow.holds Try.pinned (OpenSpec.upto fnExactDistanceSpec)

/-- 'laws.FnExactEndsOf', WHERE WHAT IT READS IS OF BULK AT MOST 1048576: true; the input reads as it did. -/
def fnExactEndsOfUptoRow : OpenClaim := { program := "ytflbjjpkloeocab", sum := "81f341d6b798a3b2978fbf271c0e7b415a75454115a659bf48bbf33784a367ad", func := "loop.example/g00568/laws.FnExactEndsOf", spec := "fnExactEndsOf", unfollowed := true, recurses := true, apart := false, narrowed := true }
def FnExactEndsOfUptoSaid : Prop := fnExactEndsOfUptoRow.holds Try.pinned (OpenSpec.upto fnExactEndsOfSpec)

/-- 'laws.FnExactMyersStep', WHERE WHAT IT READS IS OF BULK AT MOST 1048576: true; the input reads as it did. -/
def fnExactMyersStepUptoRow : OpenClaim := { program := "ytflbjjpkloeocab", sum := "81f341d6b798a3b2978fbf271c0e7b415a75454115a659bf48bbf33784a367ad", func := "loop.example/g00568/laws.FnExactMyersStep", spec := "fnExactMyersStep", unfollowed := true, recurses := true, apart := false, narrowed := true }
def FnExactMyersStepUptoSaid : Prop := fnExactMyersStepUptoRow.holds Try.pinned (OpenSpec.upto fnExactMyersStepSpec)

/-- 'laws.FnExactRowsStep', WHERE WHAT IT READS IS OF BULK AT MOST 1048576: true; the input reads as it did. -/
def fnExactRowsStepUptoRow : OpenClaim := { program := "ytflbjjpkloeocab", sum := "81f341d6b798a3b2978fbf271c0e7b415a75454115a659bf48bbf33784a367ad", func := "loop.example/g00568/laws.FnExactRowsStep", spec := "fnExactRowsStep", unfollowed := true, recurses := true, apart := false, narrowed := true }
def FnExactRowsStepUptoSaid : Prop := fnExactRowsStepUptoRow.holds Try.pinned (OpenSpec.upto fnExactRowsStepSpec)

/-- 'laws.FnExactCutStep', WHERE WHAT IT READS IS OF BULK AT MOST 1048576: true; the input reads as it did. -/
def fnExactCutStepUptoRow : OpenClaim := { program := "ytflbjjpkloeocab", sum := "81f341d6b798a3b2978fbf271c0e7b415a75454115a659bf48bbf33784a367ad", func := "loop.example/g00568/laws.FnExactCutStep", spec := "fnExactCutStep", unfollowed := true, recurses := true, apart := false, narrowed := true }
def FnExactCutStepUptoSaid : Prop := fnExactCutStepUptoRow.holds Try.pinned (OpenSpec.upto fnExactCutStepSpec)

end Rows
end Go.Proofs.Ytflbjjpkloeocab

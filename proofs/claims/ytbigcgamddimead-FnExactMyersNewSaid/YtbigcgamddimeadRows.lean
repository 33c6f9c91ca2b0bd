/-
  No cell of these rows narrows 'for every input' (looked for: loops, veiled, ifaces, maps, wideKeys, modest, calm, conditions, laid).
  DERIVED. THE GIVEN ROWS OF THIS SEAT. 6 by the template 'for every input the law returns true; each argument reads behind the call as it read before'; 0 by the template 'total and deterministic' (their statements: YtbigcgamddimeadTotals.lean).
  GIVEN WITH THE SEED: the statements are not yours to turn. If you find one false, say at which input.
  Laid BY PROGRAM, IN A SANDBOX (cutbox-rows.mjs): the forced cells as the released guide's own fill.sh prints them over the translation b7ee0c8b8e9c44ff… (all of the seat's roots in one cut). By AI agents, Wed Nov 11 2026. No macro, syntax, notation, axiom, sorry.
-/
import Derived.Test.YtbigcgamddimeadChecked
import GoSem.Claim
import GoSem.ClaimJoined
import GoSem.ClaimMapViews
import Derived.JoinedTies
import Derived.KernelRfl
namespace Go.Proofs.Ytbigcgamddimead
/- THE CELL 'sum', in the pinned program and in every row, IS THE sha256 OF THE DUMP (.gsa) THAT YtbigcgamddimeadProg.lean LOADS. Nothing in Lean hashes anything: it is a label: what it is worth is what the hold of that sum in a sandbox is worth. -/
noncomputable def Try.pinned : Pinned := { name := "ytbigcgamddimead", sum := "b7ee0c8b8e9c44ff8088b118de2decde68e53615f964a10b64bf75fbfcfe4f26", checked := Try.checked }
namespace Rows
def none {H : Type} : Left H := { results := [], args := [] }

/-- 'laws.FnExactFirstCol': WHATEVER THE INPUT: true; the input reads as it did. -/
def fnExactFirstColSpec : ChangeSpec := { name := "fnExactFirstCol", fn := fun _ => fun
  | [d] => { results := [.lit (.bool true)], args := [d] }
  | _ => none }
def fnExactFirstColRow : OpenClaim := { program := "ytbigcgamddimead", sum := "b7ee0c8b8e9c44ff8088b118de2decde68e53615f964a10b64bf75fbfcfe4f26", func := "loop.example/g00568/laws.FnExactFirstCol", spec := "fnExactFirstCol", apart := false }
def FnExactFirstColSaid : Prop := fnExactFirstColRow.holds Try.pinned (OpenSpec.ofChange fnExactFirstColSpec)

/-- ITS FALSE NEIGHBOUR: 'it returns false'. Refute it at one input. -/
def fnExactFirstColWrong : ChangeSpec := { name := "fnExactFirstCol", fn := fun _ => fun
  | [d] => { results := [.lit (.bool false)], args := [d] }
  | _ => none }
def FnExactFirstColWrongFalsely : Prop := fnExactFirstColRow.holds Try.pinned (OpenSpec.ofChange fnExactFirstColWrong)

/-- 'laws.FnExactNextCol': WHATEVER THE INPUT: true; the input reads as it did. -/
def fnExactNextColSpec : ChangeSpec := { name := "fnExactNextCol", fn := fun _ => fun
  | [d1, d2, d3] => { results := [.lit (.bool true)], args := [d1, d2, d3] }
  | _ => none }
def fnExactNextColRow : OpenClaim := { program := "ytbigcgamddimead", sum := "b7ee0c8b8e9c44ff8088b118de2decde68e53615f964a10b64bf75fbfcfe4f26", func := "loop.example/g00568/laws.FnExactNextCol", spec := "fnExactNextCol", apart := false }
def FnExactNextColSaid : Prop := fnExactNextColRow.holds Try.pinned (OpenSpec.ofChange fnExactNextColSpec)

/-- ITS FALSE NEIGHBOUR: 'it returns false'. Refute it at one input. -/
def fnExactNextColWrong : ChangeSpec := { name := "fnExactNextCol", fn := fun _ => fun
  | [d1, d2, d3] => { results := [.lit (.bool false)], args := [d1, d2, d3] }
  | _ => none }
def FnExactNextColWrongFalsely : Prop := fnExactNextColRow.holds Try.pinned (OpenSpec.ofChange fnExactNextColWrong)

/-- 'laws.FnExactColOk': WHATEVER THE INPUT: true; the input reads as it did. -/
def fnExactColOkSpec : ChangeSpec := { name := "fnExactColOk", fn := fun _ => fun
  | [d1, d2] => { results := [.lit (.bool true)], args := [d1, d2] }
  | _ => none }
def fnExactColOkRow : OpenClaim := { program := "ytbigcgamddimead", sum := "b7ee0c8b8e9c44ff8088b118de2decde68e53615f964a10b64bf75fbfcfe4f26", func := "loop.example/g00568/laws.FnExactColOk", spec := "fnExactColOk", apart := false }
def FnExactColOkSaid : Prop := fnExactColOkRow.holds Try.pinned (OpenSpec.ofChange fnExactColOkSpec)

/-- ITS FALSE NEIGHBOUR: 'it returns false'. Refute it at one input. -/
def fnExactColOkWrong : ChangeSpec := { name := "fnExactColOk", fn := fun _ => fun
  | [d1, d2] => { results := [.lit (.bool false)], args := [d1, d2] }
  | _ => none }
def FnExactColOkWrongFalsely : Prop := fnExactColOkRow.holds Try.pinned (OpenSpec.ofChange fnExactColOkWrong)

/-- 'laws.FnExactEndsOf': WHATEVER THE INPUT: true; the input reads as it did. -/
def fnExactEndsOfSpec : ChangeSpec := { name := "fnExactEndsOf", fn := fun _ => fun
  | [d1, d2] => { results := [.lit (.bool true)], args := [d1, d2] }
  | _ => none }
def fnExactEndsOfRow : OpenClaim := { program := "ytbigcgamddimead", sum := "b7ee0c8b8e9c44ff8088b118de2decde68e53615f964a10b64bf75fbfcfe4f26", func := "loop.example/g00568/laws.FnExactEndsOf", spec := "fnExactEndsOf", unfollowed := true, recurses := true, apart := false }
def FnExactEndsOfSaid : Prop := fnExactEndsOfRow.holds Try.pinned (OpenSpec.ofChange fnExactEndsOfSpec)

/-- ITS FALSE NEIGHBOUR: 'it returns false'. Refute it at one input. -/
def fnExactEndsOfWrong : ChangeSpec := { name := "fnExactEndsOf", fn := fun _ => fun
  | [d1, d2] => { results := [.lit (.bool false)], args := [d1, d2] }
  | _ => none }
def FnExactEndsOfWrongFalsely : Prop := fnExactEndsOfRow.holds Try.pinned (OpenSpec.ofChange fnExactEndsOfWrong)

/-- 'laws.FnExactMyersNew': WHATEVER THE INPUT: true; the input reads as it did. -/
def fnExactMyersNewSpec : ChangeSpec := { name := "fnExactMyersNew", fn := fun _ => fun
  | [d] => { results := [.lit (.bool true)], args := [d] }
  | _ => none }
def fnExactMyersNewRow : OpenClaim := { program := "ytbigcgamddimead", sum := "b7ee0c8b8e9c44ff8088b118de2decde68e53615f964a10b64bf75fbfcfe4f26", func := "loop.example/g00568/laws.FnExactMyersNew", spec := "fnExactMyersNew", apart := false }
def FnExactMyersNewSaid : Prop := fnExactMyersNewRow.holds Try.pinned (OpenSpec.ofChange fnExactMyersNewSpec)

/-- ITS FALSE NEIGHBOUR: 'it returns false'. Refute it at one input. -/
def fnExactMyersNewWrong : ChangeSpec := { name := "fnExactMyersNew", fn := fun _ => fun
  | [d] => { results := [.lit (.bool false)], args := [d] }
  | _ => none }
def FnExactMyersNewWrongFalsely : Prop := fnExactMyersNewRow.holds Try.pinned (OpenSpec.ofChange fnExactMyersNewWrong)

/-- 'laws.FnExactMyersStep': WHATEVER THE INPUT: true; the input reads as it did. -/
def fnExactMyersStepSpec : ChangeSpec := { name := "fnExactMyersStep", fn := fun _ => fun
  | [d1, d2, d3] => { results := [.lit (.bool true)], args := [d1, d2, d3] }
  | _ => none }
def fnExactMyersStepRow : OpenClaim := { program := "ytbigcgamddimead", sum := "b7ee0c8b8e9c44ff8088b118de2decde68e53615f964a10b64bf75fbfcfe4f26", func := "loop.example/g00568/laws.FnExactMyersStep", spec := "fnExactMyersStep", unfollowed := true, recurses := true, apart := false }
def FnExactMyersStepSaid : Prop := fnExactMyersStepRow.holds Try.pinned (OpenSpec.ofChange fnExactMyersStepSpec)

/-- ITS FALSE NEIGHBOUR: 'it returns false'. Refute it at one input. -/
def fnExactMyersStepWrong : ChangeSpec := { name := "fnExactMyersStep", fn := fun _ => fun
  | [d1, d2, d3] => { results := [.lit (.bool false)], args := [d1, d2, d3] }
  | _ => none }
def FnExactMyersStepWrongFalsely : Prop := fnExactMyersStepRow.holds Try.pinned (OpenSpec.ofChange fnExactMyersStepWrong)

/- THE SECOND FORM. 'bulk': how many values and letters a reading holds, each counted each time it is reached (what is shared counts as often as it is met; a slice's spare places count too). A statement '..UptoSaid' is the law's where the arguments, and the package variables that the reading takes, are together of bulk at most 1048576: NARROWER than '..Said'. Prove '..Said' where nothing that the law and all that it calls make is longer than what came in: it says more and counts as full. Else prove '..UptoSaid'. A law counts once. -/
mutual
def uptoBulk {H : Type} : DataW H → Nat
  | .lit (.string bytes) => bytes.length + 1
  | .lit _ => 1
  | .nil => 1
  | .ptr d => uptoBulk d + 1
  | .slice elems spare => uptoBulkAll elems + uptoBulkAll spare + 1
  | .agg parts => uptoBulkAll parts + 1
  | .iface _ d => uptoBulk d + 1
  | .map entries => uptoBulkEntries entries + 1
  | .held _ => 1
def uptoBulkAll {H : Type} : List (DataW H) → Nat
  | [] => 0
  | d :: r => uptoBulk d + uptoBulkAll r
def uptoBulkEntries {H : Type} : List (Lit × DataW H) → Nat
  | [] => 0
  | x :: r => uptoBulkEntry x + uptoBulkEntries r
def uptoBulkEntry {H : Type} : Lit × DataW H → Nat
  | (.string bytes, d) => bytes.length + uptoBulk d + 1
  | (_, d) => uptoBulk d + 1
 end
def uptoSmall : (H : Type) → List (DataW H) → Bool := fun _ ds => decide (uptoBulkAll ds ≤ 1048576)
def OpenSpec.upto (s : _root_.Go.ChangeSpec) : _root_.Go.OpenSpec := { _root_.Go.OpenSpec.ofChange s with cond := some uptoSmall }

/-- 'laws.FnExactFirstCol', WHERE WHAT IT READS IS OF BULK AT MOST 1048576: true; the input reads as it did. -/
def fnExactFirstColUptoRow : OpenClaim := { program := "ytbigcgamddimead", sum := "b7ee0c8b8e9c44ff8088b118de2decde68e53615f964a10b64bf75fbfcfe4f26", func := "loop.example/g00568/laws.FnExactFirstCol", spec := "fnExactFirstCol", apart := false, narrowed := true }
def FnExactFirstColUptoSaid : Prop := fnExactFirstColUptoRow.holds Try.pinned (OpenSpec.upto fnExactFirstColSpec)

/-- 'laws.FnExactNextCol', WHERE WHAT IT READS IS OF BULK AT MOST 1048576: true; the input reads as it did. -/
def fnExactNextColUptoRow : OpenClaim := { program := "ytbigcgamddimead", sum := "b7ee0c8b8e9c44ff8088b118de2decde68e53615f964a10b64bf75fbfcfe4f26", func := "loop.example/g00568/laws.FnExactNextCol", spec := "fnExactNextCol", apart := false, narrowed := true }
def FnExactNextColUptoSaid : Prop := fnExactNextColUptoRow.holds Try.pinned (OpenSpec.upto fnExactNextColSpec)

/-- 'laws.FnExactColOk', WHERE WHAT IT READS IS OF BULK AT MOST 1048576: true; the input reads as it did. -/
def fnExactColOkUptoRow : OpenClaim := { program := "ytbigcgamddimead", sum := "b7ee0c8b8e9c44ff8088b118de2decde68e53615f964a10b64bf75fbfcfe4f26", func := "loop.example/g00568/laws.FnExactColOk", spec := "fnExactColOk", apart := false, narrowed := true }
def FnExactColOkUptoSaid : Prop := fnExactColOkUptoRow.holds Try.pinned (OpenSpec.upto fnExactColOkSpec)

/-- 'laws.FnExactEndsOf', WHERE WHAT IT READS IS OF BULK AT MOST 1048576: true; the input reads as it did. -/
def fnExactEndsOfUptoRow : OpenClaim := { program := "ytbigcgamddimead", sum := "b7ee0c8b8e9c44ff8088b118de2decde68e53615f964a10b64bf75fbfcfe4f26", func := "loop.example/g00568/laws.FnExactEndsOf", spec := "fnExactEndsOf", unfollowed := true, recurses := true, apart := false, narrowed := true }
def FnExactEndsOfUptoSaid : Prop := fnExactEndsOfUptoRow.holds Try.pinned (OpenSpec.upto fnExactEndsOfSpec)

/-- 'laws.FnExactMyersNew', WHERE WHAT IT READS IS OF BULK AT MOST 1048576: true; the input reads as it did. -/
def fnExactMyersNewUptoRow : OpenClaim := { program := "ytbigcgamddimead", sum := "b7ee0c8b8e9c44ff8088b118de2decde68e53615f964a10b64bf75fbfcfe4f26", func := "loop.example/g00568/laws.FnExactMyersNew", spec := "fnExactMyersNew", apart := false, narrowed := true }
def FnExactMyersNewUptoSaid : Prop := fnExactMyersNewUptoRow.holds Try.pinned (OpenSpec.upto fnExactMyersNewSpec)

/-- 'laws.FnExactMyersStep', WHERE WHAT IT READS IS OF BULK AT MOST 1048576: true; the input reads as it did. -/
def fnExactMyersStepUptoRow : OpenClaim := { program := "ytbigcgamddimead", sum := "b7ee0c8b8e9c44ff8088b118de2decde68e53615f964a10b64bf75fbfcfe4f26", func := "loop.example/g00568/laws.FnExactMyersStep", spec := "fnExactMyersStep", unfollowed := true, recurses := true, apart := false, narrowed := true }
def FnExactMyersStepUptoSaid : Prop := fnExactMyersStepUptoRow.holds Try.pinned (OpenSpec.upto fnExactMyersStepSpec)

end Rows
end Go.Proofs.Ytbigcgamddimead

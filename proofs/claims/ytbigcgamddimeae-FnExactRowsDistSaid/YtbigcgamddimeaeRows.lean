/-
  No cell of these rows narrows 'for every input' (looked for: loops, veiled, ifaces, maps, wideKeys, modest, calm, conditions, laid).
  DERIVED. THE GIVEN ROWS OF THIS SEAT. 6 by the template 'for every input the law returns true; each argument reads behind the call as it read before'; 0 by the template 'total and deterministic' (their statements: YtbigcgamddimeaeTotals.lean).
  GIVEN WITH THE SEED: the statements are not yours to turn. If you find one false, say at which input.
  Laid BY PROGRAM, IN A SANDBOX (cutbox-rows.mjs): the forced cells as the released guide's own fill.sh prints them over the translation 25fa78e959d77f7b… (all of the seat's roots in one cut). By AI agents, Wed Nov 11 2026. No macro, syntax, notation, axiom, sorry.
-/
import Derived.Test.YtbigcgamddimeaeChecked
import GoSem.Claim
import GoSem.ClaimJoined
import GoSem.ClaimMapViews
import Derived.JoinedTies
import Derived.KernelRfl
namespace Go.Proofs.Ytbigcgamddimeae
/- THE CELL 'sum', in the pinned program and in every row, IS THE sha256 OF THE DUMP (.gsa) THAT YtbigcgamddimeaeProg.lean LOADS. Nothing in Lean hashes anything: it is a label: what it is worth is what the hold of that sum in a sandbox is worth. -/
noncomputable def Try.pinned : Pinned := { name := "ytbigcgamddimeae", sum := "25fa78e959d77f7b72621c7b671de5e0c234a93c30c86ae2b685baf3be1f7765", checked := Try.checked }
namespace Rows
def none {H : Type} : Left H := { results := [], args := [] }

/-- 'laws.FnExactMyersOk': WHATEVER THE INPUT: true; the input reads as it did. -/
def fnExactMyersOkSpec : ChangeSpec := { name := "fnExactMyersOk", fn := fun _ => fun
  | [d1, d2] => { results := [.lit (.bool true)], args := [d1, d2] }
  | _ => none }
def fnExactMyersOkRow : OpenClaim := { program := "ytbigcgamddimeae", sum := "25fa78e959d77f7b72621c7b671de5e0c234a93c30c86ae2b685baf3be1f7765", func := "loop.example/g00568/laws.FnExactMyersOk", spec := "fnExactMyersOk", apart := false }
def FnExactMyersOkSaid : Prop := fnExactMyersOkRow.holds Try.pinned (OpenSpec.ofChange fnExactMyersOkSpec)

/-- ITS FALSE NEIGHBOUR: 'it returns false'. Refute it at one input. -/
def fnExactMyersOkWrong : ChangeSpec := { name := "fnExactMyersOk", fn := fun _ => fun
  | [d1, d2] => { results := [.lit (.bool false)], args := [d1, d2] }
  | _ => none }
def FnExactMyersOkWrongFalsely : Prop := fnExactMyersOkRow.holds Try.pinned (OpenSpec.ofChange fnExactMyersOkWrong)

/-- 'laws.FnExactMyersCol': WHATEVER THE INPUT: true; the input reads as it did. -/
def fnExactMyersColSpec : ChangeSpec := { name := "fnExactMyersCol", fn := fun _ => fun
  | [d1, d2] => { results := [.lit (.bool true)], args := [d1, d2] }
  | _ => none }
def fnExactMyersColRow : OpenClaim := { program := "ytbigcgamddimeae", sum := "25fa78e959d77f7b72621c7b671de5e0c234a93c30c86ae2b685baf3be1f7765", func := "loop.example/g00568/laws.FnExactMyersCol", spec := "fnExactMyersCol", apart := false }
def FnExactMyersColSaid : Prop := fnExactMyersColRow.holds Try.pinned (OpenSpec.ofChange fnExactMyersColSpec)

/-- ITS FALSE NEIGHBOUR: 'it returns false'. Refute it at one input. -/
def fnExactMyersColWrong : ChangeSpec := { name := "fnExactMyersCol", fn := fun _ => fun
  | [d1, d2] => { results := [.lit (.bool false)], args := [d1, d2] }
  | _ => none }
def FnExactMyersColWrongFalsely : Prop := fnExactMyersColRow.holds Try.pinned (OpenSpec.ofChange fnExactMyersColWrong)

/-- 'laws.FnExactRowsNew': WHATEVER THE INPUT: true; the input reads as it did. -/
def fnExactRowsNewSpec : ChangeSpec := { name := "fnExactRowsNew", fn := fun _ => fun
  | [d] => { results := [.lit (.bool true)], args := [d] }
  | _ => none }
def fnExactRowsNewRow : OpenClaim := { program := "ytbigcgamddimeae", sum := "25fa78e959d77f7b72621c7b671de5e0c234a93c30c86ae2b685baf3be1f7765", func := "loop.example/g00568/laws.FnExactRowsNew", spec := "fnExactRowsNew", apart := false }
def FnExactRowsNewSaid : Prop := fnExactRowsNewRow.holds Try.pinned (OpenSpec.ofChange fnExactRowsNewSpec)

/-- ITS FALSE NEIGHBOUR: 'it returns false'. Refute it at one input. -/
def fnExactRowsNewWrong : ChangeSpec := { name := "fnExactRowsNew", fn := fun _ => fun
  | [d] => { results := [.lit (.bool false)], args := [d] }
  | _ => none }
def FnExactRowsNewWrongFalsely : Prop := fnExactRowsNewRow.holds Try.pinned (OpenSpec.ofChange fnExactRowsNewWrong)

/-- 'laws.FnExactRowsStep': WHATEVER THE INPUT: true; the input reads as it did. -/
def fnExactRowsStepSpec : ChangeSpec := { name := "fnExactRowsStep", fn := fun _ => fun
  | [d1, d2, d3] => { results := [.lit (.bool true)], args := [d1, d2, d3] }
  | _ => none }
def fnExactRowsStepRow : OpenClaim := { program := "ytbigcgamddimeae", sum := "25fa78e959d77f7b72621c7b671de5e0c234a93c30c86ae2b685baf3be1f7765", func := "loop.example/g00568/laws.FnExactRowsStep", spec := "fnExactRowsStep", unfollowed := true, recurses := true, apart := false }
def FnExactRowsStepSaid : Prop := fnExactRowsStepRow.holds Try.pinned (OpenSpec.ofChange fnExactRowsStepSpec)

/-- ITS FALSE NEIGHBOUR: 'it returns false'. Refute it at one input. -/
def fnExactRowsStepWrong : ChangeSpec := { name := "fnExactRowsStep", fn := fun _ => fun
  | [d1, d2, d3] => { results := [.lit (.bool false)], args := [d1, d2, d3] }
  | _ => none }
def FnExactRowsStepWrongFalsely : Prop := fnExactRowsStepRow.holds Try.pinned (OpenSpec.ofChange fnExactRowsStepWrong)

/-- 'laws.FnExactRowsOk': WHATEVER THE INPUT: true; the input reads as it did. -/
def fnExactRowsOkSpec : ChangeSpec := { name := "fnExactRowsOk", fn := fun _ => fun
  | [d1, d2] => { results := [.lit (.bool true)], args := [d1, d2] }
  | _ => none }
def fnExactRowsOkRow : OpenClaim := { program := "ytbigcgamddimeae", sum := "25fa78e959d77f7b72621c7b671de5e0c234a93c30c86ae2b685baf3be1f7765", func := "loop.example/g00568/laws.FnExactRowsOk", spec := "fnExactRowsOk", apart := false }
def FnExactRowsOkSaid : Prop := fnExactRowsOkRow.holds Try.pinned (OpenSpec.ofChange fnExactRowsOkSpec)

/-- ITS FALSE NEIGHBOUR: 'it returns false'. Refute it at one input. -/
def fnExactRowsOkWrong : ChangeSpec := { name := "fnExactRowsOk", fn := fun _ => fun
  | [d1, d2] => { results := [.lit (.bool false)], args := [d1, d2] }
  | _ => none }
def FnExactRowsOkWrongFalsely : Prop := fnExactRowsOkRow.holds Try.pinned (OpenSpec.ofChange fnExactRowsOkWrong)

/-- 'laws.FnExactRowsDist': WHATEVER THE INPUT: true; the input reads as it did. -/
def fnExactRowsDistSpec : ChangeSpec := { name := "fnExactRowsDist", fn := fun _ => fun
  | [d1, d2] => { results := [.lit (.bool true)], args := [d1, d2] }
  | _ => none }
def fnExactRowsDistRow : OpenClaim := { program := "ytbigcgamddimeae", sum := "25fa78e959d77f7b72621c7b671de5e0c234a93c30c86ae2b685baf3be1f7765", func := "loop.example/g00568/laws.FnExactRowsDist", spec := "fnExactRowsDist", unfollowed := true, recurses := true, apart := false }
def FnExactRowsDistSaid : Prop := fnExactRowsDistRow.holds Try.pinned (OpenSpec.ofChange fnExactRowsDistSpec)

/-- ITS FALSE NEIGHBOUR: 'it returns false'. Refute it at one input. -/
def fnExactRowsDistWrong : ChangeSpec := { name := "fnExactRowsDist", fn := fun _ => fun
  | [d1, d2] => { results := [.lit (.bool false)], args := [d1, d2] }
  | _ => none }
def FnExactRowsDistWrongFalsely : Prop := fnExactRowsDistRow.holds Try.pinned (OpenSpec.ofChange fnExactRowsDistWrong)

/- THE SECOND FORM. 'bulk': how many values and letters a reading holds, each counted each time it is reached (what is shared counts as often as it is met; a slice's spare places count too). A statement '..UptoSaid' is the law's where the arguments, and the package variables that the reading takes, are together of bulk at most 1048576: NARROWER than '..Said'. Prove '..Said' where nothing that the law and all that it calls make is longer than what came in: it says more and counts as full. Else prove '..UptoSaid'. A law counts once. -/
mutual
def uptoBulk {H : Type} : DataW H → Nat
  | .lit (.string bytes) => bytes.length + 1
  | .lit _ => 1
  | .nil => 1
  | .ptr d => uptoBulk d + 1
  | .slice elems spare => uptoBulkAll elems + uptoBulkAll spare + 1
  | .agg parts => uptoBulkAll parts + 1
  | .iface _ d => uptoBulk d + 1
  | .map entries => uptoBulkEntries entries + 1
  | .held _ => 1
def uptoBulkAll {H : Type} : List (DataW H) → Nat
  | [] => 0
  | d :: r => uptoBulk d + uptoBulkAll r
def uptoBulkEntries {H : Type} : List (Lit × DataW H) → Nat
  | [] => 0
  | x :: r => uptoBulkEntry x + uptoBulkEntries r
def uptoBulkEntry {H : Type} : Lit × DataW H → Nat
  | (.string bytes, d) => bytes.length + uptoBulk d + 1
  | (_, d) => uptoBulk d + 1
 end
def uptoSmall : (H : Type) → List (DataW H) → Bool := fun _ ds => decide (uptoBulkAll ds ≤ 1048576)
def OpenSpec.upto (s : _root_.Go.ChangeSpec) : _root_.Go.OpenSpec := { _root_.Go.OpenSpec.ofChange s with cond := some uptoSmall }

/-- 'laws.FnExactMyersOk', WHERE WHAT IT READS IS OF BULK AT MOST 1048576: true; the input reads as it did. -/
def fnExactMyersOkUptoRow : OpenClaim := { program := "ytbigcgamddimeae", sum := "25fa78e959d77f7b72621c7b671de5e0c234a93c30c86ae2b685baf3be1f7765", func := "loop.example/g00568/laws.FnExactMyersOk", spec := "fnExactMyersOk", apart := false, narrowed := true }
def FnExactMyersOkUptoSaid : Prop := fnExactMyersOkUptoRow.holds Try.pinned (OpenSpec.upto fnExactMyersOkSpec)

/-- 'laws.FnExactMyersCol', WHERE WHAT IT READS IS OF BULK AT MOST 1048576: true; the input reads as it did. -/
def fnExactMyersColUptoRow : OpenClaim := { program := "ytbigcgamddimeae", sum := "25fa78e959d77f7b72621c7b671de5e0c234a93c30c86ae2b685baf3be1f7765", func := "loop.example/g00568/laws.FnExactMyersCol", spec := "fnExactMyersCol", apart := false, narrowed := true }
def FnExactMyersColUptoSaid : Prop := fnExactMyersColUptoRow.holds Try.pinned (OpenSpec.upto fnExactMyersColSpec)

/-- 'laws.FnExactRowsNew', WHERE WHAT IT READS IS OF BULK AT MOST 1048576: true; the input reads as it did. -/
def fnExactRowsNewUptoRow : OpenClaim := { program := "ytbigcgamddimeae", sum := "25fa78e959d77f7b72621c7b671de5e0c234a93c30c86ae2b685baf3be1f7765", func := "loop.example/g00568/laws.FnExactRowsNew", spec := "fnExactRowsNew", apart := false, narrowed := true }
def FnExactRowsNewUptoSaid : Prop := fnExactRowsNewUptoRow.holds Try.pinned (OpenSpec.upto fnExactRowsNewSpec)

/-- 'laws.FnExactRowsStep', WHERE WHAT IT READS IS OF BULK AT MOST 1048576: true; the input reads as it did. -/
def fnExactRowsStepUptoRow : OpenClaim := { program := "ytbigcgamddimeae", sum := "25fa78e959d77f7b72621c7b671de5e0c234a93c30c86ae2b685baf3be1f7765", func := "loop.example/g00568/laws.FnExactRowsStep", spec := "fnExactRowsStep", unfollowed := true, recurses := true, apart := false, narrowed := true }
def FnExactRowsStepUptoSaid : Prop := fnExactRowsStepUptoRow.holds Try.pinned (OpenSpec.upto fnExactRowsStepSpec)

/-- 'laws.FnExactRowsOk', WHERE WHAT IT READS IS OF BULK AT MOST 1048576: true; the input reads as it did. -/
def fnExactRowsOkUptoRow : OpenClaim := { program := "ytbigcgamddimeae", sum := "25fa78e959d77f7b72621c7b671de5e0c234a93c30c86ae2b685baf3be1f7765", func := "loop.example/g00568/laws.FnExactRowsOk", spec := "fnExactRowsOk", apart := false, narrowed := true }
def FnExactRowsOkUptoSaid : Prop := fnExactRowsOkUptoRow.holds Try.pinned (OpenSpec.upto fnExactRowsOkSpec)

/-- 'laws.FnExactRowsDist', WHERE WHAT IT READS IS OF BULK AT MOST 1048576: true; the input reads as it did. -/
def fnExactRowsDistUptoRow : OpenClaim := { program := "ytbigcgamddimeae", sum := "25fa78e959d77f7b72621c7b671de5e0c234a93c30c86ae2b685baf3be1f7765", func := "loop.example/g00568/laws.FnExactRowsDist", spec := "fnExactRowsDist", unfollowed := true, recurses := true, apart := false, narrowed := true }
def FnExactRowsDistUptoSaid : Prop := fnExactRowsDistUptoRow.holds Try.pinned (OpenSpec.upto fnExactRowsDistSpec)

end Rows
end Go.Proofs.Ytbigcgamddimeae

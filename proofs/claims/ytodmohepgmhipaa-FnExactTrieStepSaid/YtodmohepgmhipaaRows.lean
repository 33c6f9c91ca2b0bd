/-
  No cell of these rows narrows 'for every input' (looked for: loops, veiled, ifaces, maps, wideKeys, modest, calm, conditions, laid).
  DERIVED. THE GIVEN ROWS OF THIS SEAT. 6 by the template 'for every input the law returns true; each argument reads behind the call as it read before'; 0 by the template 'total and deterministic' (their statements: YtodmohepgmhipaaTotals.lean).
  GIVEN WITH THE SEED: the statements are not yours to turn. If you find one false, say at which input.
  Laid BY PROGRAM, IN A SANDBOX (cutbox-rows.mjs): the forced cells as the released guide's own fill.sh prints them over the translation 835c147b681ab98d… (all of the seat's roots in one cut). By AI agents, Wed Nov 11 2026. No macro, syntax, notation, axiom, sorry.
-/
import Derived.Test.YtodmohepgmhipaaChecked
import GoSem.Claim
import GoSem.ClaimJoined
import GoSem.ClaimMapViews
import Derived.JoinedTies
import Derived.KernelRfl
namespace Go.Proofs.Ytodmohepgmhipaa
/- THE CELL 'sum', in the pinned program and in every row, IS THE sha256 OF THE DUMP (.gsa) THAT YtodmohepgmhipaaProg.lean LOADS. Nothing in Lean hashes anything: it is a label: what it is worth is what the hold of that sum in a sandbox is worth. -/
noncomputable def Try.pinned : Pinned := { name := "ytodmohepgmhipaa", sum := "835c147b681ab98d56af9921570a2a4f9976609272aaa8b1cd6227644d144b92", checked := Try.checked }
namespace Rows
def none {H : Type} : Left H := { results := [], args := [] }

/-- 'laws.FnExactReadDict': WHATEVER THE INPUT: true; the input reads as it did. -/
def fnExactReadDictSpec : ChangeSpec := { name := "fnExactReadDict", fn := fun _ => fun
  | [d] => { results := [.lit (.bool true)], args := [d] }
  | _ => none }
def fnExactReadDictRow : OpenClaim := { program := "ytodmohepgmhipaa", sum := "835c147b681ab98d56af9921570a2a4f9976609272aaa8b1cd6227644d144b92", func := "loop.example/g00568/laws.FnExactReadDict", spec := "fnExactReadDict", inPlace := ["internal/bytealg.IndexByteString", "internal/bytealg.IndexString"], unfollowed := true, recurses := true, named := ["internal/bytealg.MaxLen"], apart := false }
def FnExactReadDictSaid : Prop := fnExactReadDictRow.holds Try.pinned (OpenSpec.ofChange fnExactReadDictSpec)

/-- ITS FALSE NEIGHBOUR: 'it returns false'. Refute it at one input. -/
def fnExactReadDictWrong : ChangeSpec := { name := "fnExactReadDict", fn := fun _ => fun
  | [d] => { results := [.lit (.bool false)], args := [d] }
  | _ => none }
def FnExactReadDictWrongFalsely : Prop := fnExactReadDictRow.holds Try.pinned (OpenSpec.ofChange fnExactReadDictWrong)

/-- 'laws.FnExactTrieStep': WHATEVER THE INPUT: true; the input reads as it did. -/
def fnExactTrieStepSpec : ChangeSpec := { name := "fnExactTrieStep", fn := fun _ => fun
  | [d1, d2, d3] => { results := [.lit (.bool true)], args := [d1, d2, d3] }
  | _ => none }
def fnExactTrieStepRow : OpenClaim := { program := "ytodmohepgmhipaa", sum := "835c147b681ab98d56af9921570a2a4f9976609272aaa8b1cd6227644d144b92", func := "loop.example/g00568/laws.FnExactTrieStep", spec := "fnExactTrieStep", unfollowed := true, recurses := true, apart := false }
def FnExactTrieStepSaid : Prop := fnExactTrieStepRow.holds Try.pinned (OpenSpec.ofChange fnExactTrieStepSpec)

/-- ITS FALSE NEIGHBOUR: 'it returns false'. Refute it at one input. -/
def fnExactTrieStepWrong : ChangeSpec := { name := "fnExactTrieStep", fn := fun _ => fun
  | [d1, d2, d3] => { results := [.lit (.bool false)], args := [d1, d2, d3] }
  | _ => none }
def FnExactTrieStepWrongFalsely : Prop := fnExactTrieStepRow.holds Try.pinned (OpenSpec.ofChange fnExactTrieStepWrong)

/-- 'laws.FnExactScanAll': WHATEVER THE INPUT: true; the input reads as it did. -/
def fnExactScanAllSpec : ChangeSpec := { name := "fnExactScanAll", fn := fun _ => fun
  | [d1, d2] => { results := [.lit (.bool true)], args := [d1, d2] }
  | _ => none }
def fnExactScanAllRow : OpenClaim := { program := "ytodmohepgmhipaa", sum := "835c147b681ab98d56af9921570a2a4f9976609272aaa8b1cd6227644d144b92", func := "loop.example/g00568/laws.FnExactScanAll", spec := "fnExactScanAll", unfollowed := true, recurses := true, apart := false }
def FnExactScanAllSaid : Prop := fnExactScanAllRow.holds Try.pinned (OpenSpec.ofChange fnExactScanAllSpec)

/-- ITS FALSE NEIGHBOUR: 'it returns false'. Refute it at one input. -/
def fnExactScanAllWrong : ChangeSpec := { name := "fnExactScanAll", fn := fun _ => fun
  | [d1, d2] => { results := [.lit (.bool false)], args := [d1, d2] }
  | _ => none }
def FnExactScanAllWrongFalsely : Prop := fnExactScanAllRow.holds Try.pinned (OpenSpec.ofChange fnExactScanAllWrong)

/-- 'laws.FnExactDrain': WHATEVER THE INPUT: true; the input reads as it did. -/
def fnExactDrainSpec : ChangeSpec := { name := "fnExactDrain", fn := fun _ => fun
  | [d1, d2] => { results := [.lit (.bool true)], args := [d1, d2] }
  | _ => none }
def fnExactDrainRow : OpenClaim := { program := "ytodmohepgmhipaa", sum := "835c147b681ab98d56af9921570a2a4f9976609272aaa8b1cd6227644d144b92", func := "loop.example/g00568/laws.FnExactDrain", spec := "fnExactDrain", unfollowed := true, recurses := true, apart := false }
def FnExactDrainSaid : Prop := fnExactDrainRow.holds Try.pinned (OpenSpec.ofChange fnExactDrainSpec)

/-- ITS FALSE NEIGHBOUR: 'it returns false'. Refute it at one input. -/
def fnExactDrainWrong : ChangeSpec := { name := "fnExactDrain", fn := fun _ => fun
  | [d1, d2] => { results := [.lit (.bool false)], args := [d1, d2] }
  | _ => none }
def FnExactDrainWrongFalsely : Prop := fnExactDrainRow.holds Try.pinned (OpenSpec.ofChange fnExactDrainWrong)

/-- 'laws.FnExactDfaOk': WHATEVER THE INPUT: true; the input reads as it did. -/
def fnExactDfaOkSpec : ChangeSpec := { name := "fnExactDfaOk", fn := fun _ => fun
  | [d] => { results := [.lit (.bool true)], args := [d] }
  | _ => none }
def fnExactDfaOkRow : OpenClaim := { program := "ytodmohepgmhipaa", sum := "835c147b681ab98d56af9921570a2a4f9976609272aaa8b1cd6227644d144b92", func := "loop.example/g00568/laws.FnExactDfaOk", spec := "fnExactDfaOk", recurses := true, apart := false }
def FnExactDfaOkSaid : Prop := fnExactDfaOkRow.holds Try.pinned (OpenSpec.ofChange fnExactDfaOkSpec)

/-- ITS FALSE NEIGHBOUR: 'it returns false'. Refute it at one input. -/
def fnExactDfaOkWrong : ChangeSpec := { name := "fnExactDfaOk", fn := fun _ => fun
  | [d] => { results := [.lit (.bool false)], args := [d] }
  | _ => none }
def FnExactDfaOkWrongFalsely : Prop := fnExactDfaOkRow.holds Try.pinned (OpenSpec.ofChange fnExactDfaOkWrong)

/-- 'laws.FnExactDfaRun': WHATEVER THE INPUT: true; the input reads as it did. -/
def fnExactDfaRunSpec : ChangeSpec := { name := "fnExactDfaRun", fn := fun _ => fun
  | [d1, d2] => { results := [.lit (.bool true)], args := [d1, d2] }
  | _ => none }
def fnExactDfaRunRow : OpenClaim := { program := "ytodmohepgmhipaa", sum := "835c147b681ab98d56af9921570a2a4f9976609272aaa8b1cd6227644d144b92", func := "loop.example/g00568/laws.FnExactDfaRun", spec := "fnExactDfaRun", inPlace := ["internal/bytealg.IndexByteString"], recurses := true, apart := false }
def FnExactDfaRunSaid : Prop := fnExactDfaRunRow.holds Try.pinned (OpenSpec.ofChange fnExactDfaRunSpec)

/-- ITS FALSE NEIGHBOUR: 'it returns false'. Refute it at one input. -/
def fnExactDfaRunWrong : ChangeSpec := { name := "fnExactDfaRun", fn := fun _ => fun
  | [d1, d2] => { results := [.lit (.bool false)], args := [d1, d2] }
  | _ => none }
def FnExactDfaRunWrongFalsely : Prop := fnExactDfaRunRow.holds Try.pinned (OpenSpec.ofChange fnExactDfaRunWrong)

/- THE SECOND FORM. 'bulk': how many values and letters a reading holds, each counted each time it is reached (what is shared counts as often as it is met; a slice's spare places count too). A statement '..UptoSaid' is the law's where the arguments, and the package variables that the reading takes, are together of bulk at most 1048576: NARROWER than '..Said'. Prove '..Said' where nothing that the law and all that it calls make is longer than what came in: it says more and counts as full. Else prove '..UptoSaid'. A law counts once. -/
mutual
def uptoBulk {H : Type} : DataW H → Nat
  | .lit (.string bytes) => bytes.length + 1
  | .lit _ => 1
  | .nil => 1
  | .ptr d => uptoBulk d + 1
  | .slice elems spare => uptoBulkAll elems + uptoBulkAll spare + 1
  | .agg parts => uptoBulkAll parts + 1
  | .iface _ d => uptoBulk d + 1
  | .map entries => uptoBulkEntries entries + 1
  | .held _ => 1
def uptoBulkAll {H : Type} : List (DataW H) → Nat
  | [] => 0
  | d :: r => uptoBulk d + uptoBulkAll r
def uptoBulkEntries {H : Type} : List (Lit × DataW H) → Nat
  | [] => 0
  | x :: r => uptoBulkEntry x + uptoBulkEntries r
def uptoBulkEntry {H : Type} : Lit × DataW H → Nat
  | (.string bytes, d) => bytes.length + uptoBulk d + 1
  | (_, d) => uptoBulk d + 1
 end
def uptoSmall : (H : Type) → List (DataW H) → Bool := fun _ ds => decide (uptoBulkAll ds ≤ 1048576)
def OpenSpec.upto (s : _root_.Go.ChangeSpec) : _root_.Go.OpenSpec := { _root_.Go.OpenSpec.ofChange s with cond := some uptoSmall }

/-- 'laws.FnExactReadDict', WHERE WHAT IT READS IS OF BULK AT MOST 1048576: true; the input reads as it did. -/
def fnExactReadDictUptoRow : OpenClaim := { program := "ytodmohepgmhipaa", sum := "835c147b681ab98d56af9921570a2a4f9976609272aaa8b1cd6227644d144b92", func := "loop.example/g00568/laws.FnExactReadDict", spec := "fnExactReadDict", inPlace := ["internal/bytealg.IndexByteString", "internal/bytealg.IndexString"], unfollowed := true, recurses := true, named := ["internal/bytealg.MaxLen"], apart := false, narrowed := true }
def FnExactReadDictUptoSaid : Prop := fnExactReadDictUptoRow.holds Try.pinned (OpenSpec.upto fnExactReadDictSpec)

/-- 'laws.FnExactTrieStep', WHERE WHAT IT READS IS OF BULK AT MOST 1048576: true; the input reads as it did. -/
def fnExactTrieStepUptoRow : OpenClaim := { program := "ytodmohepgmhipaa", sum := "835c147b681ab98d56af9921570a2a4f9976609272aaa8b1cd6227644d144b92", func := "loop.example/g00568/laws.FnExactTrieStep", spec := "fnExactTrieStep", unfollowed := true, recurses := true, apart := false, narrowed := true }
def FnExactTrieStepUptoSaid : Prop := fnExactTrieStepUptoRow.holds Try.pinned (OpenSpec.upto fnExactTrieStepSpec)

/-- 'laws.FnExactScanAll', WHERE WHAT IT READS IS OF BULK AT MOST 1048576: true; the input reads as it did. -/
def fnExactScanAllUptoRow : OpenClaim := { program := "ytodmohepgmhipaa", sum := "835c147b681ab98d56af9921570a2a4f9976609272aaa8b1cd6227644d144b92", func := "loop.example/g00568/laws.FnExactScanAll", spec := "fnExactScanAll", unfollowed := true, recurses := true, apart := false, narrowed := true }
def FnExactScanAllUptoSaid : Prop := fnExactScanAllUptoRow.holds Try.pinned (OpenSpec.upto fnExactScanAllSpec)

/-- 'laws.FnExactDrain', WHERE WHAT IT READS IS OF BULK AT MOST 1048576: true; the input reads as it did. -/
def fnExactDrainUptoRow : OpenClaim := { program := "ytodmohepgmhipaa", sum := "835c147b681ab98d56af9921570a2a4f9976609272aaa8b1cd6227644d144b92", func := "loop.example/g00568/laws.FnExactDrain", spec := "fnExactDrain", unfollowed := true, recurses := true, apart := false, narrowed := true }
def FnExactDrainUptoSaid : Prop := fnExactDrainUptoRow.holds Try.pinned (OpenSpec.upto fnExactDrainSpec)

/-- 'laws.FnExactDfaOk', WHERE WHAT IT READS IS OF BULK AT MOST 1048576: true; the input reads as it did. -/
def fnExactDfaOkUptoRow : OpenClaim := { program := "ytodmohepgmhipaa", sum := "835c147b681ab98d56af9921570a2a4f9976609272aaa8b1cd6227644d144b92", func := "loop.example/g00568/laws.FnExactDfaOk", spec := "fnExactDfaOk", recurses := true, apart := false, narrowed := true }
def FnExactDfaOkUptoSaid : Prop := fnExactDfaOkUptoRow.holds Try.pinned (OpenSpec.upto fnExactDfaOkSpec)

/-- 'laws.FnExactDfaRun', WHERE WHAT IT READS IS OF BULK AT MOST 1048576: true; the input reads as it did. -/
def fnExactDfaRunUptoRow : OpenClaim := { program := "ytodmohepgmhipaa", sum := "835c147b681ab98d56af9921570a2a4f9976609272aaa8b1cd6227644d144b92", func := "loop.example/g00568/laws.FnExactDfaRun", spec := "fnExactDfaRun", inPlace := ["internal/bytealg.IndexByteString"], recurses := true, apart := false, narrowed := true }
def FnExactDfaRunUptoSaid : Prop := fnExactDfaRunUptoRow.holds Try.pinned (OpenSpec.upto fnExactDfaRunSpec)

end Rows
end Go.Proofs.Ytodmohepgmhipaa

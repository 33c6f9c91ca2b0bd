/-
  No cell of these rows narrows 'for every input' (looked for: loops, veiled, ifaces, maps, wideKeys, modest, calm, conditions, laid).
  DERIVED. THE GIVEN ROWS OF THIS SEAT. 4 by the template 'for every input the law returns true; each argument reads behind the call as it read before'; 0 by the template 'total and deterministic' (their statements: YtglldmfhjipacabTotals.lean).
  GIVEN WITH THE SEED: the statements are not yours to turn. If you find one false, say at which input.
  Laid BY PROGRAM, IN A SANDBOX (cutbox-rows.mjs): the forced cells as the released guide's own fill.sh prints them over the translation 5f7c41f556f93384… (all of the seat's roots in one cut). By AI agents, Wed Nov 11 2026. No macro, syntax, notation, axiom, sorry.
-/
import Derived.Test.YtglldmfhjipacabChecked
import GoSem.Claim
import GoSem.ClaimJoined
import GoSem.ClaimMapViews
import Derived.JoinedTies
import Derived.KernelRfl
namespace Go.Proofs.Ytglldmfhjipacab
/- THE CELL 'sum', in the pinned program and in every row, IS THE sha256 OF THE DUMP (.gsa) THAT YtglldmfhjipacabProg.lean LOADS. Nothing in Lean hashes anything: it is a label: what it is worth is what the hold of that sum in a sandbox is worth. -/
noncomputable def Try.pinned : Pinned := { name := "ytglldmfhjipacab", sum := "5f7c41f556f9338417f589738f517762909a1fef9c9a472dc67fe0ae9fa04acc", checked := Try.checked }
namespace Rows
def none {H : Type} : Left H := { results := [], args := [] }

/-- 'laws.FnExactTrieHits': WHATEVER THE INPUT: true; the input reads as it did. -/
def fnExactTrieHitsSpec : ChangeSpec := { name := "fnExactTrieHits", fn := fun _ => fun
  | [d1, d2] => { results := [.lit (.bool true)], args := [d1, d2] }
  | _ => none }
def fnExactTrieHitsRow : OpenClaim := { program := "ytglldmfhjipacab", sum := "5f7c41f556f9338417f589738f517762909a1fef9c9a472dc67fe0ae9fa04acc", func := "loop.example/g00568/laws.FnExactTrieHits", spec := "fnExactTrieHits", apart := false }
def FnExactTrieHitsSaid : Prop := fnExactTrieHitsRow.holds Try.pinned (OpenSpec.ofChange fnExactTrieHitsSpec)

/-- ITS FALSE NEIGHBOUR: 'it returns false'. Refute it at one input. -/
def fnExactTrieHitsWrong : ChangeSpec := { name := "fnExactTrieHits", fn := fun _ => fun
  | [d1, d2] => { results := [.lit (.bool false)], args := [d1, d2] }
  | _ => none }
def FnExactTrieHitsWrongFalsely : Prop := fnExactTrieHitsRow.holds Try.pinned (OpenSpec.ofChange fnExactTrieHitsWrong)

/-- 'laws.FnExactReadDict': WHATEVER THE INPUT: true; the input reads as it did. -/
def fnExactReadDictSpec : ChangeSpec := { name := "fnExactReadDict", fn := fun _ => fun
  | [d] => { results := [.lit (.bool true)], args := [d] }
  | _ => none }
def fnExactReadDictRow : OpenClaim := { program := "ytglldmfhjipacab", sum := "5f7c41f556f9338417f589738f517762909a1fef9c9a472dc67fe0ae9fa04acc", func := "loop.example/g00568/laws.FnExactReadDict", spec := "fnExactReadDict", inPlace := ["internal/bytealg.IndexByteString", "internal/bytealg.IndexString"], unfollowed := true, recurses := true, named := ["internal/bytealg.MaxLen"], apart := false }
def FnExactReadDictSaid : Prop := fnExactReadDictRow.holds Try.pinned (OpenSpec.ofChange fnExactReadDictSpec)

/-- ITS FALSE NEIGHBOUR: 'it returns false'. Refute it at one input. -/
def fnExactReadDictWrong : ChangeSpec := { name := "fnExactReadDict", fn := fun _ => fun
  | [d] => { results := [.lit (.bool false)], args := [d] }
  | _ => none }
def FnExactReadDictWrongFalsely : Prop := fnExactReadDictRow.holds Try.pinned (OpenSpec.ofChange fnExactReadDictWrong)

/-- 'laws.FnExactScanAll': WHATEVER THE INPUT: true; the input reads as it did. -/
def fnExactScanAllSpec : ChangeSpec := { name := "fnExactScanAll", fn := fun _ => fun
  | [d1, d2] => { results := [.lit (.bool true)], args := [d1, d2] }
  | _ => none }
def fnExactScanAllRow : OpenClaim := { program := "ytglldmfhjipacab", sum := "5f7c41f556f9338417f589738f517762909a1fef9c9a472dc67fe0ae9fa04acc", func := "loop.example/g00568/laws.FnExactScanAll", spec := "fnExactScanAll", unfollowed := true, recurses := true, apart := false }
def FnExactScanAllSaid : Prop := fnExactScanAllRow.holds Try.pinned (OpenSpec.ofChange fnExactScanAllSpec)

/-- ITS FALSE NEIGHBOUR: 'it returns false'. Refute it at one input. -/
def fnExactScanAllWrong : ChangeSpec := { name := "fnExactScanAll", fn := fun _ => fun
  | [d1, d2] => { results := [.lit (.bool false)], args := [d1, d2] }
  | _ => none }
def FnExactScanAllWrongFalsely : Prop := fnExactScanAllRow.holds Try.pinned (OpenSpec.ofChange fnExactScanAllWrong)

/-- 'laws.FnExactPlanOk': WHATEVER THE INPUT: true; the input reads as it did. -/
def fnExactPlanOkSpec : ChangeSpec := { name := "fnExactPlanOk", fn := fun _ => fun
  | [d] => { results := [.lit (.bool true)], args := [d] }
  | _ => none }
def fnExactPlanOkRow : OpenClaim := { program := "ytglldmfhjipacab", sum := "5f7c41f556f9338417f589738f517762909a1fef9c9a472dc67fe0ae9fa04acc", func := "loop.example/g00568/laws.FnExactPlanOk", spec := "fnExactPlanOk", unfollowed := true, recurses := true, apart := false }
def FnExactPlanOkSaid : Prop := fnExactPlanOkRow.holds Try.pinned (OpenSpec.ofChange fnExactPlanOkSpec)

/-- ITS FALSE NEIGHBOUR: 'it returns false'. Refute it at one input. -/
def fnExactPlanOkWrong : ChangeSpec := { name := "fnExactPlanOk", fn := fun _ => fun
  | [d] => { results := [.lit (.bool false)], args := [d] }
  | _ => none }
def FnExactPlanOkWrongFalsely : Prop := fnExactPlanOkRow.holds Try.pinned (OpenSpec.ofChange fnExactPlanOkWrong)

/- THE SECOND FORM. 'bulk': how many values and letters a reading holds, each counted each time it is reached (what is shared counts as often as it is met; a slice's spare places count too). A statement '..UptoSaid' is the law's where the arguments, and the package variables that the reading takes, are together of bulk at most 1048576: NARROWER than '..Said'. Prove '..Said' where nothing that the law and all that it calls make is longer than what came in: it says more and counts as full. Else prove '..UptoSaid'. A law counts once. -/
mutual
def uptoBulk {H : Type} : DataW H → Nat
  | .lit (.string bytes) => bytes.length + 1
  | .lit _ => 1
  | .nil => 1
  | .ptr d => uptoBulk d + 1
  | .slice elems spare => uptoBulkAll elems + uptoBulkAll spare + 1
  | .agg parts => uptoBulkAll parts + 1
  | .iface _ d => uptoBulk d + 1
  | .map entries => uptoBulkEntries entries + 1
  | .held _ => 1
def uptoBulkAll {H : Type} : List (DataW H) → Nat
  | [] => 0
  | d :: r => uptoBulk d + uptoBulkAll r
def uptoBulkEntries {H : Type} : List (Lit × DataW H) → Nat
  | [] => 0
  | x :: r => uptoBulkEntry x + uptoBulkEntries r
def uptoBulkEntry {H : Type} : Lit × DataW H → Nat
  | (.string bytes, d) => bytes.length + uptoBulk d + 1
  | (_, d) => uptoBulk d + 1
 end
def uptoSmall : (H : Type) → List (DataW H) → Bool := fun _ ds => decide (uptoBulkAll ds ≤ 1048576)
def OpenSpec.upto (s : _root_.Go.ChangeSpec) : _root_.Go.OpenSpec := { _root_.Go.OpenSpec.ofChange s with cond := some uptoSmall }

/-- 'laws.FnExactTrieHits', WHERE WHAT IT READS IS OF BULK AT MOST 1048576: true; the input reads as it did. -/
def fnExactTrieHitsUptoRow : OpenClaim := { program := "ytglldmfhjipacab", sum := "5f7c41f556f9338417f589738f517762909a1fef9c9a472dc67fe0ae9fa04acc", func := "loop.example/g00568/laws.FnExactTrieHits", spec := "fnExactTrieHits", apart := false, narrowed := true }
def FnExactTrieHitsUptoSaid : Prop := fnExactTrieHitsUptoRow.holds Try.pinned (OpenSpec.upto fnExactTrieHitsSpec)

/-- 'laws.FnExactReadDict', WHERE WHAT IT READS IS OF BULK AT MOST 1048576: true; the input reads as it did. -/
def fnExactReadDictUptoRow : OpenClaim := { program := "ytglldmfhjipacab", sum := "5f7c41f556f9338417f589738f517762909a1fef9c9a472dc67fe0ae9fa04acc", func := "loop.example/g00568/laws.FnExactReadDict", spec := "fnExactReadDict", inPlace := ["internal/bytealg.IndexByteString", "internal/bytealg.IndexString"], unfollowed := true, recurses := true, named := ["internal/bytealg.MaxLen"], apart := false, narrowed := true }
def FnExactReadDictUptoSaid : Prop := fnExactReadDictUptoRow.holds Try.pinned (OpenSpec.upto fnExactReadDictSpec)

/-- 'laws.FnExactScanAll', WHERE WHAT IT READS IS OF BULK AT MOST 1048576: true; the input reads as it did. -/
def fnExactScanAllUptoRow : OpenClaim := { program := "ytglldmfhjipacab", sum := "5f7c41f556f9338417f589738f517762909a1fef9c9a472dc67fe0ae9fa04acc", func := "loop.example/g00568/laws.FnExactScanAll", spec := "fnExactScanAll", unfollowed := true, recurses := true, apart := false, narrowed := true }
def FnExactScanAllUptoSaid : Prop := fnExactScanAllUptoRow.holds Try.pinned (OpenSpec.upto fnExactScanAllSpec)

/-- 'laws.FnExactPlanOk', WHERE WHAT IT READS IS OF BULK AT MOST 1048576: true; the input reads as it did. -/
def fnExactPlanOkUptoRow : OpenClaim := { program := "ytglldmfhjipacab", sum := "5f7c41f556f9338417f589738f517762909a1fef9c9a472dc67fe0ae9fa04acc", func := "loop.example/g00568/laws.FnExactPlanOk", spec := "fnExactPlanOk", unfollowed := true, recurses := true, apart := false, narrowed := true }
def FnExactPlanOkUptoSaid : Prop := fnExactPlanOkUptoRow.holds Try.pinned (OpenSpec.upto fnExactPlanOkSpec)

end Rows
end Go.Proofs.Ytglldmfhjipacab

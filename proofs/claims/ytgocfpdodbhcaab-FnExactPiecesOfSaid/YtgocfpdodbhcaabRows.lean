/-
  No cell of these rows narrows 'for every input' (looked for: loops, veiled, ifaces, maps, wideKeys, modest, calm, conditions, laid).
  DERIVED. THE GIVEN ROWS OF THIS SEAT. 12 by the template 'for every input the law returns true; each argument reads behind the call as it read before'; 0 by the template 'total and deterministic' (their statements: YtgocfpdodbhcaabTotals.lean).
  GIVEN WITH THE SEED: the statements are not yours to turn. If you find one false, say at which input.
  Laid BY PROGRAM, IN A SANDBOX (cutbox-rows.mjs): the forced cells as the released guide's own fill.sh prints them over the translation 756fbf7e694e8c33… (all of the seat's roots in one cut). By AI agents, Wed Nov 11 2026. No macro, syntax, notation, axiom, sorry.
-/
import Derived.Test.YtgocfpdodbhcaabChecked
import GoSem.Claim
import GoSem.ClaimJoined
import GoSem.ClaimMapViews
import Derived.JoinedTies
import Derived.KernelRfl
namespace Go.Proofs.Ytgocfpdodbhcaab
/- THE CELL 'sum', in the pinned program and in every row, IS THE sha256 OF THE DUMP (.gsa) THAT YtgocfpdodbhcaabProg.lean LOADS. Nothing in Lean hashes anything: it is a label: what it is worth is what the hold of that sum in a sandbox is worth. -/
noncomputable def Try.pinned : Pinned := { name := "ytgocfpdodbhcaab", sum := "756fbf7e694e8c33b5fafa7e8c34f8c56d0549737bdabad2b2557f5fc99e2a29", checked := Try.checked }
namespace Rows
def none {H : Type} : Left H := { results := [], args := [] }

/-- 'laws.FnExactReadDict': WHATEVER THE INPUT: true; the input reads as it did. -/
def fnExactReadDictSpec : ChangeSpec := { name := "fnExactReadDict", fn := fun _ => fun
  | [d] => { results := [.lit (.bool true)], args := [d] }
  | _ => none }
def fnExactReadDictRow : OpenClaim := { program := "ytgocfpdodbhcaab", sum := "756fbf7e694e8c33b5fafa7e8c34f8c56d0549737bdabad2b2557f5fc99e2a29", func := "loop.example/g00568/laws.FnExactReadDict", spec := "fnExactReadDict", inPlace := ["internal/bytealg.IndexByteString", "internal/bytealg.IndexString"], unfollowed := true, recurses := true, named := ["internal/bytealg.MaxLen"], apart := false }
def FnExactReadDictSaid : Prop := fnExactReadDictRow.holds Try.pinned (OpenSpec.ofChange fnExactReadDictSpec)

/-- ITS FALSE NEIGHBOUR: 'it returns false'. Refute it at one input. -/
def fnExactReadDictWrong : ChangeSpec := { name := "fnExactReadDict", fn := fun _ => fun
  | [d] => { results := [.lit (.bool false)], args := [d] }
  | _ => none }
def FnExactReadDictWrongFalsely : Prop := fnExactReadDictRow.holds Try.pinned (OpenSpec.ofChange fnExactReadDictWrong)

/-- 'laws.FnExactMyersStep': WHATEVER THE INPUT: true; the input reads as it did. -/
def fnExactMyersStepSpec : ChangeSpec := { name := "fnExactMyersStep", fn := fun _ => fun
  | [d1, d2, d3] => { results := [.lit (.bool true)], args := [d1, d2, d3] }
  | _ => none }
def fnExactMyersStepRow : OpenClaim := { program := "ytgocfpdodbhcaab", sum := "756fbf7e694e8c33b5fafa7e8c34f8c56d0549737bdabad2b2557f5fc99e2a29", func := "loop.example/g00568/laws.FnExactMyersStep", spec := "fnExactMyersStep", unfollowed := true, recurses := true, apart := false }
def FnExactMyersStepSaid : Prop := fnExactMyersStepRow.holds Try.pinned (OpenSpec.ofChange fnExactMyersStepSpec)

/-- ITS FALSE NEIGHBOUR: 'it returns false'. Refute it at one input. -/
def fnExactMyersStepWrong : ChangeSpec := { name := "fnExactMyersStep", fn := fun _ => fun
  | [d1, d2, d3] => { results := [.lit (.bool false)], args := [d1, d2, d3] }
  | _ => none }
def FnExactMyersStepWrongFalsely : Prop := fnExactMyersStepRow.holds Try.pinned (OpenSpec.ofChange fnExactMyersStepWrong)

/-- 'laws.FnExactTrieOf': WHATEVER THE INPUT: true; the input reads as it did. -/
def fnExactTrieOfSpec : ChangeSpec := { name := "fnExactTrieOf", fn := fun _ => fun
  | [d] => { results := [.lit (.bool true)], args := [d] }
  | _ => none }
def fnExactTrieOfRow : OpenClaim := { program := "ytgocfpdodbhcaab", sum := "756fbf7e694e8c33b5fafa7e8c34f8c56d0549737bdabad2b2557f5fc99e2a29", func := "loop.example/g00568/laws.FnExactTrieOf", spec := "fnExactTrieOf", recurses := true, apart := false }
def FnExactTrieOfSaid : Prop := fnExactTrieOfRow.holds Try.pinned (OpenSpec.ofChange fnExactTrieOfSpec)

/-- ITS FALSE NEIGHBOUR: 'it returns false'. Refute it at one input. -/
def fnExactTrieOfWrong : ChangeSpec := { name := "fnExactTrieOf", fn := fun _ => fun
  | [d] => { results := [.lit (.bool false)], args := [d] }
  | _ => none }
def FnExactTrieOfWrongFalsely : Prop := fnExactTrieOfRow.holds Try.pinned (OpenSpec.ofChange fnExactTrieOfWrong)

/-- 'laws.FnExactTrieOk': WHATEVER THE INPUT: true; the input reads as it did. -/
def fnExactTrieOkSpec : ChangeSpec := { name := "fnExactTrieOk", fn := fun _ => fun
  | [d1, d2] => { results := [.lit (.bool true)], args := [d1, d2] }
  | _ => none }
def fnExactTrieOkRow : OpenClaim := { program := "ytgocfpdodbhcaab", sum := "756fbf7e694e8c33b5fafa7e8c34f8c56d0549737bdabad2b2557f5fc99e2a29", func := "loop.example/g00568/laws.FnExactTrieOk", spec := "fnExactTrieOk", unfollowed := true, recurses := true, apart := false }
def FnExactTrieOkSaid : Prop := fnExactTrieOkRow.holds Try.pinned (OpenSpec.ofChange fnExactTrieOkSpec)

/-- ITS FALSE NEIGHBOUR: 'it returns false'. Refute it at one input. -/
def fnExactTrieOkWrong : ChangeSpec := { name := "fnExactTrieOk", fn := fun _ => fun
  | [d1, d2] => { results := [.lit (.bool false)], args := [d1, d2] }
  | _ => none }
def FnExactTrieOkWrongFalsely : Prop := fnExactTrieOkRow.holds Try.pinned (OpenSpec.ofChange fnExactTrieOkWrong)

/-- 'laws.FnExactTrieStep': WHATEVER THE INPUT: true; the input reads as it did. -/
def fnExactTrieStepSpec : ChangeSpec := { name := "fnExactTrieStep", fn := fun _ => fun
  | [d1, d2, d3] => { results := [.lit (.bool true)], args := [d1, d2, d3] }
  | _ => none }
def fnExactTrieStepRow : OpenClaim := { program := "ytgocfpdodbhcaab", sum := "756fbf7e694e8c33b5fafa7e8c34f8c56d0549737bdabad2b2557f5fc99e2a29", func := "loop.example/g00568/laws.FnExactTrieStep", spec := "fnExactTrieStep", unfollowed := true, recurses := true, apart := false }
def FnExactTrieStepSaid : Prop := fnExactTrieStepRow.holds Try.pinned (OpenSpec.ofChange fnExactTrieStepSpec)

/-- ITS FALSE NEIGHBOUR: 'it returns false'. Refute it at one input. -/
def fnExactTrieStepWrong : ChangeSpec := { name := "fnExactTrieStep", fn := fun _ => fun
  | [d1, d2, d3] => { results := [.lit (.bool false)], args := [d1, d2, d3] }
  | _ => none }
def FnExactTrieStepWrongFalsely : Prop := fnExactTrieStepRow.holds Try.pinned (OpenSpec.ofChange fnExactTrieStepWrong)

/-- 'laws.FnExactTrieHits': WHATEVER THE INPUT: true; the input reads as it did. -/
def fnExactTrieHitsSpec : ChangeSpec := { name := "fnExactTrieHits", fn := fun _ => fun
  | [d1, d2] => { results := [.lit (.bool true)], args := [d1, d2] }
  | _ => none }
def fnExactTrieHitsRow : OpenClaim := { program := "ytgocfpdodbhcaab", sum := "756fbf7e694e8c33b5fafa7e8c34f8c56d0549737bdabad2b2557f5fc99e2a29", func := "loop.example/g00568/laws.FnExactTrieHits", spec := "fnExactTrieHits", apart := false }
def FnExactTrieHitsSaid : Prop := fnExactTrieHitsRow.holds Try.pinned (OpenSpec.ofChange fnExactTrieHitsSpec)

/-- ITS FALSE NEIGHBOUR: 'it returns false'. Refute it at one input. -/
def fnExactTrieHitsWrong : ChangeSpec := { name := "fnExactTrieHits", fn := fun _ => fun
  | [d1, d2] => { results := [.lit (.bool false)], args := [d1, d2] }
  | _ => none }
def FnExactTrieHitsWrongFalsely : Prop := fnExactTrieHitsRow.holds Try.pinned (OpenSpec.ofChange fnExactTrieHitsWrong)

/-- 'laws.FnExactOccurs': WHATEVER THE INPUT: true; the input reads as it did. -/
def fnExactOccursSpec : ChangeSpec := { name := "fnExactOccurs", fn := fun _ => fun
  | [d1, d2] => { results := [.lit (.bool true)], args := [d1, d2] }
  | _ => none }
def fnExactOccursRow : OpenClaim := { program := "ytgocfpdodbhcaab", sum := "756fbf7e694e8c33b5fafa7e8c34f8c56d0549737bdabad2b2557f5fc99e2a29", func := "loop.example/g00568/laws.FnExactOccurs", spec := "fnExactOccurs", recurses := true, apart := false }
def FnExactOccursSaid : Prop := fnExactOccursRow.holds Try.pinned (OpenSpec.ofChange fnExactOccursSpec)

/-- ITS FALSE NEIGHBOUR: 'it returns false'. Refute it at one input. -/
def fnExactOccursWrong : ChangeSpec := { name := "fnExactOccurs", fn := fun _ => fun
  | [d1, d2] => { results := [.lit (.bool false)], args := [d1, d2] }
  | _ => none }
def FnExactOccursWrongFalsely : Prop := fnExactOccursRow.holds Try.pinned (OpenSpec.ofChange fnExactOccursWrong)

/-- 'laws.FnExactAlways': WHATEVER THE INPUT: true; the input reads as it did. -/
def fnExactAlwaysSpec : ChangeSpec := { name := "fnExactAlways", fn := fun _ => fun
  | [d] => { results := [.lit (.bool true)], args := [d] }
  | _ => none }
def fnExactAlwaysRow : OpenClaim := { program := "ytgocfpdodbhcaab", sum := "756fbf7e694e8c33b5fafa7e8c34f8c56d0549737bdabad2b2557f5fc99e2a29", func := "loop.example/g00568/laws.FnExactAlways", spec := "fnExactAlways", apart := false }
def FnExactAlwaysSaid : Prop := fnExactAlwaysRow.holds Try.pinned (OpenSpec.ofChange fnExactAlwaysSpec)

/-- ITS FALSE NEIGHBOUR: 'it returns false'. Refute it at one input. -/
def fnExactAlwaysWrong : ChangeSpec := { name := "fnExactAlways", fn := fun _ => fun
  | [d] => { results := [.lit (.bool false)], args := [d] }
  | _ => none }
def FnExactAlwaysWrongFalsely : Prop := fnExactAlwaysRow.holds Try.pinned (OpenSpec.ofChange fnExactAlwaysWrong)

/-- 'laws.FnExactPiecesOf': WHATEVER THE INPUT: true; the input reads as it did. -/
def fnExactPiecesOfSpec : ChangeSpec := { name := "fnExactPiecesOf", fn := fun _ => fun
  | [d] => { results := [.lit (.bool true)], args := [d] }
  | _ => none }
def fnExactPiecesOfRow : OpenClaim := { program := "ytgocfpdodbhcaab", sum := "756fbf7e694e8c33b5fafa7e8c34f8c56d0549737bdabad2b2557f5fc99e2a29", func := "loop.example/g00568/laws.FnExactPiecesOf", spec := "fnExactPiecesOf", apart := false }
def FnExactPiecesOfSaid : Prop := fnExactPiecesOfRow.holds Try.pinned (OpenSpec.ofChange fnExactPiecesOfSpec)

/-- ITS FALSE NEIGHBOUR: 'it returns false'. Refute it at one input. -/
def fnExactPiecesOfWrong : ChangeSpec := { name := "fnExactPiecesOf", fn := fun _ => fun
  | [d] => { results := [.lit (.bool false)], args := [d] }
  | _ => none }
def FnExactPiecesOfWrongFalsely : Prop := fnExactPiecesOfRow.holds Try.pinned (OpenSpec.ofChange fnExactPiecesOfWrong)

/-- 'laws.FnExactWindowOf': WHATEVER THE INPUT: true; the input reads as it did. -/
def fnExactWindowOfSpec : ChangeSpec := { name := "fnExactWindowOf", fn := fun _ => fun
  | [d1, d2, d3] => { results := [.lit (.bool true)], args := [d1, d2, d3] }
  | _ => none }
def fnExactWindowOfRow : OpenClaim := { program := "ytgocfpdodbhcaab", sum := "756fbf7e694e8c33b5fafa7e8c34f8c56d0549737bdabad2b2557f5fc99e2a29", func := "loop.example/g00568/laws.FnExactWindowOf", spec := "fnExactWindowOf", apart := false }
def FnExactWindowOfSaid : Prop := fnExactWindowOfRow.holds Try.pinned (OpenSpec.ofChange fnExactWindowOfSpec)

/-- ITS FALSE NEIGHBOUR: 'it returns false'. Refute it at one input. -/
def fnExactWindowOfWrong : ChangeSpec := { name := "fnExactWindowOf", fn := fun _ => fun
  | [d1, d2, d3] => { results := [.lit (.bool false)], args := [d1, d2, d3] }
  | _ => none }
def FnExactWindowOfWrongFalsely : Prop := fnExactWindowOfRow.holds Try.pinned (OpenSpec.ofChange fnExactWindowOfWrong)

/-- 'laws.FnExactWindows': WHATEVER THE INPUT: true; the input reads as it did. -/
def fnExactWindowsSpec : ChangeSpec := { name := "fnExactWindows", fn := fun _ => fun
  | [d1, d2] => { results := [.lit (.bool true)], args := [d1, d2] }
  | _ => none }
def fnExactWindowsRow : OpenClaim := { program := "ytgocfpdodbhcaab", sum := "756fbf7e694e8c33b5fafa7e8c34f8c56d0549737bdabad2b2557f5fc99e2a29", func := "loop.example/g00568/laws.FnExactWindows", spec := "fnExactWindows", unfollowed := true, recurses := true, apart := false }
def FnExactWindowsSaid : Prop := fnExactWindowsRow.holds Try.pinned (OpenSpec.ofChange fnExactWindowsSpec)

/-- ITS FALSE NEIGHBOUR: 'it returns false'. Refute it at one input. -/
def fnExactWindowsWrong : ChangeSpec := { name := "fnExactWindows", fn := fun _ => fun
  | [d1, d2] => { results := [.lit (.bool false)], args := [d1, d2] }
  | _ => none }
def FnExactWindowsWrongFalsely : Prop := fnExactWindowsRow.holds Try.pinned (OpenSpec.ofChange fnExactWindowsWrong)

/-- 'laws.FnExactFiltered': WHATEVER THE INPUT: true; the input reads as it did. -/
def fnExactFilteredSpec : ChangeSpec := { name := "fnExactFiltered", fn := fun _ => fun
  | [d1, d2] => { results := [.lit (.bool true)], args := [d1, d2] }
  | _ => none }
def fnExactFilteredRow : OpenClaim := { program := "ytgocfpdodbhcaab", sum := "756fbf7e694e8c33b5fafa7e8c34f8c56d0549737bdabad2b2557f5fc99e2a29", func := "loop.example/g00568/laws.FnExactFiltered", spec := "fnExactFiltered", unfollowed := true, recurses := true, apart := false }
def FnExactFilteredSaid : Prop := fnExactFilteredRow.holds Try.pinned (OpenSpec.ofChange fnExactFilteredSpec)

/-- ITS FALSE NEIGHBOUR: 'it returns false'. Refute it at one input. -/
def fnExactFilteredWrong : ChangeSpec := { name := "fnExactFiltered", fn := fun _ => fun
  | [d1, d2] => { results := [.lit (.bool false)], args := [d1, d2] }
  | _ => none }
def FnExactFilteredWrongFalsely : Prop := fnExactFilteredRow.holds Try.pinned (OpenSpec.ofChange fnExactFilteredWrong)

/- THE SECOND FORM. 'bulk': how many values and letters a reading holds, each counted each time it is reached (what is shared counts as often as it is met; a slice's spare places count too). A statement '..UptoSaid' is the law's where the arguments, and the package variables that the reading takes, are together of bulk at most 1048576: NARROWER than '..Said'. Prove '..Said' where nothing that the law and all that it calls make is longer than what came in: it says more and counts as full. Else prove '..UptoSaid'. A law counts once. -/
mutual
def uptoBulk {H : Type} : DataW H → Nat
  | .lit (.string bytes) => bytes.length + 1
  | .lit _ => 1
  | .nil => 1
  | .ptr d => uptoBulk d + 1
  | .slice elems spare => uptoBulkAll elems + uptoBulkAll spare + 1
  | .agg parts => uptoBulkAll parts + 1
  | .iface _ d => uptoBulk d + 1
  | .map entries => uptoBulkEntries entries + 1
  | .held _ => 1
def uptoBulkAll {H : Type} : List (DataW H) → Nat
  | [] => 0
  | d :: r => uptoBulk d + uptoBulkAll r
def uptoBulkEntries {H : Type} : List (Lit × DataW H) → Nat
  | [] => 0
  | x :: r => uptoBulkEntry x + uptoBulkEntries r
def uptoBulkEntry {H : Type} : Lit × DataW H → Nat
  | (.string bytes, d) => bytes.length + uptoBulk d + 1
  | (_, d) => uptoBulk d + 1
 end
def uptoSmall : (H : Type) → List (DataW H) → Bool := fun _ ds => decide (uptoBulkAll ds ≤ 1048576)
def OpenSpec.upto (s : _root_.Go.ChangeSpec) : _root_.Go.OpenSpec := { _root_.Go.OpenSpec.ofChange s with cond := some uptoSmall }

/-- 'laws.FnExactReadDict', WHERE WHAT IT READS IS OF BULK AT MOST 1048576: true; the input reads as it did. -/
def fnExactReadDictUptoRow : OpenClaim := { program := "ytgocfpdodbhcaab", sum := "756fbf7e694e8c33b5fafa7e8c34f8c56d0549737bdabad2b2557f5fc99e2a29", func := "loop.example/g00568/laws.FnExactReadDict", spec := "fnExactReadDict", inPlace := ["internal/bytealg.IndexByteString", "internal/bytealg.IndexString"], unfollowed := true, recurses := true, named := ["internal/bytealg.MaxLen"], apart := false, narrowed := true }
def FnExactReadDictUptoSaid : Prop := fnExactReadDictUptoRow.holds Try.pinned (OpenSpec.upto fnExactReadDictSpec)

/-- 'laws.FnExactMyersStep', WHERE WHAT IT READS IS OF BULK AT MOST 1048576: true; the input reads as it did. -/
def fnExactMyersStepUptoRow : OpenClaim := { program := "ytgocfpdodbhcaab", sum := "756fbf7e694e8c33b5fafa7e8c34f8c56d0549737bdabad2b2557f5fc99e2a29", func := "loop.example/g00568/laws.FnExactMyersStep", spec := "fnExactMyersStep", unfollowed := true, recurses := true, apart := false, narrowed := true }
def FnExactMyersStepUptoSaid : Prop := fnExactMyersStepUptoRow.holds Try.pinned (OpenSpec.upto fnExactMyersStepSpec)

/-- 'laws.FnExactTrieOf', WHERE WHAT IT READS IS OF BULK AT MOST 1048576: true; the input reads as it did. -/
def fnExactTrieOfUptoRow : OpenClaim := { program := "ytgocfpdodbhcaab", sum := "756fbf7e694e8c33b5fafa7e8c34f8c56d0549737bdabad2b2557f5fc99e2a29", func := "loop.example/g00568/laws.FnExactTrieOf", spec := "fnExactTrieOf", recurses := true, apart := false, narrowed := true }
def FnExactTrieOfUptoSaid : Prop := fnExactTrieOfUptoRow.holds Try.pinned (OpenSpec.upto fnExactTrieOfSpec)

/-- 'laws.FnExactTrieOk', WHERE WHAT IT READS IS OF BULK AT MOST 1048576: true; the input reads as it did. -/
def fnExactTrieOkUptoRow : OpenClaim := { program := "ytgocfpdodbhcaab", sum := "756fbf7e694e8c33b5fafa7e8c34f8c56d0549737bdabad2b2557f5fc99e2a29", func := "loop.example/g00568/laws.FnExactTrieOk", spec := "fnExactTrieOk", unfollowed := true, recurses := true, apart := false, narrowed := true }
def FnExactTrieOkUptoSaid : Prop := fnExactTrieOkUptoRow.holds Try.pinned (OpenSpec.upto fnExactTrieOkSpec)

/-- 'laws.FnExactTrieStep', WHERE WHAT IT READS IS OF BULK AT MOST 1048576: true; the input reads as it did. -/
def fnExactTrieStepUptoRow : OpenClaim := { program := "ytgocfpdodbhcaab", sum := "756fbf7e694e8c33b5fafa7e8c34f8c56d0549737bdabad2b2557f5fc99e2a29", func := "loop.example/g00568/laws.FnExactTrieStep", spec := "fnExactTrieStep", unfollowed := true, recurses := true, apart := false, narrowed := true }
def FnExactTrieStepUptoSaid : Prop := fnExactTrieStepUptoRow.holds Try.pinned (OpenSpec.upto fnExactTrieStepSpec)

/-- 'laws.FnExactTrieHits', WHERE WHAT IT READS IS OF BULK AT MOST 1048576: true; the input reads as it did. -/
def fnExactTrieHitsUptoRow : OpenClaim := { program := "ytgocfpdodbhcaab", sum := "756fbf7e694e8c33b5fafa7e8c34f8c56d0549737bdabad2b2557f5fc99e2a29", func := "loop.example/g00568/laws.FnExactTrieHits", spec := "fnExactTrieHits", apart := false, narrowed := true }
def FnExactTrieHitsUptoSaid : Prop := fnExactTrieHitsUptoRow.holds Try.pinned (OpenSpec.upto fnExactTrieHitsSpec)

/-- 'laws.FnExactOccurs', WHERE WHAT IT READS IS OF BULK AT MOST 1048576: true; the input reads as it did. -/
def fnExactOccursUptoRow : OpenClaim := { program := "ytgocfpdodbhcaab", sum := "756fbf7e694e8c33b5fafa7e8c34f8c56d0549737bdabad2b2557f5fc99e2a29", func := "loop.example/g00568/laws.FnExactOccurs", spec := "fnExactOccurs", recurses := true, apart := false, narrowed := true }
def FnExactOccursUptoSaid : Prop := fnExactOccursUptoRow.holds Try.pinned (OpenSpec.upto fnExactOccursSpec)

/-- 'laws.FnExactAlways', WHERE WHAT IT READS IS OF BULK AT MOST 1048576: true; the input reads as it did. -/
def fnExactAlwaysUptoRow : OpenClaim := { program := "ytgocfpdodbhcaab", sum := "756fbf7e694e8c33b5fafa7e8c34f8c56d0549737bdabad2b2557f5fc99e2a29", func := "loop.example/g00568/laws.FnExactAlways", spec := "fnExactAlways", apart := false, narrowed := true }
def FnExactAlwaysUptoSaid : Prop := fnExactAlwaysUptoRow.holds Try.pinned (OpenSpec.upto fnExactAlwaysSpec)

/-- 'laws.FnExactPiecesOf', WHERE WHAT IT READS IS OF BULK AT MOST 1048576: true; the input reads as it did. -/
def fnExactPiecesOfUptoRow : OpenClaim := { program := "ytgocfpdodbhcaab", sum := "756fbf7e694e8c33b5fafa7e8c34f8c56d0549737bdabad2b2557f5fc99e2a29", func := "loop.example/g00568/laws.FnExactPiecesOf", spec := "fnExactPiecesOf", apart := false, narrowed := true }
def FnExactPiecesOfUptoSaid : Prop := fnExactPiecesOfUptoRow.holds Try.pinned (OpenSpec.upto fnExactPiecesOfSpec)

/-- 'laws.FnExactWindowOf', WHERE WHAT IT READS IS OF BULK AT MOST 1048576: true; the input reads as it did. -/
def fnExactWindowOfUptoRow : OpenClaim := { program := "ytgocfpdodbhcaab", sum := "756fbf7e694e8c33b5fafa7e8c34f8c56d0549737bdabad2b2557f5fc99e2a29", func := "loop.example/g00568/laws.FnExactWindowOf", spec := "fnExactWindowOf", apart := false, narrowed := true }
def FnExactWindowOfUptoSaid : Prop := fnExactWindowOfUptoRow.holds Try.pinned (OpenSpec.upto fnExactWindowOfSpec)

/-- 'laws.FnExactWindows', WHERE WHAT IT READS IS OF BULK AT MOST 1048576: true; the input reads as it did. -/
def fnExactWindowsUptoRow : OpenClaim := { program := "ytgocfpdodbhcaab", sum := "756fbf7e694e8c33b5fafa7e8c34f8c56d0549737bdabad2b2557f5fc99e2a29", func := "loop.example/g00568/laws.FnExactWindows", spec := "fnExactWindows", unfollowed := true, recurses := true, apart := false, narrowed := true }
def FnExactWindowsUptoSaid : Prop := fnExactWindowsUptoRow.holds Try.pinned (OpenSpec.upto fnExactWindowsSpec)

/-- 'laws.FnExactFiltered', WHERE WHAT IT READS IS OF BULK AT MOST 1048576: true; the input reads as it did. -/
def fnExactFilteredUptoRow : OpenClaim := { program := "ytgocfpdodbhcaab", sum := "756fbf7e694e8c33b5fafa7e8c34f8c56d0549737bdabad2b2557f5fc99e2a29", func := "loop.example/g00568/laws.FnExactFiltered", spec := "fnExactFiltered", unfollowed := true, recurses := true, apart := false, narrowed := true }
def FnExactFilteredUptoSaid : Prop := fnExactFilteredUptoRow.holds Try.pinned (OpenSpec.upto fnExactFilteredSpec)

end Rows
end Go.Proofs.Ytgocfpdodbhcaab

/-
  No cell of these rows narrows 'for every input' (looked for: loops, veiled, ifaces, maps, wideKeys, modest, calm, conditions, laid).
  DERIVED. THE GIVEN ROWS OF THIS SEAT. 6 by the template 'for every input the law returns true; each argument reads behind the call as it read before'; 0 by the template 'total and deterministic' (their statements: YtgikjopmijomgabTotals.lean).
  GIVEN WITH THE SEED: the statements are not yours to turn. If you find one false, say at which input.
  Laid BY PROGRAM, IN A SANDBOX (cutbox-rows.mjs): the forced cells as the released guide's own fill.sh prints them over the translation 1db8a6f5f19cd787… (all of the seat's roots in one cut). By AI agents, Wed Nov 11 2026. No macro, syntax, notation, axiom, sorry.
-/
import Derived.Test.YtgikjopmijomgabChecked
import GoSem.Claim
import GoSem.ClaimJoined
import GoSem.ClaimMapViews
import Derived.JoinedTies
import Derived.KernelRfl
namespace Go.Proofs.Ytgikjopmijomgab
/- THE CELL 'sum', in the pinned program and in every row, IS THE sha256 OF THE DUMP (.gsa) THAT YtgikjopmijomgabProg.lean LOADS. Nothing in Lean hashes anything: it is a label: what it is worth is what the hold of that sum in a sandbox is worth. -/
noncomputable def Try.pinned : Pinned := { name := "ytgikjopmijomgab", sum := "1db8a6f5f19cd787c958273678bb5b53a2ab6793c70e83816584a31fb805cffe", checked := Try.checked }
namespace Rows
def none {H : Type} : Left H := { results := [], args := [] }

/-- 'laws.FnWords': WHATEVER THE INPUT: true; the input reads as it did. -/
def fnWordsSpec : ChangeSpec := { name := "fnWords", fn := fun _ => fun
  | [d] => { results := [.lit (.bool true)], args := [d] }
  | _ => none }
def fnWordsRow : OpenClaim := { program := "ytgikjopmijomgab", sum := "1db8a6f5f19cd787c958273678bb5b53a2ab6793c70e83816584a31fb805cffe", func := "loop.example/g00568/laws.FnWords", spec := "fnWords", unfollowed := true, recurses := true, apart := false }
def FnWordsSaid : Prop := fnWordsRow.holds Try.pinned (OpenSpec.ofChange fnWordsSpec)

/-- ITS FALSE NEIGHBOUR: 'it returns false'. Refute it at one input. -/
def fnWordsWrong : ChangeSpec := { name := "fnWords", fn := fun _ => fun
  | [d] => { results := [.lit (.bool false)], args := [d] }
  | _ => none }
def FnWordsWrongFalsely : Prop := fnWordsRow.holds Try.pinned (OpenSpec.ofChange fnWordsWrong)

/-- 'laws.FnFewWords': WHATEVER THE INPUT: true; the input reads as it did. -/
def fnFewWordsSpec : ChangeSpec := { name := "fnFewWords", fn := fun _ => fun
  | [d] => { results := [.lit (.bool true)], args := [d] }
  | _ => none }
def fnFewWordsRow : OpenClaim := { program := "ytgikjopmijomgab", sum := "1db8a6f5f19cd787c958273678bb5b53a2ab6793c70e83816584a31fb805cffe", func := "loop.example/g00568/laws.FnFewWords", spec := "fnFewWords", unfollowed := true, recurses := true, apart := false }
def FnFewWordsSaid : Prop := fnFewWordsRow.holds Try.pinned (OpenSpec.ofChange fnFewWordsSpec)

/-- ITS FALSE NEIGHBOUR: 'it returns false'. Refute it at one input. -/
def fnFewWordsWrong : ChangeSpec := { name := "fnFewWords", fn := fun _ => fun
  | [d] => { results := [.lit (.bool false)], args := [d] }
  | _ => none }
def FnFewWordsWrongFalsely : Prop := fnFewWordsRow.holds Try.pinned (OpenSpec.ofChange fnFewWordsWrong)

/-- 'laws.FnSwapDist': WHATEVER THE INPUT: true; the input reads as it did. -/
def fnSwapDistSpec : ChangeSpec := { name := "fnSwapDist", fn := fun _ => fun
  | [d] => { results := [.lit (.bool true)], args := [d] }
  | _ => none }
def fnSwapDistRow : OpenClaim := { program := "ytgikjopmijomgab", sum := "1db8a6f5f19cd787c958273678bb5b53a2ab6793c70e83816584a31fb805cffe", func := "loop.example/g00568/laws.FnSwapDist", spec := "fnSwapDist", unfollowed := true, recurses := true, apart := false }
def FnSwapDistSaid : Prop := fnSwapDistRow.holds Try.pinned (OpenSpec.ofChange fnSwapDistSpec)

/-- ITS FALSE NEIGHBOUR: 'it returns false'. Refute it at one input. -/
def fnSwapDistWrong : ChangeSpec := { name := "fnSwapDist", fn := fun _ => fun
  | [d] => { results := [.lit (.bool false)], args := [d] }
  | _ => none }
def FnSwapDistWrongFalsely : Prop := fnSwapDistRow.holds Try.pinned (OpenSpec.ofChange fnSwapDistWrong)

/-- 'laws.FnSwapMore': WHATEVER THE INPUT: true; the input reads as it did. -/
def fnSwapMoreSpec : ChangeSpec := { name := "fnSwapMore", fn := fun _ => fun
  | [d] => { results := [.lit (.bool true)], args := [d] }
  | _ => none }
def fnSwapMoreRow : OpenClaim := { program := "ytgikjopmijomgab", sum := "1db8a6f5f19cd787c958273678bb5b53a2ab6793c70e83816584a31fb805cffe", func := "loop.example/g00568/laws.FnSwapMore", spec := "fnSwapMore", unfollowed := true, recurses := true, apart := false }
def FnSwapMoreSaid : Prop := fnSwapMoreRow.holds Try.pinned (OpenSpec.ofChange fnSwapMoreSpec)

/-- ITS FALSE NEIGHBOUR: 'it returns false'. Refute it at one input. -/
def fnSwapMoreWrong : ChangeSpec := { name := "fnSwapMore", fn := fun _ => fun
  | [d] => { results := [.lit (.bool false)], args := [d] }
  | _ => none }
def FnSwapMoreWrongFalsely : Prop := fnSwapMoreRow.holds Try.pinned (OpenSpec.ofChange fnSwapMoreWrong)

/-- 'laws.FnSwapEnds': WHATEVER THE INPUT: true; the input reads as it did. -/
def fnSwapEndsSpec : ChangeSpec := { name := "fnSwapEnds", fn := fun _ => fun
  | [d] => { results := [.lit (.bool true)], args := [d] }
  | _ => none }
def fnSwapEndsRow : OpenClaim := { program := "ytgikjopmijomgab", sum := "1db8a6f5f19cd787c958273678bb5b53a2ab6793c70e83816584a31fb805cffe", func := "loop.example/g00568/laws.FnSwapEnds", spec := "fnSwapEnds", unfollowed := true, recurses := true, apart := false }
def FnSwapEndsSaid : Prop := fnSwapEndsRow.holds Try.pinned (OpenSpec.ofChange fnSwapEndsSpec)

/-- ITS FALSE NEIGHBOUR: 'it returns false'. Refute it at one input. -/
def fnSwapEndsWrong : ChangeSpec := { name := "fnSwapEnds", fn := fun _ => fun
  | [d] => { results := [.lit (.bool false)], args := [d] }
  | _ => none }
def FnSwapEndsWrongFalsely : Prop := fnSwapEndsRow.holds Try.pinned (OpenSpec.ofChange fnSwapEndsWrong)

/-- 'laws.FnWholeEnds': WHATEVER THE INPUT: true; the input reads as it did. -/
def fnWholeEndsSpec : ChangeSpec := { name := "fnWholeEnds", fn := fun _ => fun
  | [d] => { results := [.lit (.bool true)], args := [d] }
  | _ => none }
def fnWholeEndsRow : OpenClaim := { program := "ytgikjopmijomgab", sum := "1db8a6f5f19cd787c958273678bb5b53a2ab6793c70e83816584a31fb805cffe", func := "loop.example/g00568/laws.FnWholeEnds", spec := "fnWholeEnds", unfollowed := true, recurses := true, apart := false }
def FnWholeEndsSaid : Prop := fnWholeEndsRow.holds Try.pinned (OpenSpec.ofChange fnWholeEndsSpec)

/-- ITS FALSE NEIGHBOUR: 'it returns false'. Refute it at one input. -/
def fnWholeEndsWrong : ChangeSpec := { name := "fnWholeEnds", fn := fun _ => fun
  | [d] => { results := [.lit (.bool false)], args := [d] }
  | _ => none }
def FnWholeEndsWrongFalsely : Prop := fnWholeEndsRow.holds Try.pinned (OpenSpec.ofChange fnWholeEndsWrong)

/- THE SECOND FORM. 'bulk': how many values and letters a reading holds, each counted each time it is reached (what is shared counts as often as it is met; a slice's spare places count too). A statement '..UptoSaid' is the law's where the arguments, and the package variables that the reading takes, are together of bulk at most 1048576: NARROWER than '..Said'. Prove '..Said' where nothing that the law and all that it calls make is longer than what came in: it says more and counts as full. Else prove '..UptoSaid'. A law counts once. -/
mutual
def uptoBulk {H : Type} : DataW H → Nat
  | .lit (.string bytes) => bytes.length + 1
  | .lit _ => 1
  | .nil => 1
  | .ptr d => uptoBulk d + 1
  | .slice elems spare => uptoBulkAll elems + uptoBulkAll spare + 1
  | .agg parts => uptoBulkAll parts + 1
  | .iface _ d => uptoBulk d + 1
  | .map entries => uptoBulkEntries entries + 1
  | .held _ => 1
def uptoBulkAll {H : Type} : List (DataW H) → Nat
  | [] => 0
  | d :: r => uptoBulk d + uptoBulkAll r
def uptoBulkEntries {H : Type} : List (Lit × DataW H) → Nat
  | [] => 0
  | x :: r => uptoBulkEntry x + uptoBulkEntries r
def uptoBulkEntry {H : Type} : Lit × DataW H → Nat
  | (.string bytes, d) => bytes.length + uptoBulk d + 1
  | (_, d) => uptoBulk d + 1
 end
def uptoSmall : (H : Type) → List (DataW H) → Bool := fun _ ds => decide (uptoBulkAll ds ≤ 1048576)
def OpenSpec.upto (s : _root_.Go.ChangeSpec) : _root_.Go.OpenSpec := { _root_.Go.OpenSpec.ofChange s with cond := some uptoSmall }

/-- 'laws.FnWords', WHERE WHAT IT READS IS OF BULK AT MOST 1048576: true; the input reads as it did. -/
def fnWordsUptoRow : OpenClaim := { program := "ytgikjopmijomgab", sum := "1db8a6f5f19cd787c958273678bb5b53a2ab6793c70e83816584a31fb805cffe", func := "loop.example/g00568/laws.FnWords", spec := "fnWords", unfollowed := true, recurses := true, apart := false, narrowed := true }
def FnWordsUptoSaid : Prop := fnWordsUptoRow.holds Try.pinned (OpenSpec.upto fnWordsSpec)

/-- 'laws.FnFewWords', WHERE WHAT IT READS IS OF BULK AT MOST 1048576: true; the input reads as it did. -/
def fnFewWordsUptoRow : OpenClaim := { program := "ytgikjopmijomgab", sum := "1db8a6f5f19cd787c958273678bb5b53a2ab6793c70e83816584a31fb805cffe", func := "loop.example/g00568/laws.FnFewWords", spec := "fnFewWords", unfollowed := true, recurses := true, apart := false, narrowed := true }
def FnFewWordsUptoSaid : Prop := fnFewWordsUptoRow.holds Try.pinned (OpenSpec.upto fnFewWordsSpec)

/-- 'laws.FnSwapDist', WHERE WHAT IT READS IS OF BULK AT MOST 1048576: true; the input reads as it did. -/
def fnSwapDistUptoRow : OpenClaim := { program := "ytgikjopmijomgab", sum := "1db8a6f5f19cd787c958273678bb5b53a2ab6793c70e83816584a31fb805cffe", func := "loop.example/g00568/laws.FnSwapDist", spec := "fnSwapDist", unfollowed := true, recurses := true, apart := false, narrowed := true }
def FnSwapDistUptoSaid : Prop := fnSwapDistUptoRow.holds Try.pinned (OpenSpec.upto fnSwapDistSpec)

/-- 'laws.FnSwapMore', WHERE WHAT IT READS IS OF BULK AT MOST 1048576: true; the input reads as it did. -/
def fnSwapMoreUptoRow : OpenClaim := { program := "ytgikjopmijomgab", sum := "1db8a6f5f19cd787c958273678bb5b53a2ab6793c70e83816584a31fb805cffe", func := "loop.example/g00568/laws.FnSwapMore", spec := "fnSwapMore", unfollowed := true, recurses := true, apart := false, narrowed := true }
def FnSwapMoreUptoSaid : Prop := fnSwapMoreUptoRow.holds Try.pinned (OpenSpec.upto fnSwapMoreSpec)

/-- 'laws.FnSwapEnds', WHERE WHAT IT READS IS OF BULK AT MOST 1048576: true; the input reads as it did. -/
def fnSwapEndsUptoRow : OpenClaim := { program := "ytgikjopmijomgab", sum := "1db8a6f5f19cd787c958273678bb5b53a2ab6793c70e83816584a31fb805cffe", func := "loop.example/g00568/laws.FnSwapEnds", spec := "fnSwapEnds", unfollowed := true, recurses := true, apart := false, narrowed := true }
def FnSwapEndsUptoSaid : Prop := fnSwapEndsUptoRow.holds Try.pinned (OpenSpec.upto fnSwapEndsSpec)

/-- 'laws.FnWholeEnds', WHERE WHAT IT READS IS OF BULK AT MOST 1048576: true; the input reads as it did. -/
def fnWholeEndsUptoRow : OpenClaim := { program := "ytgikjopmijomgab", sum := "1db8a6f5f19cd787c958273678bb5b53a2ab6793c70e83816584a31fb805cffe", func := "loop.example/g00568/laws.FnWholeEnds", spec := "fnWholeEnds", unfollowed := true, recurses := true, apart := false, narrowed := true }
def FnWholeEndsUptoSaid : Prop := fnWholeEndsUptoRow.holds Try.pinned (OpenSpec.upto fnWholeEndsSpec)

end Rows
end Go.Proofs.Ytgikjopmijomgab

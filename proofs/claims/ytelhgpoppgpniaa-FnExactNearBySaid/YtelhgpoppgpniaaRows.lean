/-
  No cell of these rows narrows 'for every input' (looked for: loops, veiled, ifaces, maps, wideKeys, modest, calm, conditions, laid).
  DERIVED. THE GIVEN ROWS OF THIS SEAT. 10 by the template 'for every input the law returns true; each argument reads behind the call as it read before'; 0 by the template 'total and deterministic' (their statements: YtelhgpoppgpniaaTotals.lean).
  GIVEN WITH THE SEED: the statements are not yours to turn. If you find one false, say at which input.
  Laid BY PROGRAM, IN A SANDBOX (cutbox-rows.mjs): the forced cells as the released guide's own fill.sh prints them over the translation a12f5ce30ca2605a… (all of the seat's roots in one cut). By AI agents, Wed Nov 11 2026. No macro, syntax, notation, axiom, sorry.
-/
import Derived.Test.YtelhgpoppgpniaaChecked
import GoSem.Claim
import GoSem.ClaimJoined
import GoSem.ClaimMapViews
import Derived.JoinedTies
import Derived.KernelRfl
namespace Go.Proofs.Ytelhgpoppgpniaa
/- THE CELL 'sum', in the pinned program and in every row, IS THE sha256 OF THE DUMP (.gsa) THAT YtelhgpoppgpniaaProg.lean LOADS. Nothing in Lean hashes anything: it is a label: what it is worth is what the hold of that sum in a sandbox is worth. -/
noncomputable def Try.pinned : Pinned := { name := "ytelhgpoppgpniaa", sum := "a12f5ce30ca2605a2c391e1a6780c2af381d505881f54f0231a3f5187231090d", checked := Try.checked }
namespace Rows
def none {H : Type} : Left H := { results := [], args := [] }

/-- 'laws.FnExactAlignOf': WHATEVER THE INPUT: true; the input reads as it did. -/
def fnExactAlignOfSpec : ChangeSpec := { name := "fnExactAlignOf", fn := fun _ => fun
  | [d1, d2, d3] => { results := [.lit (.bool true)], args := [d1, d2, d3] }
  | _ => none }
def fnExactAlignOfRow : OpenClaim := { program := "ytelhgpoppgpniaa", sum := "a12f5ce30ca2605a2c391e1a6780c2af381d505881f54f0231a3f5187231090d", func := "loop.example/g00568/laws.FnExactAlignOf", spec := "fnExactAlignOf", unfollowed := true, recurses := true, apart := false }
def FnExactAlignOfSaid : Prop := fnExactAlignOfRow.holds Try.pinned (OpenSpec.ofChange fnExactAlignOfSpec)

/-- ITS FALSE NEIGHBOUR: 'it returns false'. Refute it at one input. -/
def fnExactAlignOfWrong : ChangeSpec := { name := "fnExactAlignOf", fn := fun _ => fun
  | [d1, d2, d3] => { results := [.lit (.bool false)], args := [d1, d2, d3] }
  | _ => none }
def FnExactAlignOfWrongFalsely : Prop := fnExactAlignOfRow.holds Try.pinned (OpenSpec.ofChange fnExactAlignOfWrong)

/-- 'laws.FnExactAlignOk': WHATEVER THE INPUT: true; the input reads as it did. -/
def fnExactAlignOkSpec : ChangeSpec := { name := "fnExactAlignOk", fn := fun _ => fun
  | [d1, d2, d3, d4] => { results := [.lit (.bool true)], args := [d1, d2, d3, d4] }
  | _ => none }
def fnExactAlignOkRow : OpenClaim := { program := "ytelhgpoppgpniaa", sum := "a12f5ce30ca2605a2c391e1a6780c2af381d505881f54f0231a3f5187231090d", func := "loop.example/g00568/laws.FnExactAlignOk", spec := "fnExactAlignOk", apart := false }
def FnExactAlignOkSaid : Prop := fnExactAlignOkRow.holds Try.pinned (OpenSpec.ofChange fnExactAlignOkSpec)

/-- ITS FALSE NEIGHBOUR: 'it returns false'. Refute it at one input. -/
def fnExactAlignOkWrong : ChangeSpec := { name := "fnExactAlignOk", fn := fun _ => fun
  | [d1, d2, d3, d4] => { results := [.lit (.bool false)], args := [d1, d2, d3, d4] }
  | _ => none }
def FnExactAlignOkWrongFalsely : Prop := fnExactAlignOkRow.holds Try.pinned (OpenSpec.ofChange fnExactAlignOkWrong)

/-- 'laws.FnExactStartOf': WHATEVER THE INPUT: true; the input reads as it did. -/
def fnExactStartOfSpec : ChangeSpec := { name := "fnExactStartOf", fn := fun _ => fun
  | [d1, d2, d3] => { results := [.lit (.bool true)], args := [d1, d2, d3] }
  | _ => none }
def fnExactStartOfRow : OpenClaim := { program := "ytelhgpoppgpniaa", sum := "a12f5ce30ca2605a2c391e1a6780c2af381d505881f54f0231a3f5187231090d", func := "loop.example/g00568/laws.FnExactStartOf", spec := "fnExactStartOf", unfollowed := true, recurses := true, apart := false }
def FnExactStartOfSaid : Prop := fnExactStartOfRow.holds Try.pinned (OpenSpec.ofChange fnExactStartOfSpec)

/-- ITS FALSE NEIGHBOUR: 'it returns false'. Refute it at one input. -/
def fnExactStartOfWrong : ChangeSpec := { name := "fnExactStartOf", fn := fun _ => fun
  | [d1, d2, d3] => { results := [.lit (.bool false)], args := [d1, d2, d3] }
  | _ => none }
def FnExactStartOfWrongFalsely : Prop := fnExactStartOfRow.holds Try.pinned (OpenSpec.ofChange fnExactStartOfWrong)

/-- 'laws.FnExactBkOf': WHATEVER THE INPUT: true; the input reads as it did. -/
def fnExactBkOfSpec : ChangeSpec := { name := "fnExactBkOf", fn := fun _ => fun
  | [d] => { results := [.lit (.bool true)], args := [d] }
  | _ => none }
def fnExactBkOfRow : OpenClaim := { program := "ytelhgpoppgpniaa", sum := "a12f5ce30ca2605a2c391e1a6780c2af381d505881f54f0231a3f5187231090d", func := "loop.example/g00568/laws.FnExactBkOf", spec := "fnExactBkOf", unfollowed := true, recurses := true, apart := false }
def FnExactBkOfSaid : Prop := fnExactBkOfRow.holds Try.pinned (OpenSpec.ofChange fnExactBkOfSpec)

/-- ITS FALSE NEIGHBOUR: 'it returns false'. Refute it at one input. -/
def fnExactBkOfWrong : ChangeSpec := { name := "fnExactBkOf", fn := fun _ => fun
  | [d] => { results := [.lit (.bool false)], args := [d] }
  | _ => none }
def FnExactBkOfWrongFalsely : Prop := fnExactBkOfRow.holds Try.pinned (OpenSpec.ofChange fnExactBkOfWrong)

/-- 'laws.FnExactBkOk': WHATEVER THE INPUT: true; the input reads as it did. -/
def fnExactBkOkSpec : ChangeSpec := { name := "fnExactBkOk", fn := fun _ => fun
  | [d] => { results := [.lit (.bool true)], args := [d] }
  | _ => none }
def fnExactBkOkRow : OpenClaim := { program := "ytelhgpoppgpniaa", sum := "a12f5ce30ca2605a2c391e1a6780c2af381d505881f54f0231a3f5187231090d", func := "loop.example/g00568/laws.FnExactBkOk", spec := "fnExactBkOk", unfollowed := true, recurses := true, apart := false }
def FnExactBkOkSaid : Prop := fnExactBkOkRow.holds Try.pinned (OpenSpec.ofChange fnExactBkOkSpec)

/-- ITS FALSE NEIGHBOUR: 'it returns false'. Refute it at one input. -/
def fnExactBkOkWrong : ChangeSpec := { name := "fnExactBkOk", fn := fun _ => fun
  | [d] => { results := [.lit (.bool false)], args := [d] }
  | _ => none }
def FnExactBkOkWrongFalsely : Prop := fnExactBkOkRow.holds Try.pinned (OpenSpec.ofChange fnExactBkOkWrong)

/-- 'laws.FnExactNear': WHATEVER THE INPUT: true; the input reads as it did. -/
def fnExactNearSpec : ChangeSpec := { name := "fnExactNear", fn := fun _ => fun
  | [d1, d2, d3] => { results := [.lit (.bool true)], args := [d1, d2, d3] }
  | _ => none }
def fnExactNearRow : OpenClaim := { program := "ytelhgpoppgpniaa", sum := "a12f5ce30ca2605a2c391e1a6780c2af381d505881f54f0231a3f5187231090d", func := "loop.example/g00568/laws.FnExactNear", spec := "fnExactNear", unfollowed := true, recurses := true, apart := false }
def FnExactNearSaid : Prop := fnExactNearRow.holds Try.pinned (OpenSpec.ofChange fnExactNearSpec)

/-- ITS FALSE NEIGHBOUR: 'it returns false'. Refute it at one input. -/
def fnExactNearWrong : ChangeSpec := { name := "fnExactNear", fn := fun _ => fun
  | [d1, d2, d3] => { results := [.lit (.bool false)], args := [d1, d2, d3] }
  | _ => none }
def FnExactNearWrongFalsely : Prop := fnExactNearRow.holds Try.pinned (OpenSpec.ofChange fnExactNearWrong)

/-- 'laws.FnExactGramsOf': WHATEVER THE INPUT: true; the input reads as it did. -/
def fnExactGramsOfSpec : ChangeSpec := { name := "fnExactGramsOf", fn := fun _ => fun
  | [d1, d2] => { results := [.lit (.bool true)], args := [d1, d2] }
  | _ => none }
def fnExactGramsOfRow : OpenClaim := { program := "ytelhgpoppgpniaa", sum := "a12f5ce30ca2605a2c391e1a6780c2af381d505881f54f0231a3f5187231090d", func := "loop.example/g00568/laws.FnExactGramsOf", spec := "fnExactGramsOf", unfollowed := true, recurses := true, apart := false }
def FnExactGramsOfSaid : Prop := fnExactGramsOfRow.holds Try.pinned (OpenSpec.ofChange fnExactGramsOfSpec)

/-- ITS FALSE NEIGHBOUR: 'it returns false'. Refute it at one input. -/
def fnExactGramsOfWrong : ChangeSpec := { name := "fnExactGramsOf", fn := fun _ => fun
  | [d1, d2] => { results := [.lit (.bool false)], args := [d1, d2] }
  | _ => none }
def FnExactGramsOfWrongFalsely : Prop := fnExactGramsOfRow.holds Try.pinned (OpenSpec.ofChange fnExactGramsOfWrong)

/-- 'laws.FnExactCommon': WHATEVER THE INPUT: true; the input reads as it did. -/
def fnExactCommonSpec : ChangeSpec := { name := "fnExactCommon", fn := fun _ => fun
  | [d1, d2, d3] => { results := [.lit (.bool true)], args := [d1, d2, d3] }
  | _ => none }
def fnExactCommonRow : OpenClaim := { program := "ytelhgpoppgpniaa", sum := "a12f5ce30ca2605a2c391e1a6780c2af381d505881f54f0231a3f5187231090d", func := "loop.example/g00568/laws.FnExactCommon", spec := "fnExactCommon", apart := false }
def FnExactCommonSaid : Prop := fnExactCommonRow.holds Try.pinned (OpenSpec.ofChange fnExactCommonSpec)

/-- ITS FALSE NEIGHBOUR: 'it returns false'. Refute it at one input. -/
def fnExactCommonWrong : ChangeSpec := { name := "fnExactCommon", fn := fun _ => fun
  | [d1, d2, d3] => { results := [.lit (.bool false)], args := [d1, d2, d3] }
  | _ => none }
def FnExactCommonWrongFalsely : Prop := fnExactCommonRow.holds Try.pinned (OpenSpec.ofChange fnExactCommonWrong)

/-- 'laws.FnExactMayBe': WHATEVER THE INPUT: true; the input reads as it did. -/
def fnExactMayBeSpec : ChangeSpec := { name := "fnExactMayBe", fn := fun _ => fun
  | [d1, d2, d3, d4] => { results := [.lit (.bool true)], args := [d1, d2, d3, d4] }
  | _ => none }
def fnExactMayBeRow : OpenClaim := { program := "ytelhgpoppgpniaa", sum := "a12f5ce30ca2605a2c391e1a6780c2af381d505881f54f0231a3f5187231090d", func := "loop.example/g00568/laws.FnExactMayBe", spec := "fnExactMayBe", apart := false }
def FnExactMayBeSaid : Prop := fnExactMayBeRow.holds Try.pinned (OpenSpec.ofChange fnExactMayBeSpec)

/-- ITS FALSE NEIGHBOUR: 'it returns false'. Refute it at one input. -/
def fnExactMayBeWrong : ChangeSpec := { name := "fnExactMayBe", fn := fun _ => fun
  | [d1, d2, d3, d4] => { results := [.lit (.bool false)], args := [d1, d2, d3, d4] }
  | _ => none }
def FnExactMayBeWrongFalsely : Prop := fnExactMayBeRow.holds Try.pinned (OpenSpec.ofChange fnExactMayBeWrong)

/-- 'laws.FnExactNearBy': WHATEVER THE INPUT: true; the input reads as it did. -/
def fnExactNearBySpec : ChangeSpec := { name := "fnExactNearBy", fn := fun _ => fun
  | [d1, d2, d3, d4] => { results := [.lit (.bool true)], args := [d1, d2, d3, d4] }
  | _ => none }
def fnExactNearByRow : OpenClaim := { program := "ytelhgpoppgpniaa", sum := "a12f5ce30ca2605a2c391e1a6780c2af381d505881f54f0231a3f5187231090d", func := "loop.example/g00568/laws.FnExactNearBy", spec := "fnExactNearBy", unfollowed := true, recurses := true, apart := false }
def FnExactNearBySaid : Prop := fnExactNearByRow.holds Try.pinned (OpenSpec.ofChange fnExactNearBySpec)

/-- ITS FALSE NEIGHBOUR: 'it returns false'. Refute it at one input. -/
def fnExactNearByWrong : ChangeSpec := { name := "fnExactNearBy", fn := fun _ => fun
  | [d1, d2, d3, d4] => { results := [.lit (.bool false)], args := [d1, d2, d3, d4] }
  | _ => none }
def FnExactNearByWrongFalsely : Prop := fnExactNearByRow.holds Try.pinned (OpenSpec.ofChange fnExactNearByWrong)

/- THE SECOND FORM. 'bulk': how many values and letters a reading holds, each counted each time it is reached (what is shared counts as often as it is met; a slice's spare places count too). A statement '..UptoSaid' is the law's where the arguments, and the package variables that the reading takes, are together of bulk at most 1048576: NARROWER than '..Said'. Prove '..Said' where nothing that the law and all that it calls make is longer than what came in: it says more and counts as full. Else prove '..UptoSaid'. A law counts once. -/
mutual
def uptoBulk {H : Type} : DataW H → Nat
  | .lit (.string bytes) => bytes.length + 1
  | .lit _ => 1
  | .nil => 1
  | .ptr d => uptoBulk d + 1
  | .slice elems spare => uptoBulkAll elems + uptoBulkAll spare + 1
  | .agg parts => uptoBulkAll parts + 1
  | .iface _ d => uptoBulk d + 1
  | .map entries => uptoBulkEntries entries + 1
  | .held _ => 1
def uptoBulkAll {H : Type} : List (DataW H) → Nat
  | [] => 0
  | d :: r => uptoBulk d + uptoBulkAll r
def uptoBulkEntries {H : Type} : List (Lit × DataW H) → Nat
  | [] => 0
  | x :: r => uptoBulkEntry x + uptoBulkEntries r
def uptoBulkEntry {H : Type} : Lit × DataW H → Nat
  | (.string bytes, d) => bytes.length + uptoBulk d + 1
  | (_, d) => uptoBulk d + 1
 end
def uptoSmall : (H : Type) → List (DataW H) → Bool := fun _ ds => decide (uptoBulkAll ds ≤ 1048576)
def OpenSpec.upto (s : _root_.Go.ChangeSpec) : _root_.Go.OpenSpec := { _root_.Go.OpenSpec.ofChange s with cond := some uptoSmall }

/-- 'laws.FnExactAlignOf', WHERE WHAT IT READS IS OF BULK AT MOST 1048576: true; the input reads as it did. -/
def fnExactAlignOfUptoRow : OpenClaim := { program := "ytelhgpoppgpniaa", sum := "a12f5ce30ca2605a2c391e1a6780c2af381d505881f54f0231a3f5187231090d", func := "loop.example/g00568/laws.FnExactAlignOf", spec := "fnExactAlignOf", unfollowed := true, recurses := true, apart := false, narrowed := true }
def FnExactAlignOfUptoSaid : Prop := fnExactAlignOfUptoRow.holds Try.pinned (OpenSpec.upto fnExactAlignOfSpec)

/-- 'laws.FnExactAlignOk', WHERE WHAT IT READS IS OF BULK AT MOST 1048576: true; the input reads as it did. -/
def fnExactAlignOkUptoRow : OpenClaim := { program := "ytelhgpoppgpniaa", sum := "a12f5ce30ca2605a2c391e1a6780c2af381d505881f54f0231a3f5187231090d", func := "loop.example/g00568/laws.FnExactAlignOk", spec := "fnExactAlignOk", apart := false, narrowed := true }
def FnExactAlignOkUptoSaid : Prop := fnExactAlignOkUptoRow.holds Try.pinned (OpenSpec.upto fnExactAlignOkSpec)

/-- 'laws.FnExactStartOf', WHERE WHAT IT READS IS OF BULK AT MOST 1048576: true; the input reads as it did. -/
def fnExactStartOfUptoRow : OpenClaim := { program := "ytelhgpoppgpniaa", sum := "a12f5ce30ca2605a2c391e1a6780c2af381d505881f54f0231a3f5187231090d", func := "loop.example/g00568/laws.FnExactStartOf", spec := "fnExactStartOf", unfollowed := true, recurses := true, apart := false, narrowed := true }
def FnExactStartOfUptoSaid : Prop := fnExactStartOfUptoRow.holds Try.pinned (OpenSpec.upto fnExactStartOfSpec)

/-- 'laws.FnExactBkOf', WHERE WHAT IT READS IS OF BULK AT MOST 1048576: true; the input reads as it did. -/
def fnExactBkOfUptoRow : OpenClaim := { program := "ytelhgpoppgpniaa", sum := "a12f5ce30ca2605a2c391e1a6780c2af381d505881f54f0231a3f5187231090d", func := "loop.example/g00568/laws.FnExactBkOf", spec := "fnExactBkOf", unfollowed := true, recurses := true, apart := false, narrowed := true }
def FnExactBkOfUptoSaid : Prop := fnExactBkOfUptoRow.holds Try.pinned (OpenSpec.upto fnExactBkOfSpec)

/-- 'laws.FnExactBkOk', WHERE WHAT IT READS IS OF BULK AT MOST 1048576: true; the input reads as it did. -/
def fnExactBkOkUptoRow : OpenClaim := { program := "ytelhgpoppgpniaa", sum := "a12f5ce30ca2605a2c391e1a6780c2af381d505881f54f0231a3f5187231090d", func := "loop.example/g00568/laws.FnExactBkOk", spec := "fnExactBkOk", unfollowed := true, recurses := true, apart := false, narrowed := true }
def FnExactBkOkUptoSaid : Prop := fnExactBkOkUptoRow.holds Try.pinned (OpenSpec.upto fnExactBkOkSpec)

/-- 'laws.FnExactNear', WHERE WHAT IT READS IS OF BULK AT MOST 1048576: true; the input reads as it did. -/
def fnExactNearUptoRow : OpenClaim := { program := "ytelhgpoppgpniaa", sum := "a12f5ce30ca2605a2c391e1a6780c2af381d505881f54f0231a3f5187231090d", func := "loop.example/g00568/laws.FnExactNear", spec := "fnExactNear", unfollowed := true, recurses := true, apart := false, narrowed := true }
def FnExactNearUptoSaid : Prop := fnExactNearUptoRow.holds Try.pinned (OpenSpec.upto fnExactNearSpec)

/-- 'laws.FnExactGramsOf', WHERE WHAT IT READS IS OF BULK AT MOST 1048576: true; the input reads as it did. -/
def fnExactGramsOfUptoRow : OpenClaim := { program := "ytelhgpoppgpniaa", sum := "a12f5ce30ca2605a2c391e1a6780c2af381d505881f54f0231a3f5187231090d", func := "loop.example/g00568/laws.FnExactGramsOf", spec := "fnExactGramsOf", unfollowed := true, recurses := true, apart := false, narrowed := true }
def FnExactGramsOfUptoSaid : Prop := fnExactGramsOfUptoRow.holds Try.pinned (OpenSpec.upto fnExactGramsOfSpec)

/-- 'laws.FnExactCommon', WHERE WHAT IT READS IS OF BULK AT MOST 1048576: true; the input reads as it did. -/
def fnExactCommonUptoRow : OpenClaim := { program := "ytelhgpoppgpniaa", sum := "a12f5ce30ca2605a2c391e1a6780c2af381d505881f54f0231a3f5187231090d", func := "loop.example/g00568/laws.FnExactCommon", spec := "fnExactCommon", apart := false, narrowed := true }
def FnExactCommonUptoSaid : Prop := fnExactCommonUptoRow.holds Try.pinned (OpenSpec.upto fnExactCommonSpec)

/-- 'laws.FnExactMayBe', WHERE WHAT IT READS IS OF BULK AT MOST 1048576: true; the input reads as it did. -/
def fnExactMayBeUptoRow : OpenClaim := { program := "ytelhgpoppgpniaa", sum := "a12f5ce30ca2605a2c391e1a6780c2af381d505881f54f0231a3f5187231090d", func := "loop.example/g00568/laws.FnExactMayBe", spec := "fnExactMayBe", apart := false, narrowed := true }
def FnExactMayBeUptoSaid : Prop := fnExactMayBeUptoRow.holds Try.pinned (OpenSpec.upto fnExactMayBeSpec)

/-- 'laws.FnExactNearBy', WHERE WHAT IT READS IS OF BULK AT MOST 1048576: true; the input reads as it did. -/
def fnExactNearByUptoRow : OpenClaim := { program := "ytelhgpoppgpniaa", sum := "a12f5ce30ca2605a2c391e1a6780c2af381d505881f54f0231a3f5187231090d", func := "loop.example/g00568/laws.FnExactNearBy", spec := "fnExactNearBy", unfollowed := true, recurses := true, apart := false, narrowed := true }
def FnExactNearByUptoSaid : Prop := fnExactNearByUptoRow.holds Try.pinned (OpenSpec.upto fnExactNearBySpec)

end Rows
end Go.Proofs.Ytelhgpoppgpniaa

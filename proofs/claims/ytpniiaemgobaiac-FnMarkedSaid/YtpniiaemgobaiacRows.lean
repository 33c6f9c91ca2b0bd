/-
  No cell of these rows narrows 'for every input' (looked for: loops, veiled, ifaces, maps, wideKeys, modest, calm, conditions, laid).
  DERIVED. THE GIVEN ROWS OF THIS SEAT. 6 by the template 'for every input the law returns true; each argument reads behind the call as it read before'; 0 by the template 'total and deterministic' (their statements: YtpniiaemgobaiacTotals.lean).
  GIVEN WITH THE SEED: the statements are not yours to turn. If you find one false, say at which input.
  Laid BY PROGRAM, IN A SANDBOX (cutbox-rows.mjs): the forced cells as the released guide's own fill.sh prints them over the translation ed2ca13ef858f3a8… (all of the seat's roots in one cut). By AI agents, Wed Nov 11 2026. No macro, syntax, notation, axiom, sorry.
-/
import Derived.Test.YtpniiaemgobaiacChecked
import GoSem.Claim
import GoSem.ClaimJoined
import GoSem.ClaimMapViews
import Derived.JoinedTies
import Derived.KernelRfl
namespace Go.Proofs.Ytpniiaemgobaiac
/- THE CELL 'sum', in the pinned program and in every row, IS THE sha256 OF THE DUMP (.gsa) THAT YtpniiaemgobaiacProg.lean LOADS. Nothing in Lean hashes anything: it is a label: what it is worth is what the hold of that sum in a sandbox is worth. -/
noncomputable def Try.pinned : Pinned := { name := "ytpniiaemgobaiac", sum := "ed2ca13ef858f3a8882ef05472b33ba49c83066ecc628c139ae36deb7eda40e4", checked := Try.checked }
namespace Rows
def none {H : Type} : Left H := { results := [], args := [] }

/-- 'laws.FnLeftmost': WHATEVER THE INPUT: true; the input reads as it did. -/
def fnLeftmostSpec : ChangeSpec := { name := "fnLeftmost", fn := fun _ => fun
  | [d] => { results := [.lit (.bool true)], args := [d] }
  | _ => none }
def fnLeftmostRow : OpenClaim := { program := "ytpniiaemgobaiac", sum := "ed2ca13ef858f3a8882ef05472b33ba49c83066ecc628c139ae36deb7eda40e4", func := "loop.example/g00568/laws.FnLeftmost", spec := "fnLeftmost", unfollowed := true, recurses := true, apart := false }
def FnLeftmostSaid : Prop := fnLeftmostRow.holds Try.pinned (OpenSpec.ofChange fnLeftmostSpec)

/-- ITS FALSE NEIGHBOUR: 'it returns false'. Refute it at one input. -/
def fnLeftmostWrong : ChangeSpec := { name := "fnLeftmost", fn := fun _ => fun
  | [d] => { results := [.lit (.bool false)], args := [d] }
  | _ => none }
def FnLeftmostWrongFalsely : Prop := fnLeftmostRow.holds Try.pinned (OpenSpec.ofChange fnLeftmostWrong)

/-- 'laws.FnBest': WHATEVER THE INPUT: true; the input reads as it did. -/
def fnBestSpec : ChangeSpec := { name := "fnBest", fn := fun _ => fun
  | [d] => { results := [.lit (.bool true)], args := [d] }
  | _ => none }
def fnBestRow : OpenClaim := { program := "ytpniiaemgobaiac", sum := "ed2ca13ef858f3a8882ef05472b33ba49c83066ecc628c139ae36deb7eda40e4", func := "loop.example/g00568/laws.FnBest", spec := "fnBest", unfollowed := true, recurses := true, apart := false }
def FnBestSaid : Prop := fnBestRow.holds Try.pinned (OpenSpec.ofChange fnBestSpec)

/-- ITS FALSE NEIGHBOUR: 'it returns false'. Refute it at one input. -/
def fnBestWrong : ChangeSpec := { name := "fnBest", fn := fun _ => fun
  | [d] => { results := [.lit (.bool false)], args := [d] }
  | _ => none }
def FnBestWrongFalsely : Prop := fnBestRow.holds Try.pinned (OpenSpec.ofChange fnBestWrong)

/-- 'laws.FnMarked': WHATEVER THE INPUT: true; the input reads as it did. -/
def fnMarkedSpec : ChangeSpec := { name := "fnMarked", fn := fun _ => fun
  | [d] => { results := [.lit (.bool true)], args := [d] }
  | _ => none }
def fnMarkedRow : OpenClaim := { program := "ytpniiaemgobaiac", sum := "ed2ca13ef858f3a8882ef05472b33ba49c83066ecc628c139ae36deb7eda40e4", func := "loop.example/g00568/laws.FnMarked", spec := "fnMarked", inPlace := ["internal/abi.NoEscape"], unfollowed := true, recurses := true, apart := false }
def FnMarkedSaid : Prop := fnMarkedRow.holds Try.pinned (OpenSpec.ofChange fnMarkedSpec)

/-- ITS FALSE NEIGHBOUR: 'it returns false'. Refute it at one input. -/
def fnMarkedWrong : ChangeSpec := { name := "fnMarked", fn := fun _ => fun
  | [d] => { results := [.lit (.bool false)], args := [d] }
  | _ => none }
def FnMarkedWrongFalsely : Prop := fnMarkedRow.holds Try.pinned (OpenSpec.ofChange fnMarkedWrong)

/-- 'laws.FnSuggestedSelf': WHATEVER THE INPUT: true; the input reads as it did. -/
def fnSuggestedSelfSpec : ChangeSpec := { name := "fnSuggestedSelf", fn := fun _ => fun
  | [d] => { results := [.lit (.bool true)], args := [d] }
  | _ => none }
def fnSuggestedSelfRow : OpenClaim := { program := "ytpniiaemgobaiac", sum := "ed2ca13ef858f3a8882ef05472b33ba49c83066ecc628c139ae36deb7eda40e4", func := "loop.example/g00568/laws.FnSuggestedSelf", spec := "fnSuggestedSelf", unfollowed := true, recurses := true, apart := false }
def FnSuggestedSelfSaid : Prop := fnSuggestedSelfRow.holds Try.pinned (OpenSpec.ofChange fnSuggestedSelfSpec)

/-- ITS FALSE NEIGHBOUR: 'it returns false'. Refute it at one input. -/
def fnSuggestedSelfWrong : ChangeSpec := { name := "fnSuggestedSelf", fn := fun _ => fun
  | [d] => { results := [.lit (.bool false)], args := [d] }
  | _ => none }
def FnSuggestedSelfWrongFalsely : Prop := fnSuggestedSelfRow.holds Try.pinned (OpenSpec.ofChange fnSuggestedSelfWrong)

/-- 'laws.FnExactTrieOf': WHATEVER THE INPUT: true; the input reads as it did. -/
def fnExactTrieOfSpec : ChangeSpec := { name := "fnExactTrieOf", fn := fun _ => fun
  | [d] => { results := [.lit (.bool true)], args := [d] }
  | _ => none }
def fnExactTrieOfRow : OpenClaim := { program := "ytpniiaemgobaiac", sum := "ed2ca13ef858f3a8882ef05472b33ba49c83066ecc628c139ae36deb7eda40e4", func := "loop.example/g00568/laws.FnExactTrieOf", spec := "fnExactTrieOf", recurses := true, apart := false }
def FnExactTrieOfSaid : Prop := fnExactTrieOfRow.holds Try.pinned (OpenSpec.ofChange fnExactTrieOfSpec)

/-- ITS FALSE NEIGHBOUR: 'it returns false'. Refute it at one input. -/
def fnExactTrieOfWrong : ChangeSpec := { name := "fnExactTrieOf", fn := fun _ => fun
  | [d] => { results := [.lit (.bool false)], args := [d] }
  | _ => none }
def FnExactTrieOfWrongFalsely : Prop := fnExactTrieOfRow.holds Try.pinned (OpenSpec.ofChange fnExactTrieOfWrong)

/-- 'laws.FnExactTrieOk': WHATEVER THE INPUT: true; the input reads as it did. -/
def fnExactTrieOkSpec : ChangeSpec := { name := "fnExactTrieOk", fn := fun _ => fun
  | [d1, d2] => { results := [.lit (.bool true)], args := [d1, d2] }
  | _ => none }
def fnExactTrieOkRow : OpenClaim := { program := "ytpniiaemgobaiac", sum := "ed2ca13ef858f3a8882ef05472b33ba49c83066ecc628c139ae36deb7eda40e4", func := "loop.example/g00568/laws.FnExactTrieOk", spec := "fnExactTrieOk", unfollowed := true, recurses := true, apart := false }
def FnExactTrieOkSaid : Prop := fnExactTrieOkRow.holds Try.pinned (OpenSpec.ofChange fnExactTrieOkSpec)

/-- ITS FALSE NEIGHBOUR: 'it returns false'. Refute it at one input. -/
def fnExactTrieOkWrong : ChangeSpec := { name := "fnExactTrieOk", fn := fun _ => fun
  | [d1, d2] => { results := [.lit (.bool false)], args := [d1, d2] }
  | _ => none }
def FnExactTrieOkWrongFalsely : Prop := fnExactTrieOkRow.holds Try.pinned (OpenSpec.ofChange fnExactTrieOkWrong)

/- THE SECOND FORM. 'bulk': how many values and letters a reading holds, each counted each time it is reached (what is shared counts as often as it is met; a slice's spare places count too). A statement '..UptoSaid' is the law's where the arguments, and the package variables that the reading takes, are together of bulk at most 1048576: NARROWER than '..Said'. Prove '..Said' where nothing that the law and all that it calls make is longer than what came in: it says more and counts as full. Else prove '..UptoSaid'. A law counts once. -/
mutual
def uptoBulk {H : Type} : DataW H → Nat
  | .lit (.string bytes) => bytes.length + 1
  | .lit _ => 1
  | .nil => 1
  | .ptr d => uptoBulk d + 1
  | .slice elems spare => uptoBulkAll elems + uptoBulkAll spare + 1
  | .agg parts => uptoBulkAll parts + 1
  | .iface _ d => uptoBulk d + 1
  | .map entries => uptoBulkEntries entries + 1
  | .held _ => 1
def uptoBulkAll {H : Type} : List (DataW H) → Nat
  | [] => 0
  | d :: r => uptoBulk d + uptoBulkAll r
def uptoBulkEntries {H : Type} : List (Lit × DataW H) → Nat
  | [] => 0
  | x :: r => uptoBulkEntry x + uptoBulkEntries r
def uptoBulkEntry {H : Type} : Lit × DataW H → Nat
  | (.string bytes, d) => bytes.length + uptoBulk d + 1
  | (_, d) => uptoBulk d + 1
 end
def uptoSmall : (H : Type) → List (DataW H) → Bool := fun _ ds => decide (uptoBulkAll ds ≤ 1048576)
def OpenSpec.upto (s : _root_.Go.ChangeSpec) : _root_.Go.OpenSpec := { _root_.Go.OpenSpec.ofChange s with cond := some uptoSmall }

/-- 'laws.FnLeftmost', WHERE WHAT IT READS IS OF BULK AT MOST 1048576: true; the input reads as it did. -/
def fnLeftmostUptoRow : OpenClaim := { program := "ytpniiaemgobaiac", sum := "ed2ca13ef858f3a8882ef05472b33ba49c83066ecc628c139ae36deb7eda40e4", func := "loop.example/g00568/laws.FnLeftmost", spec := "fnLeftmost", unfollowed := true, recurses := true, apart := false, narrowed := true }
def FnLeftmostUptoSaid : Prop := fnLeftmostUptoRow.holds Try.pinned (OpenSpec.upto fnLeftmostSpec)

/-- 'laws.FnBest', WHERE WHAT IT READS IS OF BULK AT MOST 1048576: true; the input reads as it did. -/
def fnBestUptoRow : OpenClaim := { program := "ytpniiaemgobaiac", sum := "ed2ca13ef858f3a8882ef05472b33ba49c83066ecc628c139ae36deb7eda40e4", func := "loop.example/g00568/laws.FnBest", spec := "fnBest", unfollowed := true, recurses := true, apart := false, narrowed := true }
def FnBestUptoSaid : Prop := fnBestUptoRow.holds Try.pinned (OpenSpec.upto fnBestSpec)

/-- 'laws.FnMarked', WHERE WHAT IT READS IS OF BULK AT MOST 1048576: true; the input reads as it did. -/
def fnMarkedUptoRow : OpenClaim := { program := "ytpniiaemgobaiac", sum := "ed2ca13ef858f3a8882ef05472b33ba49c83066ecc628c139ae36deb7eda40e4", func := "loop.example/g00568/laws.FnMarked", spec := "fnMarked", inPlace := ["internal/abi.NoEscape"], unfollowed := true, recurses := true, apart := false, narrowed := true }
def FnMarkedUptoSaid : Prop := fnMarkedUptoRow.holds Try.pinned (OpenSpec.upto fnMarkedSpec)

/-- 'laws.FnSuggestedSelf', WHERE WHAT IT READS IS OF BULK AT MOST 1048576: true; the input reads as it did. -/
def fnSuggestedSelfUptoRow : OpenClaim := { program := "ytpniiaemgobaiac", sum := "ed2ca13ef858f3a8882ef05472b33ba49c83066ecc628c139ae36deb7eda40e4", func := "loop.example/g00568/laws.FnSuggestedSelf", spec := "fnSuggestedSelf", unfollowed := true, recurses := true, apart := false, narrowed := true }
def FnSuggestedSelfUptoSaid : Prop := fnSuggestedSelfUptoRow.holds Try.pinned (OpenSpec.upto fnSuggestedSelfSpec)

/-- 'laws.FnExactTrieOf', WHERE WHAT IT READS IS OF BULK AT MOST 1048576: true; the input reads as it did. -/
def fnExactTrieOfUptoRow : OpenClaim := { program := "ytpniiaemgobaiac", sum := "ed2ca13ef858f3a8882ef05472b33ba49c83066ecc628c139ae36deb7eda40e4", func := "loop.example/g00568/laws.FnExactTrieOf", spec := "fnExactTrieOf", recurses := true, apart := false, narrowed := true }
def FnExactTrieOfUptoSaid : Prop := fnExactTrieOfUptoRow.holds Try.pinned (OpenSpec.upto fnExactTrieOfSpec)

/-- 'laws.FnExactTrieOk', WHERE WHAT IT READS IS OF BULK AT MOST 1048576: true; the input reads as it did. -/
def fnExactTrieOkUptoRow : OpenClaim := { program := "ytpniiaemgobaiac", sum := "ed2ca13ef858f3a8882ef05472b33ba49c83066ecc628c139ae36deb7eda40e4", func := "loop.example/g00568/laws.FnExactTrieOk", spec := "fnExactTrieOk", unfollowed := true, recurses := true, apart := false, narrowed := true }
def FnExactTrieOkUptoSaid : Prop := fnExactTrieOkUptoRow.holds Try.pinned (OpenSpec.upto fnExactTrieOkSpec)

end Rows
end Go.Proofs.Ytpniiaemgobaiac

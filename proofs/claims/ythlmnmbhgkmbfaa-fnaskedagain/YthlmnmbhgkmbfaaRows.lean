/-
  No cell of these rows narrows 'for every input' (looked for: loops, veiled, ifaces, maps, wideKeys, modest, calm, conditions, laid).
  DERIVED. THE GIVEN ROWS OF THIS SEAT. 6 by the template 'for every input the law returns true; each argument reads behind the call as it read before'; 0 by the template 'total and deterministic' (their statements: YthlmnmbhgkmbfaaTotals.lean).
  GIVEN WITH THE SEED: the statements are not yours to turn. If you find one false, say at which input.
  Laid BY PROGRAM, IN A SANDBOX (cutbox-rows.mjs): the forced cells as the released guide's own fill.sh prints them over the translation 01e9bd3a3d537911… (all of the seat's roots in one cut). By AI agents, Wed Nov 11 2026. No macro, syntax, notation, axiom, sorry.
-/
import Derived.Test.YthlmnmbhgkmbfaaChecked
import GoSem.Claim
import GoSem.ClaimJoined
import GoSem.ClaimMapViews
import Derived.JoinedTies
import Derived.KernelRfl
namespace Go.Proofs.Ythlmnmbhgkmbfaa
/- THE CELL 'sum', in the pinned program and in every row, IS THE sha256 OF THE DUMP (.gsa) THAT YthlmnmbhgkmbfaaProg.lean LOADS. Nothing in Lean hashes anything: it is a label: what it is worth is what the hold of that sum in a sandbox is worth. -/
noncomputable def Try.pinned : Pinned := { name := "ythlmnmbhgkmbfaa", sum := "01e9bd3a3d537911a1a3beaedd07796e290e2157e969d620edd9eeff0787207f", checked := Try.checked }
namespace Rows
def none {H : Type} : Left H := { results := [], args := [] }

/-- 'laws.FnAskedAgain': WHATEVER THE INPUT: true; the input reads as it did. -/
def fnAskedAgainSpec : ChangeSpec := { name := "fnAskedAgain", fn := fun _ => fun
  | [d] => { results := [.lit (.bool true)], args := [d] }
  | _ => none }
def fnAskedAgainRow : OpenClaim := { program := "ythlmnmbhgkmbfaa", sum := "01e9bd3a3d537911a1a3beaedd07796e290e2157e969d620edd9eeff0787207f", func := "loop.example/g00239/laws.FnAskedAgain", spec := "fnAskedAgain", unfollowed := true, recurses := true, apart := false }
def FnAskedAgainSaid : Prop := fnAskedAgainRow.holds Try.pinned (OpenSpec.ofChange fnAskedAgainSpec)

/-- ITS FALSE NEIGHBOUR: 'it returns false'. Refute it at one input. -/
def fnAskedAgainWrong : ChangeSpec := { name := "fnAskedAgain", fn := fun _ => fun
  | [d] => { results := [.lit (.bool false)], args := [d] }
  | _ => none }
def FnAskedAgainWrongFalsely : Prop := fnAskedAgainRow.holds Try.pinned (OpenSpec.ofChange fnAskedAgainWrong)

/-- 'laws.FnExactMayKeep': WHATEVER THE INPUT: true; the input reads as it did. -/
def fnExactMayKeepSpec : ChangeSpec := { name := "fnExactMayKeep", fn := fun _ => fun
  | [d1, d2] => { results := [.lit (.bool true)], args := [d1, d2] }
  | _ => none }
def fnExactMayKeepRow : OpenClaim := { program := "ythlmnmbhgkmbfaa", sum := "01e9bd3a3d537911a1a3beaedd07796e290e2157e969d620edd9eeff0787207f", func := "loop.example/g00239/laws.FnExactMayKeep", spec := "fnExactMayKeep", unfollowed := true, recurses := true, apart := false }
def FnExactMayKeepSaid : Prop := fnExactMayKeepRow.holds Try.pinned (OpenSpec.ofChange fnExactMayKeepSpec)

/-- ITS FALSE NEIGHBOUR: 'it returns false'. Refute it at one input. -/
def fnExactMayKeepWrong : ChangeSpec := { name := "fnExactMayKeep", fn := fun _ => fun
  | [d1, d2] => { results := [.lit (.bool false)], args := [d1, d2] }
  | _ => none }
def FnExactMayKeepWrongFalsely : Prop := fnExactMayKeepRow.holds Try.pinned (OpenSpec.ofChange fnExactMayKeepWrong)

/-- 'laws.FnExactAsk': WHATEVER THE INPUT: true; the input reads as it did. -/
def fnExactAskSpec : ChangeSpec := { name := "fnExactAsk", fn := fun _ => fun
  | [d1, d2] => { results := [.lit (.bool true)], args := [d1, d2] }
  | _ => none }
def fnExactAskRow : OpenClaim := { program := "ythlmnmbhgkmbfaa", sum := "01e9bd3a3d537911a1a3beaedd07796e290e2157e969d620edd9eeff0787207f", func := "loop.example/g00239/laws.FnExactAsk", spec := "fnExactAsk", unfollowed := true, recurses := true, apart := false }
def FnExactAskSaid : Prop := fnExactAskRow.holds Try.pinned (OpenSpec.ofChange fnExactAskSpec)

/-- ITS FALSE NEIGHBOUR: 'it returns false'. Refute it at one input. -/
def fnExactAskWrong : ChangeSpec := { name := "fnExactAsk", fn := fun _ => fun
  | [d1, d2] => { results := [.lit (.bool false)], args := [d1, d2] }
  | _ => none }
def FnExactAskWrongFalsely : Prop := fnExactAskRow.holds Try.pinned (OpenSpec.ofChange fnExactAskWrong)

/-- 'laws.FnExactMerge': WHATEVER THE INPUT: true; the input reads as it did. -/
def fnExactMergeSpec : ChangeSpec := { name := "fnExactMerge", fn := fun _ => fun
  | [d1, d2] => { results := [.lit (.bool true)], args := [d1, d2] }
  | _ => none }
def fnExactMergeRow : OpenClaim := { program := "ythlmnmbhgkmbfaa", sum := "01e9bd3a3d537911a1a3beaedd07796e290e2157e969d620edd9eeff0787207f", func := "loop.example/g00239/laws.FnExactMerge", spec := "fnExactMerge", unfollowed := true, recurses := true, apart := false }
def FnExactMergeSaid : Prop := fnExactMergeRow.holds Try.pinned (OpenSpec.ofChange fnExactMergeSpec)

/-- ITS FALSE NEIGHBOUR: 'it returns false'. Refute it at one input. -/
def fnExactMergeWrong : ChangeSpec := { name := "fnExactMerge", fn := fun _ => fun
  | [d1, d2] => { results := [.lit (.bool false)], args := [d1, d2] }
  | _ => none }
def FnExactMergeWrongFalsely : Prop := fnExactMergeRow.holds Try.pinned (OpenSpec.ofChange fnExactMergeWrong)

/-- 'laws.FnExactSame': WHATEVER THE INPUT: true; the input reads as it did. -/
def fnExactSameSpec : ChangeSpec := { name := "fnExactSame", fn := fun _ => fun
  | [d1, d2] => { results := [.lit (.bool true)], args := [d1, d2] }
  | _ => none }
def fnExactSameRow : OpenClaim := { program := "ythlmnmbhgkmbfaa", sum := "01e9bd3a3d537911a1a3beaedd07796e290e2157e969d620edd9eeff0787207f", func := "loop.example/g00239/laws.FnExactSame", spec := "fnExactSame", apart := false }
def FnExactSameSaid : Prop := fnExactSameRow.holds Try.pinned (OpenSpec.ofChange fnExactSameSpec)

/-- ITS FALSE NEIGHBOUR: 'it returns false'. Refute it at one input. -/
def fnExactSameWrong : ChangeSpec := { name := "fnExactSame", fn := fun _ => fun
  | [d1, d2] => { results := [.lit (.bool false)], args := [d1, d2] }
  | _ => none }
def FnExactSameWrongFalsely : Prop := fnExactSameRow.holds Try.pinned (OpenSpec.ofChange fnExactSameWrong)

/-- 'laws.FnExactShort': WHATEVER THE INPUT: true; the input reads as it did. -/
def fnExactShortSpec : ChangeSpec := { name := "fnExactShort", fn := fun _ => fun
  | [d] => { results := [.lit (.bool true)], args := [d] }
  | _ => none }
def fnExactShortRow : OpenClaim := { program := "ythlmnmbhgkmbfaa", sum := "01e9bd3a3d537911a1a3beaedd07796e290e2157e969d620edd9eeff0787207f", func := "loop.example/g00239/laws.FnExactShort", spec := "fnExactShort", apart := false }
def FnExactShortSaid : Prop := fnExactShortRow.holds Try.pinned (OpenSpec.ofChange fnExactShortSpec)

/-- ITS FALSE NEIGHBOUR: 'it returns false'. Refute it at one input. -/
def fnExactShortWrong : ChangeSpec := { name := "fnExactShort", fn := fun _ => fun
  | [d] => { results := [.lit (.bool false)], args := [d] }
  | _ => none }
def FnExactShortWrongFalsely : Prop := fnExactShortRow.holds Try.pinned (OpenSpec.ofChange fnExactShortWrong)

/- THE SECOND FORM. 'bulk': how many values and letters a reading holds, each counted each time it is reached (what is shared counts as often as it is met; a slice's spare places count too). A statement '..UptoSaid' is the law's where the arguments, and the package variables that the reading takes, are together of bulk at most 1048576: NARROWER than '..Said'. Prove '..Said' where nothing that the law and all that it calls make is longer than what came in: it says more and counts as full. Else prove '..UptoSaid'. A law counts once. -/
mutual
def uptoBulk {H : Type} : DataW H → Nat
  | .lit (.string bytes) => bytes.length + 1
  | .lit _ => 1
  | .nil => 1
  | .ptr d => uptoBulk d + 1
  | .slice elems spare => uptoBulkAll elems + uptoBulkAll spare + 1
  | .agg parts => uptoBulkAll parts + 1
  | .iface _ d => uptoBulk d + 1
  | .map entries => uptoBulkEntries entries + 1
  | .held _ => 1
def uptoBulkAll {H : Type} : List (DataW H) → Nat
  | [] => 0
  | d :: r => uptoBulk d + uptoBulkAll r
def uptoBulkEntries {H : Type} : List (Lit × DataW H) → Nat
  | [] => 0
  | x :: r => uptoBulkEntry x + uptoBulkEntries r
def uptoBulkEntry {H : Type} : Lit × DataW H → Nat
  | (.string bytes, d) => bytes.length + uptoBulk d + 1
  | (_, d) => uptoBulk d + 1
 end
def uptoSmall : (H : Type) → List (DataW H) → Bool := fun _ ds => decide (uptoBulkAll ds ≤ 1048576)
def OpenSpec.upto (s : _root_.Go.ChangeSpec) : _root_.Go.OpenSpec := { _root_.Go.OpenSpec.ofChange s with cond := some uptoSmall }

/-- 'laws.FnAskedAgain', WHERE WHAT IT READS IS OF BULK AT MOST 1048576: true; the input reads as it did. -/
def fnAskedAgainUptoRow : OpenClaim := { program := "ythlmnmbhgkmbfaa", sum := "01e9bd3a3d537911a1a3beaedd07796e290e2157e969d620edd9eeff0787207f", func := "loop.example/g00239/laws.FnAskedAgain", spec := "fnAskedAgain", unfollowed := true, recurses := true, apart := false, narrowed := true }
def FnAskedAgainUptoSaid : Prop := fnAskedAgainUptoRow.holds Try.pinned (OpenSpec.upto fnAskedAgainSpec)

/-- 'laws.FnExactMayKeep', WHERE WHAT IT READS IS OF BULK AT MOST 1048576: true; the input reads as it did. -/
def fnExactMayKeepUptoRow : OpenClaim := { program := "ythlmnmbhgkmbfaa", sum := "01e9bd3a3d537911a1a3beaedd07796e290e2157e969d620edd9eeff0787207f", func := "loop.example/g00239/laws.FnExactMayKeep", spec := "fnExactMayKeep", unfollowed := true, recurses := true, apart := false, narrowed := true }
def FnExactMayKeepUptoSaid : Prop := fnExactMayKeepUptoRow.holds Try.pinned (OpenSpec.upto fnExactMayKeepSpec)

/-- 'laws.FnExactAsk', WHERE WHAT IT READS IS OF BULK AT MOST 1048576: true; the input reads as it did. -/
def fnExactAskUptoRow : OpenClaim := { program := "ythlmnmbhgkmbfaa", sum := "01e9bd3a3d537911a1a3beaedd07796e290e2157e969d620edd9eeff0787207f", func := "loop.example/g00239/laws.FnExactAsk", spec := "fnExactAsk", unfollowed := true, recurses := true, apart := false, narrowed := true }
def FnExactAskUptoSaid : Prop := fnExactAskUptoRow.holds Try.pinned (OpenSpec.upto fnExactAskSpec)

/-- 'laws.FnExactMerge', WHERE WHAT IT READS IS OF BULK AT MOST 1048576: true; the input reads as it did. -/
def fnExactMergeUptoRow : OpenClaim := { program := "ythlmnmbhgkmbfaa", sum := "01e9bd3a3d537911a1a3beaedd07796e290e2157e969d620edd9eeff0787207f", func := "loop.example/g00239/laws.FnExactMerge", spec := "fnExactMerge", unfollowed := true, recurses := true, apart := false, narrowed := true }
def FnExactMergeUptoSaid : Prop := fnExactMergeUptoRow.holds Try.pinned (OpenSpec.upto fnExactMergeSpec)

/-- 'laws.FnExactSame', WHERE WHAT IT READS IS OF BULK AT MOST 1048576: true; the input reads as it did. -/
def fnExactSameUptoRow : OpenClaim := { program := "ythlmnmbhgkmbfaa", sum := "01e9bd3a3d537911a1a3beaedd07796e290e2157e969d620edd9eeff0787207f", func := "loop.example/g00239/laws.FnExactSame", spec := "fnExactSame", apart := false, narrowed := true }
def FnExactSameUptoSaid : Prop := fnExactSameUptoRow.holds Try.pinned (OpenSpec.upto fnExactSameSpec)

/-- 'laws.FnExactShort', WHERE WHAT IT READS IS OF BULK AT MOST 1048576: true; the input reads as it did. -/
def fnExactShortUptoRow : OpenClaim := { program := "ythlmnmbhgkmbfaa", sum := "01e9bd3a3d537911a1a3beaedd07796e290e2157e969d620edd9eeff0787207f", func := "loop.example/g00239/laws.FnExactShort", spec := "fnExactShort", apart := false, narrowed := true }
def FnExactShortUptoSaid : Prop := fnExactShortUptoRow.holds Try.pinned (OpenSpec.upto fnExactShortSpec)

end Rows
end Go.Proofs.Ythlmnmbhgkmbfaa

/-
  No cell of these rows narrows 'for every input' (looked for: loops, veiled, ifaces, maps, wideKeys, modest, calm, conditions, laid).
  DERIVED. THE GIVEN ROWS OF THIS SEAT. 7 by the template 'for every input the law returns true; each argument reads behind the call as it read before'; 0 by the template 'total and deterministic' (their statements: YtnlifhmobmgpcaaTotals.lean).
  GIVEN WITH THE SEED: the statements are not yours to turn. If you find one false, say at which input.
  Laid BY PROGRAM, IN A SANDBOX (cutbox-rows.mjs): the forced cells as the released guide's own fill.sh prints them over the translation ca27936321968bc5… (all of the seat's roots in one cut). By AI agents, Wed Nov 11 2026. No macro, syntax, notation, axiom, sorry.
-/
import Derived.Test.YtnlifhmobmgpcaaChecked
import GoSem.Claim
import GoSem.ClaimJoined
import GoSem.ClaimMapViews
import Derived.JoinedTies
import Derived.KernelRfl
namespace Go.Proofs.Ytnlifhmobmgpcaa
/- THE CELL 'sum', in the pinned program and in every row, IS THE sha256 OF THE DUMP (.gsa) THAT YtnlifhmobmgpcaaProg.lean LOADS. Nothing in Lean hashes anything: it is a label: what it is worth is what the hold of that sum in a sandbox is worth. -/
noncomputable def Try.pinned : Pinned := { name := "ytnlifhmobmgpcaa", sum := "ca27936321968bc5865ed182a90c2ab6eb79ae9284659bbb9d673094a2efadc3", checked := Try.checked }
namespace Rows
def none {H : Type} : Left H := { results := [], args := [] }

/-- 'laws.FnAges': WHATEVER THE INPUT: true; the input reads as it did. -/
def fnAgesSpec : ChangeSpec := { name := "fnAges", fn := fun _ => fun
  | [d] => { results := [.lit (.bool true)], args := [d] }
  | _ => none }
def fnAgesRow : OpenClaim := { program := "ytnlifhmobmgpcaa", sum := "ca27936321968bc5865ed182a90c2ab6eb79ae9284659bbb9d673094a2efadc3", func := "loop.example/g00239/laws.FnAges", spec := "fnAges", unfollowed := true, recurses := true, apart := false }
def FnAgesSaid : Prop := fnAgesRow.holds Try.pinned (OpenSpec.ofChange fnAgesSpec)

/-- ITS FALSE NEIGHBOUR: 'it returns false'. Refute it at one input. -/
def fnAgesWrong : ChangeSpec := { name := "fnAges", fn := fun _ => fun
  | [d] => { results := [.lit (.bool false)], args := [d] }
  | _ => none }
def FnAgesWrongFalsely : Prop := fnAgesRow.holds Try.pinned (OpenSpec.ofChange fnAgesWrong)

/-- 'laws.FnExactCcRead': WHATEVER THE INPUT: true; the input reads as it did. -/
def fnExactCcReadSpec : ChangeSpec := { name := "fnExactCcRead", fn := fun _ => fun
  | [d] => { results := [.lit (.bool true)], args := [d] }
  | _ => none }
def fnExactCcReadRow : OpenClaim := { program := "ytnlifhmobmgpcaa", sum := "ca27936321968bc5865ed182a90c2ab6eb79ae9284659bbb9d673094a2efadc3", func := "loop.example/g00239/laws.FnExactCcRead", spec := "fnExactCcRead", unfollowed := true, recurses := true, apart := false }
def FnExactCcReadSaid : Prop := fnExactCcReadRow.holds Try.pinned (OpenSpec.ofChange fnExactCcReadSpec)

/-- ITS FALSE NEIGHBOUR: 'it returns false'. Refute it at one input. -/
def fnExactCcReadWrong : ChangeSpec := { name := "fnExactCcRead", fn := fun _ => fun
  | [d] => { results := [.lit (.bool false)], args := [d] }
  | _ => none }
def FnExactCcReadWrongFalsely : Prop := fnExactCcReadRow.holds Try.pinned (OpenSpec.ofChange fnExactCcReadWrong)

/-- 'laws.FnExactCcOf': WHATEVER THE INPUT: true; the input reads as it did. -/
def fnExactCcOfSpec : ChangeSpec := { name := "fnExactCcOf", fn := fun _ => fun
  | [d] => { results := [.lit (.bool true)], args := [d] }
  | _ => none }
def fnExactCcOfRow : OpenClaim := { program := "ytnlifhmobmgpcaa", sum := "ca27936321968bc5865ed182a90c2ab6eb79ae9284659bbb9d673094a2efadc3", func := "loop.example/g00239/laws.FnExactCcOf", spec := "fnExactCcOf", unfollowed := true, recurses := true, apart := false }
def FnExactCcOfSaid : Prop := fnExactCcOfRow.holds Try.pinned (OpenSpec.ofChange fnExactCcOfSpec)

/-- ITS FALSE NEIGHBOUR: 'it returns false'. Refute it at one input. -/
def fnExactCcOfWrong : ChangeSpec := { name := "fnExactCcOf", fn := fun _ => fun
  | [d] => { results := [.lit (.bool false)], args := [d] }
  | _ => none }
def FnExactCcOfWrongFalsely : Prop := fnExactCcOfRow.holds Try.pinned (OpenSpec.ofChange fnExactCcOfWrong)

/-- 'laws.FnExactPlus': WHATEVER THE INPUT: true; the input reads as it did. -/
def fnExactPlusSpec : ChangeSpec := { name := "fnExactPlus", fn := fun _ => fun
  | [d1, d2] => { results := [.lit (.bool true)], args := [d1, d2] }
  | _ => none }
def fnExactPlusRow : OpenClaim := { program := "ytnlifhmobmgpcaa", sum := "ca27936321968bc5865ed182a90c2ab6eb79ae9284659bbb9d673094a2efadc3", func := "loop.example/g00239/laws.FnExactPlus", spec := "fnExactPlus", apart := false }
def FnExactPlusSaid : Prop := fnExactPlusRow.holds Try.pinned (OpenSpec.ofChange fnExactPlusSpec)

/-- ITS FALSE NEIGHBOUR: 'it returns false'. Refute it at one input. -/
def fnExactPlusWrong : ChangeSpec := { name := "fnExactPlus", fn := fun _ => fun
  | [d1, d2] => { results := [.lit (.bool false)], args := [d1, d2] }
  | _ => none }
def FnExactPlusWrongFalsely : Prop := fnExactPlusRow.holds Try.pinned (OpenSpec.ofChange fnExactPlusWrong)

/-- 'laws.FnExactAgeAt': WHATEVER THE INPUT: true; the input reads as it did. -/
def fnExactAgeAtSpec : ChangeSpec := { name := "fnExactAgeAt", fn := fun _ => fun
  | [d1, d2, d3] => { results := [.lit (.bool true)], args := [d1, d2, d3] }
  | _ => none }
def fnExactAgeAtRow : OpenClaim := { program := "ytnlifhmobmgpcaa", sum := "ca27936321968bc5865ed182a90c2ab6eb79ae9284659bbb9d673094a2efadc3", func := "loop.example/g00239/laws.FnExactAgeAt", spec := "fnExactAgeAt", unfollowed := true, recurses := true, apart := false }
def FnExactAgeAtSaid : Prop := fnExactAgeAtRow.holds Try.pinned (OpenSpec.ofChange fnExactAgeAtSpec)

/-- ITS FALSE NEIGHBOUR: 'it returns false'. Refute it at one input. -/
def fnExactAgeAtWrong : ChangeSpec := { name := "fnExactAgeAt", fn := fun _ => fun
  | [d1, d2, d3] => { results := [.lit (.bool false)], args := [d1, d2, d3] }
  | _ => none }
def FnExactAgeAtWrongFalsely : Prop := fnExactAgeAtRow.holds Try.pinned (OpenSpec.ofChange fnExactAgeAtWrong)

/-- 'laws.FnExactLife': WHATEVER THE INPUT: true; the input reads as it did. -/
def fnExactLifeSpec : ChangeSpec := { name := "fnExactLife", fn := fun _ => fun
  | [d] => { results := [.lit (.bool true)], args := [d] }
  | _ => none }
def fnExactLifeRow : OpenClaim := { program := "ytnlifhmobmgpcaa", sum := "ca27936321968bc5865ed182a90c2ab6eb79ae9284659bbb9d673094a2efadc3", func := "loop.example/g00239/laws.FnExactLife", spec := "fnExactLife", unfollowed := true, recurses := true, apart := false }
def FnExactLifeSaid : Prop := fnExactLifeRow.holds Try.pinned (OpenSpec.ofChange fnExactLifeSpec)

/-- ITS FALSE NEIGHBOUR: 'it returns false'. Refute it at one input. -/
def fnExactLifeWrong : ChangeSpec := { name := "fnExactLife", fn := fun _ => fun
  | [d] => { results := [.lit (.bool false)], args := [d] }
  | _ => none }
def FnExactLifeWrongFalsely : Prop := fnExactLifeRow.holds Try.pinned (OpenSpec.ofChange fnExactLifeWrong)

/-- 'laws.FnExactFresh': WHATEVER THE INPUT: true; the input reads as it did. -/
def fnExactFreshSpec : ChangeSpec := { name := "fnExactFresh", fn := fun _ => fun
  | [d1, d2, d3] => { results := [.lit (.bool true)], args := [d1, d2, d3] }
  | _ => none }
def fnExactFreshRow : OpenClaim := { program := "ytnlifhmobmgpcaa", sum := "ca27936321968bc5865ed182a90c2ab6eb79ae9284659bbb9d673094a2efadc3", func := "loop.example/g00239/laws.FnExactFresh", spec := "fnExactFresh", unfollowed := true, recurses := true, apart := false }
def FnExactFreshSaid : Prop := fnExactFreshRow.holds Try.pinned (OpenSpec.ofChange fnExactFreshSpec)

/-- ITS FALSE NEIGHBOUR: 'it returns false'. Refute it at one input. -/
def fnExactFreshWrong : ChangeSpec := { name := "fnExactFresh", fn := fun _ => fun
  | [d1, d2, d3] => { results := [.lit (.bool false)], args := [d1, d2, d3] }
  | _ => none }
def FnExactFreshWrongFalsely : Prop := fnExactFreshRow.holds Try.pinned (OpenSpec.ofChange fnExactFreshWrong)

/- THE SECOND FORM. 'bulk': how many values and letters a reading holds, each counted each time it is reached (what is shared counts as often as it is met; a slice's spare places count too). A statement '..UptoSaid' is the law's where the arguments, and the package variables that the reading takes, are together of bulk at most 1048576: NARROWER than '..Said'. Prove '..Said' where nothing that the law and all that it calls make is longer than what came in: it says more and counts as full. Else prove '..UptoSaid'. A law counts once. -/
mutual
def uptoBulk {H : Type} : DataW H → Nat
  | .lit (.string bytes) => bytes.length + 1
  | .lit _ => 1
  | .nil => 1
  | .ptr d => uptoBulk d + 1
  | .slice elems spare => uptoBulkAll elems + uptoBulkAll spare + 1
  | .agg parts => uptoBulkAll parts + 1
  | .iface _ d => uptoBulk d + 1
  | .map entries => uptoBulkEntries entries + 1
  | .held _ => 1
def uptoBulkAll {H : Type} : List (DataW H) → Nat
  | [] => 0
  | d :: r => uptoBulk d + uptoBulkAll r
def uptoBulkEntries {H : Type} : List (Lit × DataW H) → Nat
  | [] => 0
  | x :: r => uptoBulkEntry x + uptoBulkEntries r
def uptoBulkEntry {H : Type} : Lit × DataW H → Nat
  | (.string bytes, d) => bytes.length + uptoBulk d + 1
  | (_, d) => uptoBulk d + 1
 end
def uptoSmall : (H : Type) → List (DataW H) → Bool := fun _ ds => decide (uptoBulkAll ds ≤ 1048576)
def OpenSpec.upto (s : _root_.Go.ChangeSpec) : _root_.Go.OpenSpec := { _root_.Go.OpenSpec.ofChange s with cond := some uptoSmall }

/-- 'laws.FnAges', WHERE WHAT IT READS IS OF BULK AT MOST 1048576: true; the input reads as it did. -/
def fnAgesUptoRow : OpenClaim := { program := "ytnlifhmobmgpcaa", sum := "ca27936321968bc5865ed182a90c2ab6eb79ae9284659bbb9d673094a2efadc3", func := "loop.example/g00239/laws.FnAges", spec := "fnAges", unfollowed := true, recurses := true, apart := false, narrowed := true }
def FnAgesUptoSaid : Prop := fnAgesUptoRow.holds Try.pinned (OpenSpec.upto fnAgesSpec)

/-- 'laws.FnExactCcRead', WHERE WHAT IT READS IS OF BULK AT MOST 1048576: true; the input reads as it did. -/
def fnExactCcReadUptoRow : OpenClaim := { program := "ytnlifhmobmgpcaa", sum := "ca27936321968bc5865ed182a90c2ab6eb79ae9284659bbb9d673094a2efadc3", func := "loop.example/g00239/laws.FnExactCcRead", spec := "fnExactCcRead", unfollowed := true, recurses := true, apart := false, narrowed := true }
def FnExactCcReadUptoSaid : Prop := fnExactCcReadUptoRow.holds Try.pinned (OpenSpec.upto fnExactCcReadSpec)

/-- 'laws.FnExactCcOf', WHERE WHAT IT READS IS OF BULK AT MOST 1048576: true; the input reads as it did. -/
def fnExactCcOfUptoRow : OpenClaim := { program := "ytnlifhmobmgpcaa", sum := "ca27936321968bc5865ed182a90c2ab6eb79ae9284659bbb9d673094a2efadc3", func := "loop.example/g00239/laws.FnExactCcOf", spec := "fnExactCcOf", unfollowed := true, recurses := true, apart := false, narrowed := true }
def FnExactCcOfUptoSaid : Prop := fnExactCcOfUptoRow.holds Try.pinned (OpenSpec.upto fnExactCcOfSpec)

/-- 'laws.FnExactPlus', WHERE WHAT IT READS IS OF BULK AT MOST 1048576: true; the input reads as it did. -/
def fnExactPlusUptoRow : OpenClaim := { program := "ytnlifhmobmgpcaa", sum := "ca27936321968bc5865ed182a90c2ab6eb79ae9284659bbb9d673094a2efadc3", func := "loop.example/g00239/laws.FnExactPlus", spec := "fnExactPlus", apart := false, narrowed := true }
def FnExactPlusUptoSaid : Prop := fnExactPlusUptoRow.holds Try.pinned (OpenSpec.upto fnExactPlusSpec)

/-- 'laws.FnExactAgeAt', WHERE WHAT IT READS IS OF BULK AT MOST 1048576: true; the input reads as it did. -/
def fnExactAgeAtUptoRow : OpenClaim := { program := "ytnlifhmobmgpcaa", sum := "ca27936321968bc5865ed182a90c2ab6eb79ae9284659bbb9d673094a2efadc3", func := "loop.example/g00239/laws.FnExactAgeAt", spec := "fnExactAgeAt", unfollowed := true, recurses := true, apart := false, narrowed := true }
def FnExactAgeAtUptoSaid : Prop := fnExactAgeAtUptoRow.holds Try.pinned (OpenSpec.upto fnExactAgeAtSpec)

/-- 'laws.FnExactLife', WHERE WHAT IT READS IS OF BULK AT MOST 1048576: true; the input reads as it did. -/
def fnExactLifeUptoRow : OpenClaim := { program := "ytnlifhmobmgpcaa", sum := "ca27936321968bc5865ed182a90c2ab6eb79ae9284659bbb9d673094a2efadc3", func := "loop.example/g00239/laws.FnExactLife", spec := "fnExactLife", unfollowed := true, recurses := true, apart := false, narrowed := true }
def FnExactLifeUptoSaid : Prop := fnExactLifeUptoRow.holds Try.pinned (OpenSpec.upto fnExactLifeSpec)

/-- 'laws.FnExactFresh', WHERE WHAT IT READS IS OF BULK AT MOST 1048576: true; the input reads as it did. -/
def fnExactFreshUptoRow : OpenClaim := { program := "ytnlifhmobmgpcaa", sum := "ca27936321968bc5865ed182a90c2ab6eb79ae9284659bbb9d673094a2efadc3", func := "loop.example/g00239/laws.FnExactFresh", spec := "fnExactFresh", unfollowed := true, recurses := true, apart := false, narrowed := true }
def FnExactFreshUptoSaid : Prop := fnExactFreshUptoRow.holds Try.pinned (OpenSpec.upto fnExactFreshSpec)

end Rows
end Go.Proofs.Ytnlifhmobmgpcaa

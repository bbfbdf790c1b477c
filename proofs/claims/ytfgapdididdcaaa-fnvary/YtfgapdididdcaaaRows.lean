/-
  No cell of these rows narrows 'for every input' (looked for: loops, veiled, ifaces, maps, wideKeys, modest, calm, conditions, laid).
  DERIVED. THE GIVEN ROWS OF THIS SEAT. 4 by the template 'for every input the law returns true; each argument reads behind the call as it read before'; 0 by the template 'total and deterministic' (their statements: YtfgapdididdcaaaTotals.lean).
  GIVEN WITH THE SEED: the statements are not yours to turn. If you find one false, say at which input.
  Laid BY PROGRAM, IN A SANDBOX (cutbox-rows.mjs): the forced cells as the released guide's own fill.sh prints them over the translation 5c52d0b73377afc0… (all of the seat's roots in one cut). By AI agents, Wed Nov 11 2026. No macro, syntax, notation, axiom, sorry.
-/
import Derived.Test.YtfgapdididdcaaaChecked
import GoSem.Claim
import GoSem.ClaimJoined
import GoSem.ClaimMapViews
import Derived.JoinedTies
import Derived.KernelRfl
namespace Go.Proofs.Ytfgapdididdcaaa
/- THE CELL 'sum', in the pinned program and in every row, IS THE sha256 OF THE DUMP (.gsa) THAT YtfgapdididdcaaaProg.lean LOADS. Nothing in Lean hashes anything: it is a label: what it is worth is what the hold of that sum in a sandbox is worth. -/
noncomputable def Try.pinned : Pinned := { name := "ytfgapdididdcaaa", sum := "5c52d0b73377afc069dae290cd69ea8c0c7ac31493bd9bfb109682f67b26ae47", checked := Try.checked }
namespace Rows
def none {H : Type} : Left H := { results := [], args := [] }

/-- 'laws.FnVary': WHATEVER THE INPUT: true; the input reads as it did. -/
def fnVarySpec : ChangeSpec := { name := "fnVary", fn := fun _ => fun
  | [d] => { results := [.lit (.bool true)], args := [d] }
  | _ => none }
def fnVaryRow : OpenClaim := { program := "ytfgapdididdcaaa", sum := "5c52d0b73377afc069dae290cd69ea8c0c7ac31493bd9bfb109682f67b26ae47", func := "loop.example/g00239/laws.FnVary", spec := "fnVary", unfollowed := true, recurses := true, apart := false }
def FnVarySaid : Prop := fnVaryRow.holds Try.pinned (OpenSpec.ofChange fnVarySpec)

/-- ITS FALSE NEIGHBOUR: 'it returns false'. Refute it at one input. -/
def fnVaryWrong : ChangeSpec := { name := "fnVary", fn := fun _ => fun
  | [d] => { results := [.lit (.bool false)], args := [d] }
  | _ => none }
def FnVaryWrongFalsely : Prop := fnVaryRow.holds Try.pinned (OpenSpec.ofChange fnVaryWrong)

/-- 'laws.FnExactVaryOf': WHATEVER THE INPUT: true; the input reads as it did. -/
def fnExactVaryOfSpec : ChangeSpec := { name := "fnExactVaryOf", fn := fun _ => fun
  | [d] => { results := [.lit (.bool true)], args := [d] }
  | _ => none }
def fnExactVaryOfRow : OpenClaim := { program := "ytfgapdididdcaaa", sum := "5c52d0b73377afc069dae290cd69ea8c0c7ac31493bd9bfb109682f67b26ae47", func := "loop.example/g00239/laws.FnExactVaryOf", spec := "fnExactVaryOf", unfollowed := true, recurses := true, apart := false }
def FnExactVaryOfSaid : Prop := fnExactVaryOfRow.holds Try.pinned (OpenSpec.ofChange fnExactVaryOfSpec)

/-- ITS FALSE NEIGHBOUR: 'it returns false'. Refute it at one input. -/
def fnExactVaryOfWrong : ChangeSpec := { name := "fnExactVaryOf", fn := fun _ => fun
  | [d] => { results := [.lit (.bool false)], args := [d] }
  | _ => none }
def FnExactVaryOfWrongFalsely : Prop := fnExactVaryOfRow.holds Try.pinned (OpenSpec.ofChange fnExactVaryOfWrong)

/-- 'laws.FnExactValuesOf': WHATEVER THE INPUT: true; the input reads as it did. -/
def fnExactValuesOfSpec : ChangeSpec := { name := "fnExactValuesOf", fn := fun _ => fun
  | [d1, d2] => { results := [.lit (.bool true)], args := [d1, d2] }
  | _ => none }
def fnExactValuesOfRow : OpenClaim := { program := "ytfgapdididdcaaa", sum := "5c52d0b73377afc069dae290cd69ea8c0c7ac31493bd9bfb109682f67b26ae47", func := "loop.example/g00239/laws.FnExactValuesOf", spec := "fnExactValuesOf", unfollowed := true, recurses := true, apart := false }
def FnExactValuesOfSaid : Prop := fnExactValuesOfRow.holds Try.pinned (OpenSpec.ofChange fnExactValuesOfSpec)

/-- ITS FALSE NEIGHBOUR: 'it returns false'. Refute it at one input. -/
def fnExactValuesOfWrong : ChangeSpec := { name := "fnExactValuesOf", fn := fun _ => fun
  | [d1, d2] => { results := [.lit (.bool false)], args := [d1, d2] }
  | _ => none }
def FnExactValuesOfWrongFalsely : Prop := fnExactValuesOfRow.holds Try.pinned (OpenSpec.ofChange fnExactValuesOfWrong)

/-- 'laws.FnExactSuits': WHATEVER THE INPUT: true; the input reads as it did. -/
def fnExactSuitsSpec : ChangeSpec := { name := "fnExactSuits", fn := fun _ => fun
  | [d1, d2, d3] => { results := [.lit (.bool true)], args := [d1, d2, d3] }
  | _ => none }
def fnExactSuitsRow : OpenClaim := { program := "ytfgapdididdcaaa", sum := "5c52d0b73377afc069dae290cd69ea8c0c7ac31493bd9bfb109682f67b26ae47", func := "loop.example/g00239/laws.FnExactSuits", spec := "fnExactSuits", unfollowed := true, recurses := true, apart := false }
def FnExactSuitsSaid : Prop := fnExactSuitsRow.holds Try.pinned (OpenSpec.ofChange fnExactSuitsSpec)

/-- ITS FALSE NEIGHBOUR: 'it returns false'. Refute it at one input. -/
def fnExactSuitsWrong : ChangeSpec := { name := "fnExactSuits", fn := fun _ => fun
  | [d1, d2, d3] => { results := [.lit (.bool false)], args := [d1, d2, d3] }
  | _ => none }
def FnExactSuitsWrongFalsely : Prop := fnExactSuitsRow.holds Try.pinned (OpenSpec.ofChange fnExactSuitsWrong)

/- THE SECOND FORM. 'bulk': how many values and letters a reading holds, each counted each time it is reached (what is shared counts as often as it is met; a slice's spare places count too). A statement '..UptoSaid' is the law's where the arguments, and the package variables that the reading takes, are together of bulk at most 1048576: NARROWER than '..Said'. Prove '..Said' where nothing that the law and all that it calls make is longer than what came in: it says more and counts as full. Else prove '..UptoSaid'. A law counts once. -/
mutual
def uptoBulk {H : Type} : DataW H → Nat
  | .lit (.string bytes) => bytes.length + 1
  | .lit _ => 1
  | .nil => 1
  | .ptr d => uptoBulk d + 1
  | .slice elems spare => uptoBulkAll elems + uptoBulkAll spare + 1
  | .agg parts => uptoBulkAll parts + 1
  | .iface _ d => uptoBulk d + 1
  | .map entries => uptoBulkEntries entries + 1
  | .held _ => 1
def uptoBulkAll {H : Type} : List (DataW H) → Nat
  | [] => 0
  | d :: r => uptoBulk d + uptoBulkAll r
def uptoBulkEntries {H : Type} : List (Lit × DataW H) → Nat
  | [] => 0
  | x :: r => uptoBulkEntry x + uptoBulkEntries r
def uptoBulkEntry {H : Type} : Lit × DataW H → Nat
  | (.string bytes, d) => bytes.length + uptoBulk d + 1
  | (_, d) => uptoBulk d + 1
 end
def uptoSmall : (H : Type) → List (DataW H) → Bool := fun _ ds => decide (uptoBulkAll ds ≤ 1048576)
def OpenSpec.upto (s : _root_.Go.ChangeSpec) : _root_.Go.OpenSpec := { _root_.Go.OpenSpec.ofChange s with cond := some uptoSmall }

/-- 'laws.FnVary', WHERE WHAT IT READS IS OF BULK AT MOST 1048576: true; the input reads as it did. -/
def fnVaryUptoRow : OpenClaim := { program := "ytfgapdididdcaaa", sum := "5c52d0b73377afc069dae290cd69ea8c0c7ac31493bd9bfb109682f67b26ae47", func := "loop.example/g00239/laws.FnVary", spec := "fnVary", unfollowed := true, recurses := true, apart := false, narrowed := true }
def FnVaryUptoSaid : Prop := fnVaryUptoRow.holds Try.pinned (OpenSpec.upto fnVarySpec)

/-- 'laws.FnExactVaryOf', WHERE WHAT IT READS IS OF BULK AT MOST 1048576: true; the input reads as it did. -/
def fnExactVaryOfUptoRow : OpenClaim := { program := "ytfgapdididdcaaa", sum := "5c52d0b73377afc069dae290cd69ea8c0c7ac31493bd9bfb109682f67b26ae47", func := "loop.example/g00239/laws.FnExactVaryOf", spec := "fnExactVaryOf", unfollowed := true, recurses := true, apart := false, narrowed := true }
def FnExactVaryOfUptoSaid : Prop := fnExactVaryOfUptoRow.holds Try.pinned (OpenSpec.upto fnExactVaryOfSpec)

/-- 'laws.FnExactValuesOf', WHERE WHAT IT READS IS OF BULK AT MOST 1048576: true; the input reads as it did. -/
def fnExactValuesOfUptoRow : OpenClaim := { program := "ytfgapdididdcaaa", sum := "5c52d0b73377afc069dae290cd69ea8c0c7ac31493bd9bfb109682f67b26ae47", func := "loop.example/g00239/laws.FnExactValuesOf", spec := "fnExactValuesOf", unfollowed := true, recurses := true, apart := false, narrowed := true }
def FnExactValuesOfUptoSaid : Prop := fnExactValuesOfUptoRow.holds Try.pinned (OpenSpec.upto fnExactValuesOfSpec)

/-- 'laws.FnExactSuits', WHERE WHAT IT READS IS OF BULK AT MOST 1048576: true; the input reads as it did. -/
def fnExactSuitsUptoRow : OpenClaim := { program := "ytfgapdididdcaaa", sum := "5c52d0b73377afc069dae290cd69ea8c0c7ac31493bd9bfb109682f67b26ae47", func := "loop.example/g00239/laws.FnExactSuits", spec := "fnExactSuits", unfollowed := true, recurses := true, apart := false, narrowed := true }
def FnExactSuitsUptoSaid : Prop := fnExactSuitsUptoRow.holds Try.pinned (OpenSpec.upto fnExactSuitsSpec)

end Rows
end Go.Proofs.Ytfgapdididdcaaa

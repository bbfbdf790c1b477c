/-
  No cell of these rows narrows 'for every input' (looked for: loops, veiled, ifaces, maps, wideKeys, modest, calm, conditions, laid).
  DERIVED. THE GIVEN ROWS OF THIS SEAT. 3 by the template 'for every input the law returns true; each argument reads behind the call as it read before'; 0 by the template 'total and deterministic' (their statements: YtlmenolcgaakeaaTotals.lean).
  GIVEN WITH THE SEED: the statements are not yours to turn. If you find one false, say at which input.
  Laid BY PROGRAM, IN A SANDBOX (cutbox-rows.mjs): the forced cells as the released guide's own fill.sh prints them over the translation 7afc38dc09ab7405… (all of the seat's roots in one cut). By AI agents, Wed Nov 11 2026. No macro, syntax, notation, axiom, sorry.
-/
import Derived.Test.YtlmenolcgaakeaaChecked
import GoSem.Claim
import GoSem.ClaimJoined
import GoSem.ClaimMapViews
import Derived.JoinedTies
import Derived.KernelRfl
namespace Go.Proofs.Ytlmenolcgaakeaa
/- THE CELL 'sum', in the pinned program and in every row, IS THE sha256 OF THE DUMP (.gsa) THAT YtlmenolcgaakeaaProg.lean LOADS. Nothing in Lean hashes anything: it is a label: what it is worth is what the hold of that sum in a sandbox is worth. -/
noncomputable def Try.pinned : Pinned := { name := "ytlmenolcgaakeaa", sum := "7afc38dc09ab7405ddc0f5a6bae84d2b10172788278ed67e8a1ce0b7a569c9c5", checked := Try.checked }
namespace Rows
def none {H : Type} : Left H := { results := [], args := [] }

/-- 'laws.FnExactBanOk': WHATEVER THE INPUT: true; the input reads as it did. -/
def fnExactBanOkSpec : ChangeSpec := { name := "fnExactBanOk", fn := fun _ => fun
  | [d] => { results := [.lit (.bool true)], args := [d] }
  | _ => none }
def fnExactBanOkRow : OpenClaim := { program := "ytlmenolcgaakeaa", sum := "7afc38dc09ab7405ddc0f5a6bae84d2b10172788278ed67e8a1ce0b7a569c9c5", func := "loop.example/g00239/laws.FnExactBanOk", spec := "fnExactBanOk", unfollowed := true, recurses := true, apart := false }
def FnExactBanOkSaid : Prop := fnExactBanOkRow.holds Try.pinned (OpenSpec.ofChange fnExactBanOkSpec)

/-- ITS FALSE NEIGHBOUR: 'it returns false'. Refute it at one input. -/
def fnExactBanOkWrong : ChangeSpec := { name := "fnExactBanOk", fn := fun _ => fun
  | [d] => { results := [.lit (.bool false)], args := [d] }
  | _ => none }
def FnExactBanOkWrongFalsely : Prop := fnExactBanOkRow.holds Try.pinned (OpenSpec.ofChange fnExactBanOkWrong)

/-- 'laws.FnExactHits': WHATEVER THE INPUT: true; the input reads as it did. -/
def fnExactHitsSpec : ChangeSpec := { name := "fnExactHits", fn := fun _ => fun
  | [d1, d2] => { results := [.lit (.bool true)], args := [d1, d2] }
  | _ => none }
def fnExactHitsRow : OpenClaim := { program := "ytlmenolcgaakeaa", sum := "7afc38dc09ab7405ddc0f5a6bae84d2b10172788278ed67e8a1ce0b7a569c9c5", func := "loop.example/g00239/laws.FnExactHits", spec := "fnExactHits", unfollowed := true, recurses := true, apart := false }
def FnExactHitsSaid : Prop := fnExactHitsRow.holds Try.pinned (OpenSpec.ofChange fnExactHitsSpec)

/-- ITS FALSE NEIGHBOUR: 'it returns false'. Refute it at one input. -/
def fnExactHitsWrong : ChangeSpec := { name := "fnExactHits", fn := fun _ => fun
  | [d1, d2] => { results := [.lit (.bool false)], args := [d1, d2] }
  | _ => none }
def FnExactHitsWrongFalsely : Prop := fnExactHitsRow.holds Try.pinned (OpenSpec.ofChange fnExactHitsWrong)

/-- 'laws.FnExactHitsAny': WHATEVER THE INPUT: true; the input reads as it did. -/
def fnExactHitsAnySpec : ChangeSpec := { name := "fnExactHitsAny", fn := fun _ => fun
  | [d1, d2] => { results := [.lit (.bool true)], args := [d1, d2] }
  | _ => none }
def fnExactHitsAnyRow : OpenClaim := { program := "ytlmenolcgaakeaa", sum := "7afc38dc09ab7405ddc0f5a6bae84d2b10172788278ed67e8a1ce0b7a569c9c5", func := "loop.example/g00239/laws.FnExactHitsAny", spec := "fnExactHitsAny", unfollowed := true, recurses := true, apart := false }
def FnExactHitsAnySaid : Prop := fnExactHitsAnyRow.holds Try.pinned (OpenSpec.ofChange fnExactHitsAnySpec)

/-- ITS FALSE NEIGHBOUR: 'it returns false'. Refute it at one input. -/
def fnExactHitsAnyWrong : ChangeSpec := { name := "fnExactHitsAny", fn := fun _ => fun
  | [d1, d2] => { results := [.lit (.bool false)], args := [d1, d2] }
  | _ => none }
def FnExactHitsAnyWrongFalsely : Prop := fnExactHitsAnyRow.holds Try.pinned (OpenSpec.ofChange fnExactHitsAnyWrong)

/- THE SECOND FORM. 'bulk': how many values and letters a reading holds, each counted each time it is reached (what is shared counts as often as it is met; a slice's spare places count too). A statement '..UptoSaid' is the law's where the arguments, and the package variables that the reading takes, are together of bulk at most 1048576: NARROWER than '..Said'. Prove '..Said' where nothing that the law and all that it calls make is longer than what came in: it says more and counts as full. Else prove '..UptoSaid'. A law counts once. -/
mutual
def uptoBulk {H : Type} : DataW H → Nat
  | .lit (.string bytes) => bytes.length + 1
  | .lit _ => 1
  | .nil => 1
  | .ptr d => uptoBulk d + 1
  | .slice elems spare => uptoBulkAll elems + uptoBulkAll spare + 1
  | .agg parts => uptoBulkAll parts + 1
  | .iface _ d => uptoBulk d + 1
  | .map entries => uptoBulkEntries entries + 1
  | .held _ => 1
def uptoBulkAll {H : Type} : List (DataW H) → Nat
  | [] => 0
  | d :: r => uptoBulk d + uptoBulkAll r
def uptoBulkEntries {H : Type} : List (Lit × DataW H) → Nat
  | [] => 0
  | x :: r => uptoBulkEntry x + uptoBulkEntries r
def uptoBulkEntry {H : Type} : Lit × DataW H → Nat
  | (.string bytes, d) => bytes.length + uptoBulk d + 1
  | (_, d) => uptoBulk d + 1
 end
def uptoSmall : (H : Type) → List (DataW H) → Bool := fun _ ds => decide (uptoBulkAll ds ≤ 1048576)
def OpenSpec.upto (s : _root_.Go.ChangeSpec) : _root_.Go.OpenSpec := { _root_.Go.OpenSpec.ofChange s with cond := some uptoSmall }

/-- 'laws.FnExactBanOk', WHERE WHAT IT READS IS OF BULK AT MOST 1048576: true; the input reads as it did. -/
def fnExactBanOkUptoRow : OpenClaim := { program := "ytlmenolcgaakeaa", sum := "7afc38dc09ab7405ddc0f5a6bae84d2b10172788278ed67e8a1ce0b7a569c9c5", func := "loop.example/g00239/laws.FnExactBanOk", spec := "fnExactBanOk", unfollowed := true, recurses := true, apart := false, narrowed := true }
def FnExactBanOkUptoSaid : Prop := fnExactBanOkUptoRow.holds Try.pinned (OpenSpec.upto fnExactBanOkSpec)

/-- 'laws.FnExactHits', WHERE WHAT IT READS IS OF BULK AT MOST 1048576: true; the input reads as it did. -/
def fnExactHitsUptoRow : OpenClaim := { program := "ytlmenolcgaakeaa", sum := "7afc38dc09ab7405ddc0f5a6bae84d2b10172788278ed67e8a1ce0b7a569c9c5", func := "loop.example/g00239/laws.FnExactHits", spec := "fnExactHits", unfollowed := true, recurses := true, apart := false, narrowed := true }
def FnExactHitsUptoSaid : Prop := fnExactHitsUptoRow.holds Try.pinned (OpenSpec.upto fnExactHitsSpec)

/-- 'laws.FnExactHitsAny', WHERE WHAT IT READS IS OF BULK AT MOST 1048576: true; the input reads as it did. -/
def fnExactHitsAnyUptoRow : OpenClaim := { program := "ytlmenolcgaakeaa", sum := "7afc38dc09ab7405ddc0f5a6bae84d2b10172788278ed67e8a1ce0b7a569c9c5", func := "loop.example/g00239/laws.FnExactHitsAny", spec := "fnExactHitsAny", unfollowed := true, recurses := true, apart := false, narrowed := true }
def FnExactHitsAnyUptoSaid : Prop := fnExactHitsAnyUptoRow.holds Try.pinned (OpenSpec.upto fnExactHitsAnySpec)

end Rows
end Go.Proofs.Ytlmenolcgaakeaa

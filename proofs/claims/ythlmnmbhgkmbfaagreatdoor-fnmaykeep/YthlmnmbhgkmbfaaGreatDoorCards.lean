/-
  DERIVED. GIVEN WITH THE SEED: THE CARDS: each row of YthlmnmbhgkmbfaaGreatDoorRows.lean that lists a variable, with what it lists TIED to the program's text (the seventh form; the later family's looks); each row that meets fmt, with fmt's text TOLD by the authors' own Lean function (tested against real Go, not proved from fmt's source: count such statements apart). THE CARD IS WHAT COUNTS. Prove the row's statement (the work); the ties are given (YthlmnmbhgkmbfaaGreatDoorTie.lean); close each card by the builder's one call (the guide's Derived/Test/ToyasCard.lean, 'card_holds'). Laid BY PROGRAM, IN A SANDBOX (cutbox-door.mjs). By AI agents, Wed Nov 11 2026. No macro, syntax, notation, axiom, sorry.
-/
import Derived.Test.YthlmnmbhgkmbfaaGreatDoorRows
import GoSem.ClaimSeven
namespace Go.Proofs.YthlmnmbhgkmbfaaGreatDoor
namespace Rows

/-- THE TIED CARD OF 'laws.FnMayKeep'. -/
def fnMayKeepCard : Claim7 := { stood := { row := fnMayKeepRow, standIns := [], harness := (true, "1d6e6adf8deb38a73eefe3df0bdd4135da9e00fe2138a084620ab96369075ca1"), looks := false }, kinds := [], alts := [], laidByText := true, laidKinds := [.data, .data, .data], laidTests := true, laidLooks := .later }
def FnMayKeepCardSaid : Prop := Claim7.holds Tryz.pinned (.plain (OpenSpec.ofChange fnMayKeepSpec)) fnMayKeepCard

/-- THE SECOND FORM's CARD OF 'laws.FnMayKeep'. -/
def fnMayKeepUptoCard : Claim7 := { stood := { row := fnMayKeepUptoRow, standIns := [], harness := (true, "1d6e6adf8deb38a73eefe3df0bdd4135da9e00fe2138a084620ab96369075ca1"), looks := false }, kinds := [], alts := [], laidByText := true, laidKinds := [.data, .data, .data], laidTests := true, laidLooks := .later }
def FnMayKeepUptoCardSaid : Prop := Claim7.holds Tryz.pinned (.plain (OpenSpec.upto fnMayKeepSpec)) fnMayKeepUptoCard
end Rows
end Go.Proofs.YthlmnmbhgkmbfaaGreatDoor

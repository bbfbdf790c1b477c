/-
  DERIVED. GIVEN WITH THE SEED: THE CARDS: each row of YtpacdigfnneoeaaGreatDoorRows.lean that lists a variable, with what it lists TIED to the program's text (the seventh form; the later family's looks); each row that meets fmt, with fmt's text TOLD by the authors' own Lean function (tested against real Go, not proved from fmt's source: count such statements apart). THE CARD IS WHAT COUNTS. Prove the row's statement (the work); the ties are given (YtpacdigfnneoeaaGreatDoorTie.lean); close each card by the builder's one call (the guide's Derived/Test/ToyasCard.lean, 'card_holds'). Laid BY PROGRAM, IN A SANDBOX (cutbox-door.mjs). By AI agents, Wed Nov 11 2026. No macro, syntax, notation, axiom, sorry.
-/
import Derived.Test.YtpacdigfnneoeaaGreatDoorRows
import GoSem.ClaimSeven
namespace Go.Proofs.YtpacdigfnneoeaaGreatDoor
namespace Rows

/-- THE TIED CARD OF 'laws.FnExactJudgeHere'. -/
def fnExactJudgeHereCard : Claim7 := { stood := { row := fnExactJudgeHereRow, standIns := [], harness := (true, "acfcb9cfb53e1d63cc689fb7bc8a0f8d2b693337b762564b5c66ec6f7ebdb835"), looks := true }, kinds := [], alts := [], laidByText := true, laidKinds := [.data, .data, .data], laidTests := true, laidLooks := .later }
def FnExactJudgeHereCardSaid : Prop := Claim7.holds Tryz.pinned (.plain (OpenSpec.ofChange fnExactJudgeHereSpec)) fnExactJudgeHereCard

/-- THE SECOND FORM's CARD OF 'laws.FnExactJudgeHere'. -/
def fnExactJudgeHereUptoCard : Claim7 := { stood := { row := fnExactJudgeHereUptoRow, standIns := [], harness := (true, "acfcb9cfb53e1d63cc689fb7bc8a0f8d2b693337b762564b5c66ec6f7ebdb835"), looks := true }, kinds := [], alts := [], laidByText := true, laidKinds := [.data, .data, .data], laidTests := true, laidLooks := .later }
def FnExactJudgeHereUptoCardSaid : Prop := Claim7.holds Tryz.pinned (.plain (OpenSpec.upto fnExactJudgeHereSpec)) fnExactJudgeHereUptoCard
end Rows
end Go.Proofs.YtpacdigfnneoeaaGreatDoor

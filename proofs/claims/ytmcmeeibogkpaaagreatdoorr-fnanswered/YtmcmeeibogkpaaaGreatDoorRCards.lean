/-
  DERIVED. GIVEN WITH THE SEED: THE CARDS: each row of YtmcmeeibogkpaaaGreatDoorRRows.lean that lists a variable, with what it lists TIED to the program's text (the seventh form; the later family's looks); each row that meets fmt, with fmt's text TOLD by the authors' own Lean function (tested against real Go, not proved from fmt's source: count such statements apart). THE CARD IS WHAT COUNTS. Prove the row's statement (the work); the ties are given (YtmcmeeibogkpaaaGreatDoorRTie.lean); close each card by the builder's one call (the guide's Derived/Test/ToyasCard.lean, 'card_holds'). Laid BY PROGRAM, IN A SANDBOX (cutbox-door.mjs). By AI agents, Wed Nov 11 2026. No macro, syntax, notation, axiom, sorry.
-/
import Derived.Test.YtmcmeeibogkpaaaGreatDoorRRows
import GoSem.ClaimSeven
namespace Go.Proofs.YtmcmeeibogkpaaaGreatDoorR
namespace Rows

/-- THE TIED CARD OF 'laws.FnAnswered'. -/
def fnAnsweredCard : Claim7 := { stood := { row := fnAnsweredRow, standIns := [], harness := (true, "240995a350d369cedac98c7828edacdaa10ad168cbed7ca4742303ebe28f3026"), looks := false }, kinds := [], alts := [], laidByText := true, laidKinds := [.data, .data, .data], laidTests := true, laidLooks := .later }
def FnAnsweredCardSaid : Prop := Claim7.holds Tryz.pinned (.plain (OpenSpec.ofChange fnAnsweredSpec)) fnAnsweredCard

/-- THE TIED CARD OF 'laws.FnExactAnswer'. -/
def fnExactAnswerCard : Claim7 := { stood := { row := fnExactAnswerRow, standIns := [], harness := (true, "240995a350d369cedac98c7828edacdaa10ad168cbed7ca4742303ebe28f3026"), looks := false }, kinds := [], alts := [], laidByText := true, laidKinds := [.data, .data, .data], laidTests := true, laidLooks := .later }
def FnExactAnswerCardSaid : Prop := Claim7.holds Tryz.pinned (.plain (OpenSpec.ofChange fnExactAnswerSpec)) fnExactAnswerCard

/-- THE SECOND FORM's CARD OF 'laws.FnAnswered'. -/
def fnAnsweredUptoCard : Claim7 := { stood := { row := fnAnsweredUptoRow, standIns := [], harness := (true, "240995a350d369cedac98c7828edacdaa10ad168cbed7ca4742303ebe28f3026"), looks := false }, kinds := [], alts := [], laidByText := true, laidKinds := [.data, .data, .data], laidTests := true, laidLooks := .later }
def FnAnsweredUptoCardSaid : Prop := Claim7.holds Tryz.pinned (.plain (OpenSpec.upto fnAnsweredSpec)) fnAnsweredUptoCard

/-- THE SECOND FORM's CARD OF 'laws.FnExactAnswer'. -/
def fnExactAnswerUptoCard : Claim7 := { stood := { row := fnExactAnswerUptoRow, standIns := [], harness := (true, "240995a350d369cedac98c7828edacdaa10ad168cbed7ca4742303ebe28f3026"), looks := false }, kinds := [], alts := [], laidByText := true, laidKinds := [.data, .data, .data], laidTests := true, laidLooks := .later }
def FnExactAnswerUptoCardSaid : Prop := Claim7.holds Tryz.pinned (.plain (OpenSpec.upto fnExactAnswerSpec)) fnExactAnswerUptoCard
end Rows
end Go.Proofs.YtmcmeeibogkpaaaGreatDoorR

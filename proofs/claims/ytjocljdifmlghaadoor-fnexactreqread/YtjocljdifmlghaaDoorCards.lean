/-
  DERIVED. GIVEN WITH THE SEED: THE CARDS: each row of YtjocljdifmlghaaDoorRows.lean that lists a variable, with what it lists TIED to the program's text (the seventh form; the later family's looks); each row that meets fmt, with fmt's text TOLD by the authors' own Lean function (tested against real Go, not proved from fmt's source: count such statements apart). THE CARD IS WHAT COUNTS. Prove the row's statement (the work); the ties are given (YtjocljdifmlghaaDoorTie.lean); close each card by the builder's one call (the guide's Derived/Test/ToyasCard.lean, 'card_holds'). Laid BY PROGRAM, IN A SANDBOX (cutbox-door.mjs). By AI agents, Wed Nov 11 2026. No macro, syntax, notation, axiom, sorry.
-/
import Derived.Test.YtjocljdifmlghaaDoorRows
import GoSem.ClaimSeven
namespace Go.Proofs.YtjocljdifmlghaaDoor
namespace Rows

/-- THE TIED CARD OF 'laws.FnExactReqText'. -/
def fnExactReqTextCard : Claim7 := { stood := { row := fnExactReqTextRow, standIns := [], harness := (true, "4531cadcd583cd9b00b64df9ef2000529ba3725e03a84316fba3fdc6949885c9"), looks := false }, kinds := [], alts := [], laidByText := true, laidKinds := [.data, .data, .data], laidTests := true, laidLooks := .later }
def FnExactReqTextCardSaid : Prop := Claim7.holds Tryd.pinned (.plain (OpenSpec.ofChange fnExactReqTextSpec)) fnExactReqTextCard

/-- THE TIED CARD OF 'laws.FnExactRespText'. -/
def fnExactRespTextCard : Claim7 := { stood := { row := fnExactRespTextRow, standIns := [], harness := (true, "4531cadcd583cd9b00b64df9ef2000529ba3725e03a84316fba3fdc6949885c9"), looks := false }, kinds := [], alts := [], laidByText := true, laidKinds := [.data, .data, .data], laidTests := true, laidLooks := .later }
def FnExactRespTextCardSaid : Prop := Claim7.holds Tryd.pinned (.plain (OpenSpec.ofChange fnExactRespTextSpec)) fnExactRespTextCard

/-- THE TIED CARD OF 'laws.FnExactReqRead'. -/
def fnExactReqReadCard : Claim7 := { stood := { row := fnExactReqReadRow, standIns := [], harness := (true, "4531cadcd583cd9b00b64df9ef2000529ba3725e03a84316fba3fdc6949885c9"), looks := false }, kinds := [], alts := [], laidByText := true, laidKinds := [.data, .data, .data], laidTests := true, laidLooks := .later }
def FnExactReqReadCardSaid : Prop := Claim7.holds Tryd.pinned (.plain (OpenSpec.ofChange fnExactReqReadSpec)) fnExactReqReadCard

/-- THE TIED CARD OF 'laws.FnExactRespRead'. -/
def fnExactRespReadCard : Claim7 := { stood := { row := fnExactRespReadRow, standIns := [], harness := (true, "4531cadcd583cd9b00b64df9ef2000529ba3725e03a84316fba3fdc6949885c9"), looks := false }, kinds := [], alts := [], laidByText := true, laidKinds := [.data, .data, .data], laidTests := true, laidLooks := .later }
def FnExactRespReadCardSaid : Prop := Claim7.holds Tryd.pinned (.plain (OpenSpec.ofChange fnExactRespReadSpec)) fnExactRespReadCard

/-- THE SECOND FORM's CARD OF 'laws.FnExactReqText'. -/
def fnExactReqTextUptoCard : Claim7 := { stood := { row := fnExactReqTextUptoRow, standIns := [], harness := (true, "4531cadcd583cd9b00b64df9ef2000529ba3725e03a84316fba3fdc6949885c9"), looks := false }, kinds := [], alts := [], laidByText := true, laidKinds := [.data, .data, .data], laidTests := true, laidLooks := .later }
def FnExactReqTextUptoCardSaid : Prop := Claim7.holds Tryd.pinned (.plain (OpenSpec.upto fnExactReqTextSpec)) fnExactReqTextUptoCard

/-- THE SECOND FORM's CARD OF 'laws.FnExactRespText'. -/
def fnExactRespTextUptoCard : Claim7 := { stood := { row := fnExactRespTextUptoRow, standIns := [], harness := (true, "4531cadcd583cd9b00b64df9ef2000529ba3725e03a84316fba3fdc6949885c9"), looks := false }, kinds := [], alts := [], laidByText := true, laidKinds := [.data, .data, .data], laidTests := true, laidLooks := .later }
def FnExactRespTextUptoCardSaid : Prop := Claim7.holds Tryd.pinned (.plain (OpenSpec.upto fnExactRespTextSpec)) fnExactRespTextUptoCard

/-- THE SECOND FORM's CARD OF 'laws.FnExactReqRead'. -/
def fnExactReqReadUptoCard : Claim7 := { stood := { row := fnExactReqReadUptoRow, standIns := [], harness := (true, "4531cadcd583cd9b00b64df9ef2000529ba3725e03a84316fba3fdc6949885c9"), looks := false }, kinds := [], alts := [], laidByText := true, laidKinds := [.data, .data, .data], laidTests := true, laidLooks := .later }
def FnExactReqReadUptoCardSaid : Prop := Claim7.holds Tryd.pinned (.plain (OpenSpec.upto fnExactReqReadSpec)) fnExactReqReadUptoCard

/-- THE SECOND FORM's CARD OF 'laws.FnExactRespRead'. -/
def fnExactRespReadUptoCard : Claim7 := { stood := { row := fnExactRespReadUptoRow, standIns := [], harness := (true, "4531cadcd583cd9b00b64df9ef2000529ba3725e03a84316fba3fdc6949885c9"), looks := false }, kinds := [], alts := [], laidByText := true, laidKinds := [.data, .data, .data], laidTests := true, laidLooks := .later }
def FnExactRespReadUptoCardSaid : Prop := Claim7.holds Tryd.pinned (.plain (OpenSpec.upto fnExactRespReadSpec)) fnExactRespReadUptoCard
end Rows
end Go.Proofs.YtjocljdifmlghaaDoor

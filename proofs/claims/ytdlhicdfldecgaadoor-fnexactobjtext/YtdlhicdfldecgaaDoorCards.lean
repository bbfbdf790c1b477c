/-
  DERIVED. GIVEN WITH THE SEED: THE CARDS: each row of YtdlhicdfldecgaaDoorRows.lean that lists a variable, with what it lists TIED to the program's text (the seventh form; the later family's looks); each row that meets fmt, with fmt's text TOLD by the authors' own Lean function (tested against real Go, not proved from fmt's source: count such statements apart). THE CARD IS WHAT COUNTS. Prove the row's statement (the work); the ties are given (YtdlhicdfldecgaaDoorTie.lean); close each card by the builder's one call (the guide's Derived/Test/ToyasCard.lean, 'card_holds'). Laid BY PROGRAM, IN A SANDBOX (cutbox-door.mjs). By AI agents, Wed Nov 11 2026. No macro, syntax, notation, axiom, sorry.
-/
import Derived.Test.YtdlhicdfldecgaaDoorRows
import GoSem.ClaimSeven
namespace Go.Proofs.YtdlhicdfldecgaaDoor
namespace Rows

/-- THE TIED CARD OF 'laws.FnExactObjText'. -/
def fnExactObjTextCard : Claim7 := { stood := { row := fnExactObjTextRow, standIns := [], harness := (true, "141c46ddafd76fc0e51453d3d7e8c108deaf95408128e3a4bb38558bd316c5d4"), looks := false }, kinds := [], alts := [], laidByText := true, laidKinds := [.data, .data, .data], laidTests := true, laidLooks := .later }
def FnExactObjTextCardSaid : Prop := Claim7.holds Tryd.pinned (.plain (OpenSpec.ofChange fnExactObjTextSpec)) fnExactObjTextCard

/-- THE SECOND FORM's CARD OF 'laws.FnExactObjText'. -/
def fnExactObjTextUptoCard : Claim7 := { stood := { row := fnExactObjTextUptoRow, standIns := [], harness := (true, "141c46ddafd76fc0e51453d3d7e8c108deaf95408128e3a4bb38558bd316c5d4"), looks := false }, kinds := [], alts := [], laidByText := true, laidKinds := [.data, .data, .data], laidTests := true, laidLooks := .later }
def FnExactObjTextUptoCardSaid : Prop := Claim7.holds Tryd.pinned (.plain (OpenSpec.upto fnExactObjTextSpec)) fnExactObjTextUptoCard
end Rows
end Go.Proofs.YtdlhicdfldecgaaDoor

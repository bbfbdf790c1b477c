/-
  DERIVED. GIVEN WITH THE SEED: THE CARDS: each row of YtlmenolcgaakeaaDoorRows.lean that lists a variable, with what it lists TIED to the program's text (the seventh form; the later family's looks); each row that meets fmt, with fmt's text TOLD by the authors' own Lean function (tested against real Go, not proved from fmt's source: count such statements apart). THE CARD IS WHAT COUNTS. Prove the row's statement (the work); the ties are given (YtlmenolcgaakeaaDoorTie.lean); close each card by the builder's one call (the guide's Derived/Test/ToyasCard.lean, 'card_holds'). Laid BY PROGRAM, IN A SANDBOX (cutbox-door.mjs). By AI agents, Wed Nov 11 2026. No macro, syntax, notation, axiom, sorry.
-/
import Derived.Test.YtlmenolcgaakeaaDoorRows
import GoSem.ClaimSeven
namespace Go.Proofs.YtlmenolcgaakeaaDoor
namespace Rows

/-- THE TIED CARD OF 'laws.FnBans'. -/
def fnBansCard : Claim7 := { stood := { row := fnBansRow, standIns := [], harness := (true, "3230db5aad1880f3f7c97f1590a990d57f6a38d93d9cf835f4f2f385b0e7c9c6"), looks := true }, kinds := [], alts := [], laidByText := true, laidKinds := [.data, .data, .data], laidTests := true, laidLooks := .later }
def FnBansCardSaid : Prop := Claim7.holds Tryd.pinned (.plain (OpenSpec.ofChange fnBansSpec)) fnBansCard

/-- THE TIED CARD OF 'laws.FnExactBanText'. -/
def fnExactBanTextCard : Claim7 := { stood := { row := fnExactBanTextRow, standIns := [], harness := (true, "3230db5aad1880f3f7c97f1590a990d57f6a38d93d9cf835f4f2f385b0e7c9c6"), looks := true }, kinds := [], alts := [], laidByText := true, laidKinds := [.data, .data, .data], laidTests := true, laidLooks := .later }
def FnExactBanTextCardSaid : Prop := Claim7.holds Tryd.pinned (.plain (OpenSpec.ofChange fnExactBanTextSpec)) fnExactBanTextCard

/-- THE TIED CARD OF 'laws.FnExactBanRead'. -/
def fnExactBanReadCard : Claim7 := { stood := { row := fnExactBanReadRow, standIns := [], harness := (true, "3230db5aad1880f3f7c97f1590a990d57f6a38d93d9cf835f4f2f385b0e7c9c6"), looks := true }, kinds := [], alts := [], laidByText := true, laidKinds := [.data, .data, .data], laidTests := true, laidLooks := .later }
def FnExactBanReadCardSaid : Prop := Claim7.holds Tryd.pinned (.plain (OpenSpec.ofChange fnExactBanReadSpec)) fnExactBanReadCard

/-- THE SECOND FORM's CARD OF 'laws.FnBans'. -/
def fnBansUptoCard : Claim7 := { stood := { row := fnBansUptoRow, standIns := [], harness := (true, "3230db5aad1880f3f7c97f1590a990d57f6a38d93d9cf835f4f2f385b0e7c9c6"), looks := true }, kinds := [], alts := [], laidByText := true, laidKinds := [.data, .data, .data], laidTests := true, laidLooks := .later }
def FnBansUptoCardSaid : Prop := Claim7.holds Tryd.pinned (.plain (OpenSpec.upto fnBansSpec)) fnBansUptoCard

/-- THE SECOND FORM's CARD OF 'laws.FnExactBanText'. -/
def fnExactBanTextUptoCard : Claim7 := { stood := { row := fnExactBanTextUptoRow, standIns := [], harness := (true, "3230db5aad1880f3f7c97f1590a990d57f6a38d93d9cf835f4f2f385b0e7c9c6"), looks := true }, kinds := [], alts := [], laidByText := true, laidKinds := [.data, .data, .data], laidTests := true, laidLooks := .later }
def FnExactBanTextUptoCardSaid : Prop := Claim7.holds Tryd.pinned (.plain (OpenSpec.upto fnExactBanTextSpec)) fnExactBanTextUptoCard

/-- THE SECOND FORM's CARD OF 'laws.FnExactBanRead'. -/
def fnExactBanReadUptoCard : Claim7 := { stood := { row := fnExactBanReadUptoRow, standIns := [], harness := (true, "3230db5aad1880f3f7c97f1590a990d57f6a38d93d9cf835f4f2f385b0e7c9c6"), looks := true }, kinds := [], alts := [], laidByText := true, laidKinds := [.data, .data, .data], laidTests := true, laidLooks := .later }
def FnExactBanReadUptoCardSaid : Prop := Claim7.holds Tryd.pinned (.plain (OpenSpec.upto fnExactBanReadSpec)) fnExactBanReadUptoCard
end Rows
end Go.Proofs.YtlmenolcgaakeaaDoor

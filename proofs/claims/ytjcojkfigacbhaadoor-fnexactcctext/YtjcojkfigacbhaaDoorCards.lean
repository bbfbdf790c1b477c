/-
  DERIVED. GIVEN WITH THE SEED: THE CARDS: each row of YtjcojkfigacbhaaDoorRows.lean that lists a variable, with what it lists TIED to the program's text (the seventh form; the later family's looks); each row that meets fmt, with fmt's text TOLD by the authors' own Lean function (tested against real Go, not proved from fmt's source: count such statements apart). THE CARD IS WHAT COUNTS. Prove the row's statement (the work); the ties are given (YtjcojkfigacbhaaDoorTie.lean); close each card by the builder's one call (the guide's Derived/Test/ToyasCard.lean, 'card_holds'). Laid BY PROGRAM, IN A SANDBOX (cutbox-door.mjs). By AI agents, Wed Nov 11 2026. No macro, syntax, notation, axiom, sorry.
-/
import Derived.Test.YtjcojkfigacbhaaDoorRows
import GoSem.ClaimSeven
namespace Go.Proofs.YtjcojkfigacbhaaDoor
namespace Rows

/-- THE TIED CARD OF 'laws.FnExactCcText'. -/
def fnExactCcTextCard : Claim7 := { stood := { row := fnExactCcTextRow, standIns := [], harness := (true, "218023d1e7a1344e95377d4a2db7b00287776c2fae21de7e11eef9bd61bc77e2"), looks := false }, kinds := [], alts := [], laidByText := true, laidKinds := [.data, .data, .data], laidTests := true, laidLooks := .later }
def FnExactCcTextCardSaid : Prop := Claim7.holds Tryd.pinned (.plain (OpenSpec.ofChange fnExactCcTextSpec)) fnExactCcTextCard

/-- THE SECOND FORM's CARD OF 'laws.FnExactCcText'. -/
def fnExactCcTextUptoCard : Claim7 := { stood := { row := fnExactCcTextUptoRow, standIns := [], harness := (true, "218023d1e7a1344e95377d4a2db7b00287776c2fae21de7e11eef9bd61bc77e2"), looks := false }, kinds := [], alts := [], laidByText := true, laidKinds := [.data, .data, .data], laidTests := true, laidLooks := .later }
def FnExactCcTextUptoCardSaid : Prop := Claim7.holds Tryd.pinned (.plain (OpenSpec.upto fnExactCcTextSpec)) fnExactCcTextUptoCard
end Rows
end Go.Proofs.YtjcojkfigacbhaaDoor

/-
  DERIVED. GIVEN WITH THE SEED: THE CARDS: each row of YtdlhicdfldecgaaGreatDoorRows.lean that lists a variable, with what it lists TIED to the program's text (the seventh form; the later family's looks); each row that meets fmt, with fmt's text TOLD by the authors' own Lean function (tested against real Go, not proved from fmt's source: count such statements apart). THE CARD IS WHAT COUNTS. Prove the row's statement (the work); the ties are given (YtdlhicdfldecgaaGreatDoorTie.lean); close each card by the builder's one call (the guide's Derived/Test/ToyasCard.lean, 'card_holds'). Laid BY PROGRAM, IN A SANDBOX (cutbox-door.mjs). By AI agents, Wed Nov 11 2026. No macro, syntax, notation, axiom, sorry.
-/
import Derived.Test.YtdlhicdfldecgaaGreatDoorRows
import GoSem.ClaimSeven
namespace Go.Proofs.YtdlhicdfldecgaaGreatDoor
namespace Rows

/-- THE TIED CARD OF 'laws.FnObjects'. -/
def fnObjectsCard : Claim7 := { stood := { row := fnObjectsRow, standIns := [], harness := (true, "d7cbabfd72daef891653836295e14f9c381d157cc67891c55362565f6cf131bc"), looks := false }, kinds := [], alts := [], laidByText := true, laidKinds := [.data, .data, .data], laidTests := true, laidLooks := .later }
def FnObjectsCardSaid : Prop := Claim7.holds Tryz.pinned (.plain (OpenSpec.ofChange fnObjectsSpec)) fnObjectsCard

/-- THE TIED CARD OF 'laws.FnKeptOf'. -/
def fnKeptOfCard : Claim7 := { stood := { row := fnKeptOfRow, standIns := [], harness := (true, "d7cbabfd72daef891653836295e14f9c381d157cc67891c55362565f6cf131bc"), looks := false }, kinds := [], alts := [], laidByText := true, laidKinds := [.data, .data, .data], laidTests := true, laidLooks := .later }
def FnKeptOfCardSaid : Prop := Claim7.holds Tryz.pinned (.plain (OpenSpec.ofChange fnKeptOfSpec)) fnKeptOfCard

/-- THE TIED CARD OF 'laws.FnExactObjRead'. -/
def fnExactObjReadCard : Claim7 := { stood := { row := fnExactObjReadRow, standIns := [], harness := (true, "d7cbabfd72daef891653836295e14f9c381d157cc67891c55362565f6cf131bc"), looks := false }, kinds := [], alts := [], laidByText := true, laidKinds := [.data, .data, .data], laidTests := true, laidLooks := .later }
def FnExactObjReadCardSaid : Prop := Claim7.holds Tryz.pinned (.plain (OpenSpec.ofChange fnExactObjReadSpec)) fnExactObjReadCard

/-- THE SECOND FORM's CARD OF 'laws.FnObjects'. -/
def fnObjectsUptoCard : Claim7 := { stood := { row := fnObjectsUptoRow, standIns := [], harness := (true, "d7cbabfd72daef891653836295e14f9c381d157cc67891c55362565f6cf131bc"), looks := false }, kinds := [], alts := [], laidByText := true, laidKinds := [.data, .data, .data], laidTests := true, laidLooks := .later }
def FnObjectsUptoCardSaid : Prop := Claim7.holds Tryz.pinned (.plain (OpenSpec.upto fnObjectsSpec)) fnObjectsUptoCard

/-- THE SECOND FORM's CARD OF 'laws.FnKeptOf'. -/
def fnKeptOfUptoCard : Claim7 := { stood := { row := fnKeptOfUptoRow, standIns := [], harness := (true, "d7cbabfd72daef891653836295e14f9c381d157cc67891c55362565f6cf131bc"), looks := false }, kinds := [], alts := [], laidByText := true, laidKinds := [.data, .data, .data], laidTests := true, laidLooks := .later }
def FnKeptOfUptoCardSaid : Prop := Claim7.holds Tryz.pinned (.plain (OpenSpec.upto fnKeptOfSpec)) fnKeptOfUptoCard

/-- THE SECOND FORM's CARD OF 'laws.FnExactObjRead'. -/
def fnExactObjReadUptoCard : Claim7 := { stood := { row := fnExactObjReadUptoRow, standIns := [], harness := (true, "d7cbabfd72daef891653836295e14f9c381d157cc67891c55362565f6cf131bc"), looks := false }, kinds := [], alts := [], laidByText := true, laidKinds := [.data, .data, .data], laidTests := true, laidLooks := .later }
def FnExactObjReadUptoCardSaid : Prop := Claim7.holds Tryz.pinned (.plain (OpenSpec.upto fnExactObjReadSpec)) fnExactObjReadUptoCard
end Rows
end Go.Proofs.YtdlhicdfldecgaaGreatDoor

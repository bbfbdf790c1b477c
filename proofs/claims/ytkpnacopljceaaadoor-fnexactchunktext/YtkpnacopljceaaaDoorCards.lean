/-
  DERIVED. GIVEN WITH THE SEED: THE CARDS: each row of YtkpnacopljceaaaDoorRows.lean that lists a variable, with what it lists TIED to the program's text (the seventh form; the later family's looks); each row that meets fmt, with fmt's text TOLD by the authors' own Lean function (tested against real Go, not proved from fmt's source: count such statements apart). THE CARD IS WHAT COUNTS. Prove the row's statement (the work); the ties are given (YtkpnacopljceaaaDoorTie.lean); close each card by the builder's one call (the guide's Derived/Test/ToyasCard.lean, 'card_holds'). Laid BY PROGRAM, IN A SANDBOX (cutbox-door.mjs). By AI agents, Wed Nov 11 2026. No macro, syntax, notation, axiom, sorry.
-/
import Derived.Test.YtkpnacopljceaaaDoorRows
import GoSem.ClaimSeven
namespace Go.Proofs.YtkpnacopljceaaaDoor
namespace Rows

/-- THE TIED CARD OF 'laws.FnChunks'. -/
def fnChunksCard : Claim7 := { stood := { row := fnChunksRow, standIns := [], harness := (true, "ba0d405ead447257a0e71a884c9da98e4b53c4d134f7c20dbb2a7876126f8038"), looks := true }, kinds := [], alts := [], laidByText := true, laidKinds := [.data, .data, .data], laidTests := true, laidLooks := .later }
def FnChunksCardSaid : Prop := Claim7.holds Tryd.pinned (.plain (OpenSpec.ofChange fnChunksSpec)) fnChunksCard

/-- THE TIED CARD OF 'laws.FnChunkRead'. -/
def fnChunkReadCard : Claim7 := { stood := { row := fnChunkReadRow, standIns := [], harness := (true, "ba0d405ead447257a0e71a884c9da98e4b53c4d134f7c20dbb2a7876126f8038"), looks := true }, kinds := [], alts := [], laidByText := true, laidKinds := [.data, .data, .data], laidTests := true, laidLooks := .later }
def FnChunkReadCardSaid : Prop := Claim7.holds Tryd.pinned (.plain (OpenSpec.ofChange fnChunkReadSpec)) fnChunkReadCard

/-- THE TIED CARD OF 'laws.FnExactHex'. -/
def fnExactHexCard : Claim7 := { stood := { row := fnExactHexRow, standIns := [], harness := (true, "ba0d405ead447257a0e71a884c9da98e4b53c4d134f7c20dbb2a7876126f8038"), looks := true }, kinds := [], alts := [], laidByText := true, laidKinds := [.data, .data, .data], laidTests := true, laidLooks := .later }
def FnExactHexCardSaid : Prop := Claim7.holds Tryd.pinned (.plain (OpenSpec.ofChange fnExactHexSpec)) fnExactHexCard

/-- THE TIED CARD OF 'laws.FnExactChunkText'. -/
def fnExactChunkTextCard : Claim7 := { stood := { row := fnExactChunkTextRow, standIns := [], harness := (true, "ba0d405ead447257a0e71a884c9da98e4b53c4d134f7c20dbb2a7876126f8038"), looks := true }, kinds := [], alts := [], laidByText := true, laidKinds := [.data, .data, .data], laidTests := true, laidLooks := .later }
def FnExactChunkTextCardSaid : Prop := Claim7.holds Tryd.pinned (.plain (OpenSpec.ofChange fnExactChunkTextSpec)) fnExactChunkTextCard

/-- THE TIED CARD OF 'laws.FnExactChunkRead'. -/
def fnExactChunkReadCard : Claim7 := { stood := { row := fnExactChunkReadRow, standIns := [], harness := (true, "ba0d405ead447257a0e71a884c9da98e4b53c4d134f7c20dbb2a7876126f8038"), looks := true }, kinds := [], alts := [], laidByText := true, laidKinds := [.data, .data, .data], laidTests := true, laidLooks := .later }
def FnExactChunkReadCardSaid : Prop := Claim7.holds Tryd.pinned (.plain (OpenSpec.ofChange fnExactChunkReadSpec)) fnExactChunkReadCard

/-- THE SECOND FORM's CARD OF 'laws.FnChunks'. -/
def fnChunksUptoCard : Claim7 := { stood := { row := fnChunksUptoRow, standIns := [], harness := (true, "ba0d405ead447257a0e71a884c9da98e4b53c4d134f7c20dbb2a7876126f8038"), looks := true }, kinds := [], alts := [], laidByText := true, laidKinds := [.data, .data, .data], laidTests := true, laidLooks := .later }
def FnChunksUptoCardSaid : Prop := Claim7.holds Tryd.pinned (.plain (OpenSpec.upto fnChunksSpec)) fnChunksUptoCard

/-- THE SECOND FORM's CARD OF 'laws.FnChunkRead'. -/
def fnChunkReadUptoCard : Claim7 := { stood := { row := fnChunkReadUptoRow, standIns := [], harness := (true, "ba0d405ead447257a0e71a884c9da98e4b53c4d134f7c20dbb2a7876126f8038"), looks := true }, kinds := [], alts := [], laidByText := true, laidKinds := [.data, .data, .data], laidTests := true, laidLooks := .later }
def FnChunkReadUptoCardSaid : Prop := Claim7.holds Tryd.pinned (.plain (OpenSpec.upto fnChunkReadSpec)) fnChunkReadUptoCard

/-- THE SECOND FORM's CARD OF 'laws.FnExactHex'. -/
def fnExactHexUptoCard : Claim7 := { stood := { row := fnExactHexUptoRow, standIns := [], harness := (true, "ba0d405ead447257a0e71a884c9da98e4b53c4d134f7c20dbb2a7876126f8038"), looks := true }, kinds := [], alts := [], laidByText := true, laidKinds := [.data, .data, .data], laidTests := true, laidLooks := .later }
def FnExactHexUptoCardSaid : Prop := Claim7.holds Tryd.pinned (.plain (OpenSpec.upto fnExactHexSpec)) fnExactHexUptoCard

/-- THE SECOND FORM's CARD OF 'laws.FnExactChunkText'. -/
def fnExactChunkTextUptoCard : Claim7 := { stood := { row := fnExactChunkTextUptoRow, standIns := [], harness := (true, "ba0d405ead447257a0e71a884c9da98e4b53c4d134f7c20dbb2a7876126f8038"), looks := true }, kinds := [], alts := [], laidByText := true, laidKinds := [.data, .data, .data], laidTests := true, laidLooks := .later }
def FnExactChunkTextUptoCardSaid : Prop := Claim7.holds Tryd.pinned (.plain (OpenSpec.upto fnExactChunkTextSpec)) fnExactChunkTextUptoCard

/-- THE SECOND FORM's CARD OF 'laws.FnExactChunkRead'. -/
def fnExactChunkReadUptoCard : Claim7 := { stood := { row := fnExactChunkReadUptoRow, standIns := [], harness := (true, "ba0d405ead447257a0e71a884c9da98e4b53c4d134f7c20dbb2a7876126f8038"), looks := true }, kinds := [], alts := [], laidByText := true, laidKinds := [.data, .data, .data], laidTests := true, laidLooks := .later }
def FnExactChunkReadUptoCardSaid : Prop := Claim7.holds Tryd.pinned (.plain (OpenSpec.upto fnExactChunkReadSpec)) fnExactChunkReadUptoCard
end Rows
end Go.Proofs.YtkpnacopljceaaaDoor

/-
  DERIVED. GIVEN WITH THE SEED: THE CARDS: each row of YteglaomdgdkibaaGreatDoorRows.lean that lists a variable, with what it lists TIED to the program's text (the seventh form; the later family's looks); each row that meets fmt, with fmt's text TOLD by the authors' own Lean function (tested against real Go, not proved from fmt's source: count such statements apart). THE CARD IS WHAT COUNTS. Prove the row's statement (the work); the ties are given (YteglaomdgdkibaaGreatDoorTie.lean); close each card by the builder's one call (the guide's Derived/Test/ToyasCard.lean, 'card_holds'). Laid BY PROGRAM, IN A SANDBOX (cutbox-door.mjs). By AI agents, Wed Nov 11 2026. No macro, syntax, notation, axiom, sorry.
-/
import Derived.Test.YteglaomdgdkibaaGreatDoorRows
import GoSem.ClaimSeven
namespace Go.Proofs.YteglaomdgdkibaaGreatDoor
namespace Rows

/-- THE TIED CARD OF 'gridironlaw13.CalcNorms'. -/
def calcNormsCard : Claim7 := { stood := { row := calcNormsRow, standIns := [], harness := (true, "26214aba173cc258f3d9cce93e6131ca3871003a388a6e4d4b82d64e5eb75fb2"), looks := true }, kinds := [], alts := [], laidByText := true, laidKinds := [.data, .data, .data, .sentinel, .sentinel, .widerDeep], laidTests := true, laidLooks := .later }
def CalcNormsCardSaid : Prop := Claim7.holds Tryz.pinned (.plain (OpenSpec.ofChange calcNormsSpec)) calcNormsCard

/-- THE TIED CARD OF 'gridironlaw13.CalcValues'. -/
def calcValuesCard : Claim7 := { stood := { row := calcValuesRow, standIns := [], harness := (true, "26214aba173cc258f3d9cce93e6131ca3871003a388a6e4d4b82d64e5eb75fb2"), looks := true }, kinds := [], alts := [], laidByText := true, laidKinds := [.data, .data, .data, .sentinel, .sentinel, .widerDeep], laidTests := true, laidLooks := .later }
def CalcValuesCardSaid : Prop := Claim7.holds Tryz.pinned (.plain (OpenSpec.ofChange calcValuesSpec)) calcValuesCard

/-- THE TIED CARD OF 'gridironlaw13.CalcStands'. -/
def calcStandsCard : Claim7 := { stood := { row := calcStandsRow, standIns := [], harness := (true, "26214aba173cc258f3d9cce93e6131ca3871003a388a6e4d4b82d64e5eb75fb2"), looks := true }, kinds := [], alts := [], laidByText := true, laidKinds := [.data, .data, .data, .sentinel, .sentinel, .widerDeep], laidTests := true, laidLooks := .later }
def CalcStandsCardSaid : Prop := Claim7.holds Tryz.pinned (.plain (OpenSpec.ofChange calcStandsSpec)) calcStandsCard

/-- THE TIED CARD OF 'gridironlaw14.IncrPlays'. -/
def incrPlaysCard : Claim7 := { stood := { row := incrPlaysRow, standIns := [], harness := (true, "26214aba173cc258f3d9cce93e6131ca3871003a388a6e4d4b82d64e5eb75fb2"), looks := true }, kinds := [], alts := [], laidByText := true, laidKinds := [.data, .data, .data, .sentinel, .sentinel, .widerDeep], laidTests := true, laidLooks := .later }
def IncrPlaysCardSaid : Prop := Claim7.holds Tryz.pinned (.plain (OpenSpec.ofChange incrPlaysSpec)) incrPlaysCard

/-- THE TIED CARD OF 'gridironlaw14.IncrSame'. -/
def incrSameCard : Claim7 := { stood := { row := incrSameRow, standIns := [], harness := (true, "26214aba173cc258f3d9cce93e6131ca3871003a388a6e4d4b82d64e5eb75fb2"), looks := true }, kinds := [], alts := [], laidByText := true, laidKinds := [.data, .data, .data, .sentinel, .sentinel, .widerDeep], laidTests := true, laidLooks := .later }
def IncrSameCardSaid : Prop := Claim7.holds Tryz.pinned (.plain (OpenSpec.ofChange incrSameSpec)) incrSameCard

/-- THE SECOND FORM's CARD OF 'gridironlaw13.CalcNorms'. -/
def calcNormsUptoCard : Claim7 := { stood := { row := calcNormsUptoRow, standIns := [], harness := (true, "26214aba173cc258f3d9cce93e6131ca3871003a388a6e4d4b82d64e5eb75fb2"), looks := true }, kinds := [], alts := [], laidByText := true, laidKinds := [.data, .data, .data, .sentinel, .sentinel, .widerDeep], laidTests := true, laidLooks := .later }
def CalcNormsUptoCardSaid : Prop := Claim7.holds Tryz.pinned (.plain (OpenSpec.upto calcNormsSpec)) calcNormsUptoCard

/-- THE SECOND FORM's CARD OF 'gridironlaw13.CalcValues'. -/
def calcValuesUptoCard : Claim7 := { stood := { row := calcValuesUptoRow, standIns := [], harness := (true, "26214aba173cc258f3d9cce93e6131ca3871003a388a6e4d4b82d64e5eb75fb2"), looks := true }, kinds := [], alts := [], laidByText := true, laidKinds := [.data, .data, .data, .sentinel, .sentinel, .widerDeep], laidTests := true, laidLooks := .later }
def CalcValuesUptoCardSaid : Prop := Claim7.holds Tryz.pinned (.plain (OpenSpec.upto calcValuesSpec)) calcValuesUptoCard

/-- THE SECOND FORM's CARD OF 'gridironlaw13.CalcStands'. -/
def calcStandsUptoCard : Claim7 := { stood := { row := calcStandsUptoRow, standIns := [], harness := (true, "26214aba173cc258f3d9cce93e6131ca3871003a388a6e4d4b82d64e5eb75fb2"), looks := true }, kinds := [], alts := [], laidByText := true, laidKinds := [.data, .data, .data, .sentinel, .sentinel, .widerDeep], laidTests := true, laidLooks := .later }
def CalcStandsUptoCardSaid : Prop := Claim7.holds Tryz.pinned (.plain (OpenSpec.upto calcStandsSpec)) calcStandsUptoCard

/-- THE SECOND FORM's CARD OF 'gridironlaw14.IncrPlays'. -/
def incrPlaysUptoCard : Claim7 := { stood := { row := incrPlaysUptoRow, standIns := [], harness := (true, "26214aba173cc258f3d9cce93e6131ca3871003a388a6e4d4b82d64e5eb75fb2"), looks := true }, kinds := [], alts := [], laidByText := true, laidKinds := [.data, .data, .data, .sentinel, .sentinel, .widerDeep], laidTests := true, laidLooks := .later }
def IncrPlaysUptoCardSaid : Prop := Claim7.holds Tryz.pinned (.plain (OpenSpec.upto incrPlaysSpec)) incrPlaysUptoCard

/-- THE SECOND FORM's CARD OF 'gridironlaw14.IncrSame'. -/
def incrSameUptoCard : Claim7 := { stood := { row := incrSameUptoRow, standIns := [], harness := (true, "26214aba173cc258f3d9cce93e6131ca3871003a388a6e4d4b82d64e5eb75fb2"), looks := true }, kinds := [], alts := [], laidByText := true, laidKinds := [.data, .data, .data, .sentinel, .sentinel, .widerDeep], laidTests := true, laidLooks := .later }
def IncrSameUptoCardSaid : Prop := Claim7.holds Tryz.pinned (.plain (OpenSpec.upto incrSameSpec)) incrSameUptoCard
end Rows
end Go.Proofs.YteglaomdgdkibaaGreatDoor

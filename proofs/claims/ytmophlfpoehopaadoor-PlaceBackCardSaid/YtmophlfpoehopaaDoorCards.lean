/-
  DERIVED. GIVEN WITH THE SEED: THE CARDS: each row of YtmophlfpoehopaaDoorRows.lean that lists a variable, with what it lists TIED to the program's text (the seventh form; the later family's looks); each row that meets fmt, with fmt's text TOLD by the authors' own Lean function (tested against real Go, not proved from fmt's source: count such statements apart). THE CARD IS WHAT COUNTS. Prove the row's statement (the work); the ties are given (YtmophlfpoehopaaDoorTie.lean); close each card by the builder's one call (the guide's Derived/Test/ToyasCard.lean, 'card_holds'). Laid BY PROGRAM, IN A SANDBOX (cutbox-door.mjs). By AI agents, Wed Nov 11 2026. No macro, syntax, notation, axiom, sorry.
-/
import Derived.Test.YtmophlfpoehopaaDoorRows
import GoSem.ClaimSeven
namespace Go.Proofs.YtmophlfpoehopaaDoor
namespace Rows

/-- THE TIED CARD OF 'gridironlaw02.PlaceTells'. -/
def placeTellsCard : Claim7 := { stood := { row := placeTellsRow, standIns := [], harness := (true, "a27f070bba10128ae91094858b3209d71c23a1475fdeb4e86f360eb18e06f0e6"), looks := false }, kinds := [], alts := [], laidByText := true, laidKinds := [.data, .data, .data], laidTests := true, laidLooks := .later }
def PlaceTellsCardSaid : Prop := Claim7.holds Tryd.pinned (.plain (OpenSpec.ofChange placeTellsSpec)) placeTellsCard

/-- THE TIED CARD OF 'gridironlaw02.PlaceRanges'. -/
def placeRangesCard : Claim7 := { stood := { row := placeRangesRow, standIns := [], harness := (true, "a27f070bba10128ae91094858b3209d71c23a1475fdeb4e86f360eb18e06f0e6"), looks := false }, kinds := [], alts := [], laidByText := true, laidKinds := [.data, .data, .data], laidTests := true, laidLooks := .later }
def PlaceRangesCardSaid : Prop := Claim7.holds Tryd.pinned (.plain (OpenSpec.ofChange placeRangesSpec)) placeRangesCard

/-- THE TIED CARD OF 'gridironlaw02.PlaceBack'. -/
def placeBackCard : Claim7 := { stood := { row := placeBackRow, standIns := [], harness := (true, "a27f070bba10128ae91094858b3209d71c23a1475fdeb4e86f360eb18e06f0e6"), looks := false }, kinds := [], alts := [], laidByText := true, laidKinds := [.data, .data, .data], laidTests := true, laidLooks := .later }
def PlaceBackCardSaid : Prop := Claim7.holds Tryd.pinned (.plain (OpenSpec.ofChange placeBackSpec)) placeBackCard

/-- THE SECOND FORM's CARD OF 'gridironlaw02.PlaceTells'. -/
def placeTellsUptoCard : Claim7 := { stood := { row := placeTellsUptoRow, standIns := [], harness := (true, "a27f070bba10128ae91094858b3209d71c23a1475fdeb4e86f360eb18e06f0e6"), looks := false }, kinds := [], alts := [], laidByText := true, laidKinds := [.data, .data, .data], laidTests := true, laidLooks := .later }
def PlaceTellsUptoCardSaid : Prop := Claim7.holds Tryd.pinned (.plain (OpenSpec.upto placeTellsSpec)) placeTellsUptoCard

/-- THE SECOND FORM's CARD OF 'gridironlaw02.PlaceRanges'. -/
def placeRangesUptoCard : Claim7 := { stood := { row := placeRangesUptoRow, standIns := [], harness := (true, "a27f070bba10128ae91094858b3209d71c23a1475fdeb4e86f360eb18e06f0e6"), looks := false }, kinds := [], alts := [], laidByText := true, laidKinds := [.data, .data, .data], laidTests := true, laidLooks := .later }
def PlaceRangesUptoCardSaid : Prop := Claim7.holds Tryd.pinned (.plain (OpenSpec.upto placeRangesSpec)) placeRangesUptoCard

/-- THE SECOND FORM's CARD OF 'gridironlaw02.PlaceBack'. -/
def placeBackUptoCard : Claim7 := { stood := { row := placeBackUptoRow, standIns := [], harness := (true, "a27f070bba10128ae91094858b3209d71c23a1475fdeb4e86f360eb18e06f0e6"), looks := false }, kinds := [], alts := [], laidByText := true, laidKinds := [.data, .data, .data], laidTests := true, laidLooks := .later }
def PlaceBackUptoCardSaid : Prop := Claim7.holds Tryd.pinned (.plain (OpenSpec.upto placeBackSpec)) placeBackUptoCard
end Rows
end Go.Proofs.YtmophlfpoehopaaDoor

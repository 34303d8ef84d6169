/-
  DERIVED. GIVEN WITH THE SEED: THE CARDS: each row of YtjgadggehpmdkaaGreatDoorRows.lean that lists a variable, with what it lists TIED to the program's text (the seventh form; the later family's looks); each row that meets fmt, with fmt's text TOLD by the authors' own Lean function (tested against real Go, not proved from fmt's source: count such statements apart). THE CARD IS WHAT COUNTS. Prove the row's statement (the work); the ties are given (YtjgadggehpmdkaaGreatDoorTie.lean); close each card by the builder's one call (the guide's Derived/Test/ToyasCard.lean, 'card_holds'). Laid BY PROGRAM, IN A SANDBOX (cutbox-door.mjs). By AI agents, Wed Nov 11 2026. No macro, syntax, notation, axiom, sorry.
-/
import Derived.Test.YtjgadggehpmdkaaGreatDoorRows
import GoSem.ClaimSeven
namespace Go.Proofs.YtjgadggehpmdkaaGreatDoor
namespace Rows

/-- THE TIED CARD OF 'gridironlaw10.TriePlays'. -/
def triePlaysCard : Claim7 := { stood := { row := triePlaysRow, standIns := [], harness := (true, "79c35468bf3680ce0ceca24b0666a48a90a912170b3c68ccf4c28f9e990290e1"), looks := false }, kinds := [], alts := [], laidByText := true, laidKinds := [.data, .data, .data], laidTests := true, laidLooks := .later }
def TriePlaysCardSaid : Prop := Claim7.holds Tryz.pinned (.plain (OpenSpec.ofChange triePlaysSpec)) triePlaysCard

/-- THE TIED CARD OF 'gridironlaw10.TrieIs'. -/
def trieIsCard : Claim7 := { stood := { row := trieIsRow, standIns := [], harness := (true, "79c35468bf3680ce0ceca24b0666a48a90a912170b3c68ccf4c28f9e990290e1"), looks := false }, kinds := [], alts := [], laidByText := true, laidKinds := [.data, .data, .data], laidTests := true, laidLooks := .later }
def TrieIsCardSaid : Prop := Claim7.holds Tryz.pinned (.plain (OpenSpec.ofChange trieIsSpec)) trieIsCard

/-- THE SECOND FORM's CARD OF 'gridironlaw10.TriePlays'. -/
def triePlaysUptoCard : Claim7 := { stood := { row := triePlaysUptoRow, standIns := [], harness := (true, "79c35468bf3680ce0ceca24b0666a48a90a912170b3c68ccf4c28f9e990290e1"), looks := false }, kinds := [], alts := [], laidByText := true, laidKinds := [.data, .data, .data], laidTests := true, laidLooks := .later }
def TriePlaysUptoCardSaid : Prop := Claim7.holds Tryz.pinned (.plain (OpenSpec.upto triePlaysSpec)) triePlaysUptoCard

/-- THE SECOND FORM's CARD OF 'gridironlaw10.TrieIs'. -/
def trieIsUptoCard : Claim7 := { stood := { row := trieIsUptoRow, standIns := [], harness := (true, "79c35468bf3680ce0ceca24b0666a48a90a912170b3c68ccf4c28f9e990290e1"), looks := false }, kinds := [], alts := [], laidByText := true, laidKinds := [.data, .data, .data], laidTests := true, laidLooks := .later }
def TrieIsUptoCardSaid : Prop := Claim7.holds Tryz.pinned (.plain (OpenSpec.upto trieIsSpec)) trieIsUptoCard
end Rows
end Go.Proofs.YtjgadggehpmdkaaGreatDoor

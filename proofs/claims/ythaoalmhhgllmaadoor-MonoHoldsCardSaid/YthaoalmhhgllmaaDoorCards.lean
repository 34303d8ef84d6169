/-
  DERIVED. GIVEN WITH THE SEED: THE CARDS: each row of YthaoalmhhgllmaaDoorRows.lean that lists a variable, with what it lists TIED to the program's text (the seventh form; the later family's looks); each row that meets fmt, with fmt's text TOLD by the authors' own Lean function (tested against real Go, not proved from fmt's source: count such statements apart). THE CARD IS WHAT COUNTS. Prove the row's statement (the work); the ties are given (YthaoalmhhgllmaaDoorTie.lean); close each card by the builder's one call (the guide's Derived/Test/ToyasCard.lean, 'card_holds'). Laid BY PROGRAM, IN A SANDBOX (cutbox-door.mjs). By AI agents, Wed Nov 11 2026. No macro, syntax, notation, axiom, sorry.
-/
import Derived.Test.YthaoalmhhgllmaaDoorRows
import GoSem.ClaimSeven
namespace Go.Proofs.YthaoalmhhgllmaaDoor
namespace Rows

/-- THE TIED CARD OF 'gridironlaw08.MonoTells'. -/
def monoTellsCard : Claim7 := { stood := { row := monoTellsRow, standIns := [], harness := (true, "903614e94e2869ed205be0b142696b17a119fe3862263d4c4239b95c6ee28177"), looks := false }, kinds := [], alts := [], laidByText := true, laidKinds := [.widerDeep], laidTests := true, laidLooks := .later }
def MonoTellsCardSaid : Prop := Claim7.holds Tryd.pinned (.plain (OpenSpec.ofChange monoTellsSpec)) monoTellsCard

/-- THE TIED CARD OF 'gridironlaw08.MonoHolds'. -/
def monoHoldsCard : Claim7 := { stood := { row := monoHoldsRow, standIns := [], harness := (true, "903614e94e2869ed205be0b142696b17a119fe3862263d4c4239b95c6ee28177"), looks := false }, kinds := [], alts := [], laidByText := true, laidKinds := [.widerDeep], laidTests := true, laidLooks := .later }
def MonoHoldsCardSaid : Prop := Claim7.holds Tryd.pinned (.plain (OpenSpec.ofChange monoHoldsSpec)) monoHoldsCard

/-- THE SECOND FORM's CARD OF 'gridironlaw08.MonoTells'. -/
def monoTellsUptoCard : Claim7 := { stood := { row := monoTellsUptoRow, standIns := [], harness := (true, "903614e94e2869ed205be0b142696b17a119fe3862263d4c4239b95c6ee28177"), looks := false }, kinds := [], alts := [], laidByText := true, laidKinds := [.widerDeep], laidTests := true, laidLooks := .later }
def MonoTellsUptoCardSaid : Prop := Claim7.holds Tryd.pinned (.plain (OpenSpec.upto monoTellsSpec)) monoTellsUptoCard

/-- THE SECOND FORM's CARD OF 'gridironlaw08.MonoHolds'. -/
def monoHoldsUptoCard : Claim7 := { stood := { row := monoHoldsUptoRow, standIns := [], harness := (true, "903614e94e2869ed205be0b142696b17a119fe3862263d4c4239b95c6ee28177"), looks := false }, kinds := [], alts := [], laidByText := true, laidKinds := [.widerDeep], laidTests := true, laidLooks := .later }
def MonoHoldsUptoCardSaid : Prop := Claim7.holds Tryd.pinned (.plain (OpenSpec.upto monoHoldsSpec)) monoHoldsUptoCard
end Rows
end Go.Proofs.YthaoalmhhgllmaaDoor

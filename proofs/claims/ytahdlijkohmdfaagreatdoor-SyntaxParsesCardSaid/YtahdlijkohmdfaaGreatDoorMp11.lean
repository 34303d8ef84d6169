/- Texts joined: Eig. -/
import Derived.Test.YtahdlijkohmdfaaGreatDoorMp06
set_option linter.all false
set_option linter.unusedVariables false
set_option linter.unusedSimpArgs false
namespace Go.Proofs.YtahdlijkohmdfaaGreatDoor
open Go.RowKit

def C8 (w : World) (B : Nat) (v0 v1 v2 v3 v4 v5 v6 v7 : Value) : Prop :=
  w.cell? ⟨B, 0, none⟩ = some v0 ∧ w.cell? ⟨B, 1, none⟩ = some v1 ∧ w.cell? ⟨B, 2, none⟩ = some v2 ∧ w.cell? ⟨B, 3, none⟩ = some v3 ∧
  w.cell? ⟨B, 4, none⟩ = some v4 ∧ w.cell? ⟨B, 5, none⟩ = some v5 ∧ w.cell? ⟨B, 6, none⟩ = some v6 ∧ w.cell? ⟨B, 7, none⟩ = some v7
def F8 (w : World) (B : Nat) : Prop :=
  w.frozen? ⟨B, 0, none⟩ = false ∧ w.frozen? ⟨B, 1, none⟩ = false ∧ w.frozen? ⟨B, 2, none⟩ = false ∧ w.frozen? ⟨B, 3, none⟩ = false ∧
  w.frozen? ⟨B, 4, none⟩ = false ∧ w.frozen? ⟨B, 5, none⟩ = false ∧ w.frozen? ⟨B, 6, none⟩ = false ∧ w.frozen? ⟨B, 7, none⟩ = false
theorem c8_lift {w w' : World} {B : Nat} {v0 v1 v2 v3 v4 v5 v6 v7 : Value} (h : ∀ (j : Nat) (v : Value), w.cell? ⟨B, j, none⟩ = some v → w'.cell? ⟨B, j, none⟩ = some v)
    (h0 : w.cell? ⟨B, 0, none⟩ = some v0) (h1 : w.cell? ⟨B, 1, none⟩ = some v1) (h2 : w.cell? ⟨B, 2, none⟩ = some v2) (h3 : w.cell? ⟨B, 3, none⟩ = some v3)
    (h4 : w.cell? ⟨B, 4, none⟩ = some v4) (h5 : w.cell? ⟨B, 5, none⟩ = some v5) (h6 : w.cell? ⟨B, 6, none⟩ = some v6) (h7 : w.cell? ⟨B, 7, none⟩ = some v7) :
    w'.cell? ⟨B, 0, none⟩ = some v0 ∧ w'.cell? ⟨B, 1, none⟩ = some v1 ∧ w'.cell? ⟨B, 2, none⟩ = some v2 ∧ w'.cell? ⟨B, 3, none⟩ = some v3 ∧
    w'.cell? ⟨B, 4, none⟩ = some v4 ∧ w'.cell? ⟨B, 5, none⟩ = some v5 ∧ w'.cell? ⟨B, 6, none⟩ = some v6 ∧ w'.cell? ⟨B, 7, none⟩ = some v7 :=
  ⟨h _ _ h0, h _ _ h1, h _ _ h2, h _ _ h3, h _ _ h4, h _ _ h5, h _ _ h6, h _ _ h7⟩
theorem f8_lift {w w' : World} {B : Nat} (h : ∀ j : Nat, w.frozen? ⟨B, j, none⟩ = false → w'.frozen? ⟨B, j, none⟩ = false)
    (h0 : w.frozen? ⟨B, 0, none⟩ = false) (h1 : w.frozen? ⟨B, 1, none⟩ = false) (h2 : w.frozen? ⟨B, 2, none⟩ = false) (h3 : w.frozen? ⟨B, 3, none⟩ = false)
    (h4 : w.frozen? ⟨B, 4, none⟩ = false) (h5 : w.frozen? ⟨B, 5, none⟩ = false) (h6 : w.frozen? ⟨B, 6, none⟩ = false) (h7 : w.frozen? ⟨B, 7, none⟩ = false) :
    w'.frozen? ⟨B, 0, none⟩ = false ∧ w'.frozen? ⟨B, 1, none⟩ = false ∧ w'.frozen? ⟨B, 2, none⟩ = false ∧ w'.frozen? ⟨B, 3, none⟩ = false ∧
    w'.frozen? ⟨B, 4, none⟩ = false ∧ w'.frozen? ⟨B, 5, none⟩ = false ∧ w'.frozen? ⟨B, 6, none⟩ = false ∧ w'.frozen? ⟨B, 7, none⟩ = false :=
  ⟨h _ h0, h _ h1, h _ h2, h _ h3, h _ h4, h _ h5, h _ h6, h _ h7⟩
end Go.Proofs.YtahdlijkohmdfaaGreatDoor

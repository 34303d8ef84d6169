/-
  NARROWER THAN 'FOR EVERY INPUT', by the rows' own cells (each row's printed sentence says how): MonoTells: loops, laid · MonoHolds: loops, laid.
  DERIVED. THE GIVEN ROWS OF THIS SEAT. 2 by the template 'for every input the law returns true; each argument reads behind the call as it read before'; 0 by the template 'total and deterministic' (their statements: YthaoalmhhgllmaaDoorTotals.lean).
  GIVEN WITH THE SEED: the statements are not yours to turn. If you find one false, say at which input.
  Laid BY PROGRAM, IN A SANDBOX (cutbox-rows.mjs): the forced cells as the released guide's own fill.sh prints them over the translation 8d51fdd933ee9814… (all of the seat's roots in one cut). By AI agents, Wed Nov 11 2026. No macro, syntax, notation, axiom, sorry.
-/
import Derived.Test.YthaoalmhhgllmaaDoorChecked
import GoSem.Claim
import GoSem.ClaimJoined
import GoSem.ClaimMapViews
import Derived.JoinedTies
import Derived.KernelRfl
namespace Go.Proofs.YthaoalmhhgllmaaDoor
/- THE CELL 'sum', in the pinned program and in every row, IS THE sha256 OF THE DUMP (.gsa) THAT YthaoalmhhgllmaaDoorProg.lean LOADS. Nothing in Lean hashes anything: it is a label: what it is worth is what the hold of that sum in a sandbox is worth. -/
noncomputable def Tryd.pinned : Pinned := { name := "ythaoalmhhgllmaadoor", sum := "8d51fdd933ee9814d759bc3e6857da3b7cb4cd6dfd9a750b42ea3faabf9a456c", checked := Tryd.checked }
namespace Rows
def none {H : Type} : Left H := { results := [], args := [] }

/- WHAT THE LISTED PACKAGE-LEVEL VARIABLES READ AS WHEN THE CALL BEGINS. Each datum BY PROGRAM (the guide's laid-datum.mjs) off the statement by which the dump's own 'gosem.cut.vars' lays the variable. In a bare row this is a premise. The card (YthaoalmhhgllmaaDoorCards.lean) ties it to the program's text. -/
def laid_gridiron_syntax_strengths {H : Type} : DataW H := .agg [.slice [.lit (.string [60]), .lit (.string [60, 61]), .lit (.string [61]), .lit (.string [60, 62]), .lit (.string [62, 61]), .lit (.string [62])] [], .slice [.lit (.string [43]), .lit (.string [45])] [], .slice [.lit (.string [42]), .lit (.string [47])] []]

/-- 'gridironlaw08.MonoTells': WHATEVER THE INPUT: true; the input reads as it did. -/
def monoTellsSpec : ChangeSpec := { name := "monoTells", fn := fun _ => fun
  | [d1, d2, d3] => { results := [.lit (.bool true)], args := [d1, d2, d3] }
  | _ => none }
def monoTellsRow : OpenClaim := { program := "ythaoalmhhgllmaadoor", sum := "8d51fdd933ee9814d759bc3e6857da3b7cb4cd6dfd9a750b42ea3faabf9a456c", func := "gridiron/gridironlaw08.MonoTells", spec := "monoTells", unfollowed := true, recurses := true, named := ["gridiron/syntax.strengths"], loops := true, plainKeys := false, apart := false, laid := [("gridiron/syntax.strengths", laid_gridiron_syntax_strengths)] }
def MonoTellsSaid : Prop := monoTellsRow.holds Tryd.pinned (OpenSpec.ofChange monoTellsSpec)

/-- ITS FALSE NEIGHBOUR: 'it returns false'. Refute it at one input. -/
def monoTellsWrong : ChangeSpec := { name := "monoTells", fn := fun _ => fun
  | [d1, d2, d3] => { results := [.lit (.bool false)], args := [d1, d2, d3] }
  | _ => none }
def MonoTellsWrongFalsely : Prop := monoTellsRow.holds Tryd.pinned (OpenSpec.ofChange monoTellsWrong)

/-- 'gridironlaw08.MonoHolds': WHATEVER THE INPUT: true; the input reads as it did. -/
def monoHoldsSpec : ChangeSpec := { name := "monoHolds", fn := fun _ => fun
  | [d1, d2] => { results := [.lit (.bool true)], args := [d1, d2] }
  | _ => none }
def monoHoldsRow : OpenClaim := { program := "ythaoalmhhgllmaadoor", sum := "8d51fdd933ee9814d759bc3e6857da3b7cb4cd6dfd9a750b42ea3faabf9a456c", func := "gridiron/gridironlaw08.MonoHolds", spec := "monoHolds", unfollowed := true, recurses := true, named := ["gridiron/syntax.strengths"], loops := true, plainKeys := false, apart := false, laid := [("gridiron/syntax.strengths", laid_gridiron_syntax_strengths)] }
def MonoHoldsSaid : Prop := monoHoldsRow.holds Tryd.pinned (OpenSpec.ofChange monoHoldsSpec)

/-- ITS FALSE NEIGHBOUR: 'it returns false'. Refute it at one input. -/
def monoHoldsWrong : ChangeSpec := { name := "monoHolds", fn := fun _ => fun
  | [d1, d2] => { results := [.lit (.bool false)], args := [d1, d2] }
  | _ => none }
def MonoHoldsWrongFalsely : Prop := monoHoldsRow.holds Tryd.pinned (OpenSpec.ofChange monoHoldsWrong)

/- THE SECOND FORM. 'bulk': how many values and letters a reading holds, each counted each time it is reached (what is shared counts as often as it is met; a slice's spare places count too). A statement '..UptoSaid' is the law's where the arguments, and the package variables that the reading takes, are together of bulk at most 1048576: NARROWER than '..Said'. Prove '..Said' where nothing that the law and all that it calls make is longer than what came in: it says more and counts as full. Else prove '..UptoSaid'. A law counts once. -/
mutual
def uptoBulk {H : Type} : DataW H → Nat
  | .lit (.string bytes) => bytes.length + 1
  | .lit _ => 1
  | .nil => 1
  | .ptr d => uptoBulk d + 1
  | .slice elems spare => uptoBulkAll elems + uptoBulkAll spare + 1
  | .agg parts => uptoBulkAll parts + 1
  | .iface _ d => uptoBulk d + 1
  | .map entries => uptoBulkEntries entries + 1
  | .held _ => 1
def uptoBulkAll {H : Type} : List (DataW H) → Nat
  | [] => 0
  | d :: r => uptoBulk d + uptoBulkAll r
def uptoBulkEntries {H : Type} : List (Lit × DataW H) → Nat
  | [] => 0
  | x :: r => uptoBulkEntry x + uptoBulkEntries r
def uptoBulkEntry {H : Type} : Lit × DataW H → Nat
  | (.string bytes, d) => bytes.length + uptoBulk d + 1
  | (_, d) => uptoBulk d + 1
 end
def uptoSmall : (H : Type) → List (DataW H) → Bool := fun _ ds => decide (uptoBulkAll ds ≤ 1048576)
def OpenSpec.upto (s : _root_.Go.ChangeSpec) : _root_.Go.OpenSpec := { _root_.Go.OpenSpec.ofChange s with cond := some uptoSmall }

/-- 'gridironlaw08.MonoTells', WHERE WHAT IT READS IS OF BULK AT MOST 1048576: true; the input reads as it did. -/
def monoTellsUptoRow : OpenClaim := { program := "ythaoalmhhgllmaadoor", sum := "8d51fdd933ee9814d759bc3e6857da3b7cb4cd6dfd9a750b42ea3faabf9a456c", func := "gridiron/gridironlaw08.MonoTells", spec := "monoTells", unfollowed := true, recurses := true, named := ["gridiron/syntax.strengths"], loops := true, plainKeys := false, apart := false, laid := [("gridiron/syntax.strengths", laid_gridiron_syntax_strengths)], narrowed := true }
def MonoTellsUptoSaid : Prop := monoTellsUptoRow.holds Tryd.pinned (OpenSpec.upto monoTellsSpec)

/-- 'gridironlaw08.MonoHolds', WHERE WHAT IT READS IS OF BULK AT MOST 1048576: true; the input reads as it did. -/
def monoHoldsUptoRow : OpenClaim := { program := "ythaoalmhhgllmaadoor", sum := "8d51fdd933ee9814d759bc3e6857da3b7cb4cd6dfd9a750b42ea3faabf9a456c", func := "gridiron/gridironlaw08.MonoHolds", spec := "monoHolds", unfollowed := true, recurses := true, named := ["gridiron/syntax.strengths"], loops := true, plainKeys := false, apart := false, laid := [("gridiron/syntax.strengths", laid_gridiron_syntax_strengths)], narrowed := true }
def MonoHoldsUptoSaid : Prop := monoHoldsUptoRow.holds Tryd.pinned (OpenSpec.upto monoHoldsSpec)

end Rows
end Go.Proofs.YthaoalmhhgllmaaDoor

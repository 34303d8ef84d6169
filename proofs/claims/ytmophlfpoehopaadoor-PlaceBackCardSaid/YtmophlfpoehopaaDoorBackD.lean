/- What each call on the way there and back comes to, in words of its own. -/
import Derived.Test.YtmophlfpoehopaaDoorPlK
import Derived.Test.YtmophlfpoehopaaDoorLawP1
namespace Go.Proofs.YtmophlfpoehopaaDoor
open Go.RowKit

def CellsN (N : Nat) (W : World) (e : Ending) (w' : World) : Prop := ∃ (A : Option Addr) (cap : Nat), e = .returned (.slice A N cap) ∧ Below W.heap.size W w'
def PairC (f : Nat) (args : Array Value) (a b : Int) (t : Bool) : Prop := ∀ w, Calls Tryd.prog f args w fun e w' => e = .returned (.tuple #[.agg #[.int .i64 a, .int .i64 b], .bool t]) ∧ Below w.heap.size w w'
def HasC (a b c d x y : Int) : Prop := ∀ w, Calls Tryd.prog 30 #[.agg #[.int .i64 a, .int .i64 b, .int .i64 c, .int .i64 d], .agg #[.int .i64 x, .int .i64 y]] w fun e w' => e = .returned (.bool true) ∧ Below w.heap.size w w'
def AtC (I a b : Int) : Prop := PairC 9 #[.int .i64 I] a b true
def MoveC (a b x y c d : Int) (t : Bool) : Prop := PairC 17 #[.agg #[.int .i64 a, .int .i64 b], .agg #[.int .i64 x, .int .i64 y]] c d t
def MirC (a b c d : Int) (t : Bool) : Prop := PairC 19 #[.agg #[.int .i64 a, .int .i64 b]] c d t
def TextC (a b : Int) (TX : List UInt8) : Prop := ∀ w, EnvI w → Calls Tryd.prog 13 #[.agg #[.int .i64 a, .int .i64 b]] w fun e w' => e = .returned (.string ⟨TX.toArray⟩) ∧ Below w.heap.size w w'
def ParseC (TX : List UInt8) (a b : Int) : Prop := ∀ w, Calls Tryd.prog 7 #[.string ⟨TX.toArray⟩] w fun e w' => e = .returned (.tuple #[.agg #[.int .i64 a, .int .i64 b], .int .i64 0]) ∧ Below w.heap.size w w'
def IndexC (a b I : Int) : Prop := ∀ w, Calls Tryd.prog 15 #[.agg #[.int .i64 a, .int .i64 b]] w fun e w' => e = .returned (.int .i64 I) ∧ Below w.heap.size w w'
def SpanC (a b c d s t u v : Int) : Prop := ∀ w, Calls Tryd.prog 21 #[.agg #[.int .i64 a, .int .i64 b], .agg #[.int .i64 c, .int .i64 d]] w fun e w' => e = .returned (.tuple #[.agg #[.int .i64 s, .int .i64 t, .int .i64 u, .int .i64 v], .bool true]) ∧ Below w.heap.size w w'
def CellsC (a b c d : Int) (N : Nat) : Prop := ∀ w, Calls Tryd.prog 26 #[.agg #[.int .i64 a, .int .i64 b, .int .i64 c, .int .i64 d]] w (CellsN N w)

end Go.Proofs.YtmophlfpoehopaaDoor

/- Contracts of spec's drawing of one of some numbers, of a date and of a day. -/
import Derived.Test.YtdpbikephjnndaaDoorDraw2
namespace Go.Proofs.YtdpbikephjnndaaDoor
open Go.RowKit

/-- What a call leaves that draws a number with a property. -/
def DrewP (A : Option Addr) (len cap : Nat) (zs : List Int) (W w : World) (g : Nat) (P : Int → Prop) (e : Ending) (w' : World) : Prop :=
  ∃ x : Int, e = .returned (.int .i64 x) ∧ P x ∧ Src A len cap zs W w' g ∧ w.grownBy w' (some g)

end Go.Proofs.YtdpbikephjnndaaDoor

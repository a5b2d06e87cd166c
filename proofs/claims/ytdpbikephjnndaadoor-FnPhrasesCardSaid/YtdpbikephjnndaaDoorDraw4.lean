/- Contracts of spec's drawing of a date and of a day. -/
import Derived.Test.YtdpbikephjnndaaDoorDraw3
namespace Go.Proofs.YtdpbikephjnndaaDoor
open Go.RowKit

/-- What a call leaves that draws a date. -/
def DrewDate (A : Option Addr) (len cap : Nat) (zs : List Int) (W w : World) (g : Nat) (e : Ending) (w' : World) : Prop :=
  ∃ y m d : Int, e = .returned (.agg #[.int .i64 y, .int .i64 m, .int .i64 d]) ∧ (0 ≤ y ∧ y ≤ 3000) ∧ (0 ≤ m ∧ m ≤ 13) ∧ (0 ≤ d ∧ d ≤ 40) ∧ Src A len cap zs W w' g ∧ w.grownBy w' (some g)

end Go.Proofs.YtdpbikephjnndaaDoor

/- Contracts of impl's function that turns days into dates. -/
import Derived.Test.YtdpbikephjnndaaDoorDays
import Derived.Test.YtdpbikephjnndaaDoorBlk
import Derived.StillTailTactics
import Derived.StillTactics
import Derived.Laws.Rows
import Derived.Deep.LoopGhost
namespace Go.Proofs.YtdpbikephjnndaaDoor
open Go.RowKit

/-- What a call that finds a date leaves: the one date with the number n, nothing that was there changed. -/
def SomeDate (f : Bool) (n : Int) (w : World) (e : Ending) (w' : World) : Prop :=
  ∃ y m d : Int, e = .returned (.tuple #[.agg #[.int .i64 y, .int .i64 m, .int .i64 d], .int .i64 0]) ∧ Cal.valid f y m d ∧ Cal.num f y m d = n ∧ Below w.heap.size w w'

end Go.Proofs.YtdpbikephjnndaaDoor

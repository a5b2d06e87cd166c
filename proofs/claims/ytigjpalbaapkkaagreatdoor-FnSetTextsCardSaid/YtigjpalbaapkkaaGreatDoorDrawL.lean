/- Contracts of spec's draws for the laws over sets. -/
import Derived.Test.YtigjpalbaapkkaaGreatDoorDrawS
import Derived.Test.YtigjpalbaapkkaaGreatDoorSetC
namespace Go.Proofs.YtigjpalbaapkkaaGreatDoor.Sets
open Go.RowKit

/-- What a call leaves that draws a list of spans near to a set. -/
def DrawnSet (w : World) (e : Ending) (w' : World) : Prop := ∃ (v : Value) (xs : L), e = .returned v ∧ Sm xs ∧ Own w' w.heap.size v xs ∧ Below w.heap.size w w'
/-- And a number beside it. -/
def DrawnSetK (w : World) (e : Ending) (w' : World) : Prop :=
  ∃ (v : Value) (xs : L) (k : Int), e = .returned (.tuple #[v, .int .i64 k]) ∧ Sm xs ∧ -4000000000 ≤ k ∧ k ≤ 4000000000 ∧ Own w' w.heap.size v xs ∧ Below w.heap.size w w'

def dayish (x : Int) : Prop := -1 ≤ x ∧ x ≤ 730500

end Go.Proofs.YtigjpalbaapkkaaGreatDoor.Sets

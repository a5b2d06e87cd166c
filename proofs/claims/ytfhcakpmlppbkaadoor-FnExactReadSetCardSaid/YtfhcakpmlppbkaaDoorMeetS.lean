/- MeetSets of both. -/
import Derived.Test.YtfhcakpmlppbkaaDoorMeet
import Derived.Test.YtfhcakpmlppbkaaDoorSetC
namespace Go.Proofs.YtfhcakpmlppbkaaDoor.Sets
open Go.RowKit

/-- A set that is answered, if what came in were sets and it isn't too long; and the code. -/
def resV (ok : Bool) (xs : L) : L := if ok then (if xs.length ≤ 300 then xs else []) else []
def resE (ok : Bool) (xs : L) : Int := if ok then (if xs.length ≤ 300 then 0 else 3) else 1
theorem res_len (b : Bool) (xs : L) : (resV b xs).length ≤ 2000000 := by
  unfold resV; split
  · split
    · omega
    · simp
  · simp
def SetOut (xs : L) (c : Int) (w : World) (e : Ending) (w' : World) : Prop :=
  ∃ A cap, e = .returned (.tuple #[.slice A xs.length cap, .int .i64 c]) ∧ Row w' w.heap.size w'.heap.size A xs.length cap xs ∧ Below w.heap.size w w'

end Go.Proofs.YtfhcakpmlppbkaaDoor.Sets
